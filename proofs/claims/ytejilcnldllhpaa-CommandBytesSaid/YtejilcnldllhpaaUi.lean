import Derived.Deep.QuietTactic
import Derived.BigQuiet
import Derived.Deep.RegionWith
import Derived.Deep.RegionHeld3
import Derived.Deep.DeepCutAuto
import Derived.Deep.DeepFit
import Derived.Outline
import Derived.Test.YtejilcnldllhpaaUg
import Derived.Test.YtejilcnldllhpaaUf
import Derived.Test.YtejilcnldllhpaaUh
/- Layer 21: the bytes of a command, by the reference. -/
namespace Go.Proofs.Ytejilcnldllhpaa
open Go.RowKit Go.Deep
set_option linter.unusedVariables false
set_option linter.unusedSimpArgs false
theorem own_byC {w : World} {base n c : Nat} {a : Option Addr} {xs : List Int} (h : OwnB w base (.slice a n c) n xs) : By w w.heap.size a n xs := by
  obtain ⟨a', c', e, _, hb, _⟩ := h.by_
  injection e with e1 e2 e3
  subst e1
  exact hb
theorem own_conv {w : World} {base n : Nat} {v : Value} {xs ys : List Int} (h : OwnB w base v n xs) (e : xs = ys) : OwnB w base v ys.length ys := by
  subst e
  have := h.1
  subst this
  exact h
theorem okC_base {p s k : Int} {f : CF} (h : okC p s k f = true) : 1 ≤ p ∧ p ≤ 8 ∧ 0 ≤ s ∧ s ≤ 1099511627776 ∧ chkL (partsL k) f = true := by
  unfold okC baseB at h
  simp only [Bool.and_eq_true, decide_eq_true_iff] at h
  exact ⟨h.1.2.1, h.1.2.2.1, h.1.2.2.2.1, h.1.2.2.2.2, h.2⟩
theorem uLC_snoc {u : List Int} {q : Nat} (h : q < u.length) : uL (u.take (q + 1)) = uL (u.take q) ++ Wr.numL (u.getD q 0).toNat := by
  unfold uL
  rw [List.take_succ_eq_append_getElem h, List.flatMap_append]
  simp [List.getD, List.getElem?_eq_getElem h]
set_option maxRecDepth 100000 in
set_option maxHeartbeats 800000 in
theorem units22_any (a : Option Addr) (m c : Nat) (u : List Int) (w : World) (hN : Nq w w.heap.size a m u) (hm : m ≤ 1000) (hu : Hk (∀ b ∈ u, 0 < b ∧ b ≤ 1099511627776)) :
    Calls Try.prog 72 #[.slice a m c] w fun e w' => ∃ v, e = .returned v ∧ OwnB w' w.heap.size v (Wr.numL m ++ uL u).length (Wr.numL m ++ uL u) ∧ Below w.heap.size w w' := by
  have L0V : w.heap.size ≤ w.heap.size := Nat.le_refl _
  have HNQ := Hk.mk hN
  have HL := Hk.mk hN.len
  have lm : (Wr.numL m).length ≤ 9 := Wr.numL_nine (by omega)
  clear hN
  go_enter Try.func72, Try.ntmps72
  go_wp2_with (go_at_call 70; (with_reducible refine (rnum_at (m : Int) m _ ⟨rfl⟩ ⟨by omega⟩).mono ?_); rintro e z ⟨v, rfl, hon, hb⟩; have HO1 := Hk.mk (own_conv (ys := Wr.numL m ++ uL (u.take 0)) hon (by simp [uL])); have HB1 := Hk.mk hb; clear hon hb)
  go_loopw [3, 4] (fun v i wr => ∃ q : Nat, i = .int .i64 q ∧ q ≤ m ∧ Hk (OwnB wr w.heap.size v (Wr.numL m ++ uL (u.take q)).length (Wr.numL m ++ uL (u.take q))) ∧ Hk (Below w.heap.size w wr)) (fun _ i _ => m - (intOf i).toNat)
  case atStart => exact ⟨0, rfl, Nat.zero_le _, HO1, HB1⟩
  case round =>
    clear HO1 HB1
    obtain ⟨q, rfl, hq, HO, HB⟩ := hrel
    obtain ⟨hc, hf, hl', hn', hm'⟩ := kw_rules HB.out L0V
    by_cases hlt : q < m
    · obtain ⟨b, off, rfl, hbl, hcell⟩ := HNQ.out.rd (by omega)
      have hcq := hcell q hlt
      have hmem : u.getD q 0 ∈ u := getD_mem (by rw [HL.out]; exact hlt)
      have hbd := hu.out _ hmem
      have hlen : (Wr.numL m ++ uL (u.take q)).length ≤ 20000 := by
        have := uL_len (u.take q) (fun b hb => (hu.out b (List.mem_of_mem_take hb)).2)
        rw [List.length_append]
        rw [List.length_take] at this
        omega
      have HSN := Hk.mk (uLC_snoc (u := u) (q := q) (by rw [HL.out]; exact hlt))
      obtain ⟨g, hg⟩ : ∃ g, u.getD q 0 = g := ⟨_, rfl⟩
      rw [hg] at hcq hbd HSN
      obtain ⟨N, hNl⟩ : ∃ N, (Wr.numL m ++ uL (u.take q)).length = N := ⟨_, rfl⟩
      rw [hNl] at HO hlen
      have lg := numL_nine' (z := g) hbd.2
      have Zg : Hk (g = g.toNat) := ⟨by omega⟩
      have Yg : Hk (g.toNat ≤ 9223372036854775807) := ⟨by omega⟩
      have i1 : (0 : Int) ≤ (q : Int) := by omega
      have i2 : (q : Int) < (m : Int) := by omega
      clear hcell hmem hbd hg hNl
      go_wp2_with (first
        | (go_at_call 70; (with_reducible refine (rnum_at g g.toNat _ Zg Yg).mono ?_); rintro e z ⟨vn, rfl, hon, hb⟩; obtain ⟨an, cn, rfl, -, -, -⟩ := hon.by_; have HN := Hk.mk (hon.weak (kw_le HB.out L0V)); replace HO := Hk.mk (HO.out.below hb); replace HB := Hk.mk (kw_step HB.out L0V hb); clear hon hb; clear hc hf hl' hn' hm'; obtain ⟨hc, hf, hl', hn', hm'⟩ := kw_rules HB.out L0V)
        | (at_builtin; go_must (refine wpList_append_by _ rfl _ _ rfl w.heap.size _ _ _ rfl HO.out _ _ _ _ _ rfl (own_byC HN.out) HN.out.an23 (by omega) (kw_le HB.out L0V) ?_); intro v2 z ho2 hg2; replace HB := Hk.mk (HB.out.grown hg2 (kw_le HB.out L0V) (fun g hg => (HO.out.lt g hg).1)); replace HO := Hk.mk ho2; clear ho2 hg2 HN; clear hc hf hl' hn' hm'; obtain ⟨hc, hf, hl', hn', hm'⟩ := kw_rules HB.out L0V))
      exact ⟨⟨q + 1, by go_num, by omega, ⟨own_conv HO.out (by rw [HSN.out, List.append_assoc])⟩, HB⟩, by simp [intOf]; omega⟩
    · obtain rfl : q = m := by omega
      go_wp2
      go_ret
      exact ⟨_, rfl, by have := HO.out; rwa [List.take_of_length_le (by rw [HL.out]; exact Nat.le_refl _)] at this, HB.out⟩
theorem units22_as (a : Option Addr) (m c : Nat) (u : List Int) (NU : Nat) (w : World) (hN : Nq w w.heap.size a m u) (hm : m ≤ 1000) (hu : Hk (∀ b ∈ u, 0 < b ∧ b ≤ 1099511627776)) (hNU : Hk ((Wr.numL m ++ uL u).length = NU)) :
    Calls Try.prog 72 #[.slice a m c] w fun e w' => ∃ v, e = .returned v ∧ OwnB w' w.heap.size v NU (Wr.numL m ++ uL u) ∧ Below w.heap.size w w' := by
  rw [← hNU.out]
  exact units22_any a m c u w hN hm hu
set_option maxRecDepth 100000 in
set_option maxHeartbeats 1600000 in
theorem rbytes21_5 (p s n : Int) (a : Option Addr) (m c : Nat) (u : List Int) (t wd h x y : Int) (w : World) (hN : Nq w w.heap.size a m u) (hm : m ≤ 1000) (hok : okC p s 5 ⟨n, u, t, wd, h, x, y⟩ = true) :
    Calls Try.prog 22 #[.agg #[.int .i64 p, .int .i64 s, .int .i64 5, .int .i64 n, .slice a m c, .int .i64 t, .int .i64 wd, .int .i64 h, .int .i64 x, .int .i64 y]] w fun e w' => ∃ v, e = .returned v ∧ OwnB w' w.heap.size v (bytesC p s 5 ⟨n, u, t, wd, h, x, y⟩).length (bytesC p s 5 ⟨n, u, t, wd, h, x, y⟩) ∧ Below w.heap.size w w' := by
  obtain ⟨bp1, bp2, bs1, bs2, bc⟩ := okC_base hok
  have HPB := Hk.mk (Bk.new w #[.int .i64 p, .int .i64 s, .int .i64 5, .int .i64 n, .slice a m c, .int .i64 t, .int .i64 wd, .int .i64 h, .int .i64 x, .int .i64 y] 28)
  have HW := Hk.mk ((Below.refl w.heap.size w).alloc (Nat.le_refl _) (.cells #[.int .i64 p, .int .i64 s, .int .i64 5, .int .i64 n, .slice a m c, .int .i64 t, .int .i64 wd, .int .i64 h, .int .i64 x, .int .i64 y] 28))
  have HNU0 := Hk.mk (hN.below HW.out (Nat.le_refl _))
  have Zp : Hk (p = p.toNat) := ⟨by omega⟩
  have Yp : Hk (p.toNat ≤ 9223372036854775807) := ⟨by omega⟩
  have Zs : Hk (s = s.toNat) := ⟨by omega⟩
  have Ys : Hk (s.toNat ≤ 9223372036854775807) := ⟨by omega⟩
  have lp := numL_nine' (z := p) (by omega)
  have ls := numL_nine' (z := s) (by omega)
  have lk : (Wr.numL 5).length ≤ 9 := Wr.numL_nine (by omega)
  clear hN
  have bn : 0 ≤ n ∧ n ≤ 1099511627776 := by simp [partsL, chkL, vB, eC, remB] at bc; omega
  have Zn : Hk (n = n.toNat) := ⟨by omega⟩
  have Yn : Hk (n.toNat ≤ 9223372036854775807) := ⟨by omega⟩
  have ln := numL_nine' (z := n) (by omega)
  clear bc hok
  go_enter Try.func22, Try.ntmps22
  go_upto_region 1 with (fail)
  generalize w.alloc (.cells #[.int .i64 p, .int .i64 s, .int .i64 5, .int .i64 n, .slice a m c, .int .i64 t, .int .i64 wd, .int .i64 h, .int .i64 x, .int .i64 y] 28) = VA at *
  have d0 : VA.cell? ⟨w.heap.size, 0, none⟩ = some (.int .i64 p) := HPB.out.c 0
  have d1 : VA.cell? ⟨w.heap.size, 1, none⟩ = some (.int .i64 s) := HPB.out.c 1
  have d2 : VA.cell? ⟨w.heap.size, 2, none⟩ = some (.int .i64 5) := HPB.out.c 2
  have d3 : VA.cell? ⟨w.heap.size, 3, none⟩ = some (.int .i64 n) := HPB.out.c 3
  have d4 : VA.cell? ⟨w.heap.size, 4, none⟩ = some (.slice a m c) := HPB.out.c 4
  have d5 : VA.cell? ⟨w.heap.size, 5, none⟩ = some (.int .i64 t) := HPB.out.c 5
  have d6 : VA.cell? ⟨w.heap.size, 6, none⟩ = some (.int .i64 wd) := HPB.out.c 6
  have d7 : VA.cell? ⟨w.heap.size, 7, none⟩ = some (.int .i64 h) := HPB.out.c 7
  have d8 : VA.cell? ⟨w.heap.size, 8, none⟩ = some (.int .i64 x) := HPB.out.c 8
  have d9 : VA.cell? ⟨w.heap.size, 9, none⟩ = some (.int .i64 y) := HPB.out.c 9
  have bX := HPB.out.lt
  have hsw : Hk (w.heap.size ≤ VA.heap.size) := ⟨by omega⟩
  have HNU : Hk (∀ X, Below VA.heap.size VA X → Nq X X.heap.size a m u) := ⟨fun X hX => (HNU0.out.below hX hsw.out).mono (by have := hX.size; omega)⟩
  clear HPB HNU0
  have L0V : VA.heap.size ≤ VA.heap.size := Nat.le_refl _
  apply reg_merge
  intro HG3
  apply reg_merge
  intro HG2
  apply reg_merge
  intro HG1
  refine wp_region_held_drew (S := fun Z => (∀ b o, b < VA.heap.size → Z.cell? ⟨b, o, none⟩ = VA.cell? ⟨b, o, none⟩)) (by kernel_rfl) (fun _ _ _ => rfl) (fun hHeld => ?_)
  have HB : Hk (Below VA.heap.size VA VA.drew) := ⟨(Below.refl _ _).drew⟩
  obtain ⟨W1, hWe⟩ : ∃ W1, VA.drew = W1 := ⟨_, rfl⟩
  rw [hWe] at HB hHeld ⊢
  clear hWe
  refine wpAnyH_take (i := 0) (v := ?_) rfl (by kernel_rfl) (by kernel_rfl) (by kernel_rfl) (fun _ _ _ h => h) (Or.inl ⟨by rfl, fun wX hSw => ?_⟩) (by assumption) ?_
  rotate_left
  · (try dsimp only at hSw); go_simp; try with_reducible rfl
  (try simp only [Act.put, List.getElem_toArray, List.getElem_cons_succ, List.getElem_cons_zero, List.setIfInBounds_toArray, List.set_cons_zero, List.set_cons_succ])
  refine wpAnyH_take (i := 1) (v := ?_) rfl (by kernel_rfl) (by kernel_rfl) (by kernel_rfl) (fun _ _ _ h => h) (Or.inl ⟨by rfl, fun wX hSw => ?_⟩) (by assumption) ?_
  rotate_left
  · (try dsimp only at hSw); go_simp; try with_reducible rfl
  (try simp only [Act.put, List.getElem_toArray, List.getElem_cons_succ, List.getElem_cons_zero, List.setIfInBounds_toArray, List.set_cons_zero, List.set_cons_succ])
  refine wpAnyH_take (i := 3) (v := ?_) rfl (by kernel_rfl) (by kernel_rfl) (by kernel_rfl) (fun _ _ _ h => h) (Or.inl ⟨by rfl, fun wX hSw => ?_⟩) (by assumption) ?_
  rotate_left
  · (try dsimp only at hSw); go_simp; try with_reducible rfl
  (try simp only [Act.put, List.getElem_toArray, List.getElem_cons_succ, List.getElem_cons_zero, List.setIfInBounds_toArray, List.set_cons_zero, List.set_cons_succ])
  refine wpAnyH_take (i := 4) (v := ?_) rfl (by kernel_rfl) (by kernel_rfl) (by kernel_rfl) (fun _ _ _ h => h) (Or.inl ⟨by rfl, fun wX hSw => ?_⟩) (by assumption) ?_
  rotate_left
  · (try dsimp only at hSw); go_simp; try with_reducible rfl
  (try simp only [Act.put, List.getElem_toArray, List.getElem_cons_succ, List.getElem_cons_zero, List.setIfInBounds_toArray, List.set_cons_zero, List.set_cons_succ])
  refine wpAnyH_ready (rs := [2]) (by kernel_rfl) (by simp) ?_
  refine AllReadyH.cons rfl (fun K hK => ?_) (AllReadyH.nil)
  · skip
    go_simp
    (first
  | (go_at_call 70; ((with_reducible refine (rnum_at 5 5 _ ⟨rfl⟩ ⟨by omega⟩).mono ?_); rintro e z ⟨vn, rfl, hon, hb⟩; obtain ⟨a7, c7, rfl, -, -, -⟩ := hon.by_; have HO7 := Hk.mk (hon.weak (kw_le HB.out L0V)); clear hon))
  | (go_at_call 70; ((with_reducible refine (rnum_at p p.toNat _ Zp Yp).mono ?_); rintro e z ⟨vn, rfl, hon, hb⟩; obtain ⟨a8, c8, rfl, -, -, -⟩ := hon.by_; have HO8 := Hk.mk (hon.weak (kw_le HB.out L0V)); clear hon)))
    replace HB := Hk.mk (kw_step HB.out L0V hb)
    clear hb
    refine hK.out _ _ ?_ (fun hHeld2 => ?_)
    · exact kw_s HB.out
    clear hK K hHeld
    have hHeld := hHeld2
    clear hHeld2
    (try simp only [Act.put, List.getElem_toArray, List.getElem_cons_succ, List.getElem_cons_zero, List.setIfInBounds_toArray, List.set_cons_zero, List.set_cons_succ])
    refine reg_cast (l' := #[true, true, true, true, true, false, false, false]) (by kernel_rfl) ?_
    revert hHeld
    revert HO7
    revert HB
    revert c7
    revert a7
    revert z
    exact HG1.out
  intro W1 a7 c7 HB HO7 hHeld
  refine wpAnyH_ready (rs := [5]) (by kernel_rfl) (by simp) ?_
  refine AllReadyH.cons rfl (fun K hK => ?_) (AllReadyH.nil)
  · skip
    go_simp
    (first
  | (go_at_call 70; ((with_reducible refine (rnum_at 5 5 _ ⟨rfl⟩ ⟨by omega⟩).mono ?_); rintro e z ⟨vn, rfl, hon, hb⟩; obtain ⟨a7, c7, rfl, -, -, -⟩ := hon.by_; have HO7 := Hk.mk (hon.weak (kw_le HB.out L0V)); clear hon))
  | (go_at_call 70; ((with_reducible refine (rnum_at p p.toNat _ Zp Yp).mono ?_); rintro e z ⟨vn, rfl, hon, hb⟩; obtain ⟨a8, c8, rfl, -, -, -⟩ := hon.by_; have HO8 := Hk.mk (hon.weak (kw_le HB.out L0V)); clear hon)))
    replace HO7 := Hk.mk (HO7.out.below hb)
    replace HB := Hk.mk (kw_step HB.out L0V hb)
    clear hb
    refine hK.out _ _ ?_ (fun hHeld2 => ?_)
    · exact kw_s HB.out
    clear hK K hHeld
    have hHeld := hHeld2
    clear hHeld2
    (try simp only [Act.put, List.getElem_toArray, List.getElem_cons_succ, List.getElem_cons_zero, List.setIfInBounds_toArray, List.set_cons_zero, List.set_cons_succ])
    refine reg_cast (l' := #[true, true, true, true, true, true, false, false]) (by kernel_rfl) ?_
    revert hHeld
    revert HO8
    revert HO7
    revert HB
    revert c8
    revert a8
    revert c7
    revert a7
    revert z
    exact HG2.out
  intro W1 a7 c7 a8 c8 HB HO7 HO8 hHeld
  refine wpAnyH_ready (rs := [6]) (by kernel_rfl) (by simp) ?_
  refine AllReadyH.cons rfl (fun K hK => ?_) (AllReadyH.nil)
  · skip
    (refine step_append_by _ (by rfl) (.tmp 6) (.tmp 9) (by rfl) VA.heap.size _ _ _ (by rfl) HO7.out _ _ _ _ _ (by rfl) (own_byC HO8.out) HO8.out.an23 (by omega) (kw_le HB.out L0V) ?_; intro v9 z ho5 hg5; replace HB := Hk.mk (HB.out.grown hg5 (kw_le HB.out L0V) (fun g hg => (HO7.out.lt g hg).1)); have HO := Hk.mk ho5; clear ho5 hg5)
    refine hK.out _ _ ?_ (fun hHeld2 => ?_)
    · exact kw_s HB.out
    clear hK K hHeld
    have hHeld := hHeld2
    clear hHeld2
    (try simp only [Act.put, List.getElem_toArray, List.getElem_cons_succ, List.getElem_cons_zero, List.setIfInBounds_toArray, List.set_cons_zero, List.set_cons_succ])
    clear HO7
    clear HO8
    refine wpAnyH_take (i := 7) (v := ?_) rfl (by kernel_rfl) (by kernel_rfl) (by kernel_rfl) (fun _ _ _ h => h) (Or.inl ⟨by rfl, fun wX hSw => ?_⟩) (by assumption) ?_
    rotate_left
    · (try dsimp only at hSw); go_simp; try with_reducible rfl
    (try simp only [Act.put, List.getElem_toArray, List.getElem_cons_succ, List.getElem_cons_zero, List.setIfInBounds_toArray, List.set_cons_zero, List.set_cons_succ])
    refine reg_cast (l' := #[true, true, true, true, true, true, true, true]) (by kernel_rfl) ?_
    revert hHeld
    revert HO
    revert HB
    revert v9
    revert c8
    revert a8
    revert c7
    revert a7
    revert z
    exact HG3.out
  intro W1 a7 c7 a8 c8 v9 HB HO hHeld
  refine wpAnyH_done (by kernel_rfl) ?_ _
  clear hHeld
  obtain ⟨hc, hf, hl', hn', hm'⟩ := kw_rules HB.out L0V
  go_wp2_with (first | (go_at_call 70; (first | (with_reducible refine (rnum_at s s.toNat _ Zs Ys).mono ?_) | (with_reducible refine (rnum_at n n.toNat _ Zn Yn).mono ?_) | (with_reducible refine (rnum_at t t.toNat _ Zt Yt).mono ?_) | (with_reducible refine (rnum_at wd wd.toNat _ Zw Yw).mono ?_) | (with_reducible refine (rnum_at h h.toNat _ Zh Yh).mono ?_)); rintro e z ⟨vn, rfl, hon, hb⟩; obtain ⟨an, cn, rfl, -, -, -⟩ := hon.by_; have HN := Hk.mk (hon.weak (kw_le HB.out L0V)); replace HO := Hk.mk (HO.out.below hb); replace HB := Hk.mk (kw_step HB.out L0V hb); clear hon hb; clear hc hf hl' hn' hm'; obtain ⟨hc, hf, hl', hn', hm'⟩ := kw_rules HB.out L0V) | (at_builtin; go_must (refine wpList_append_by _ rfl _ _ rfl VA.heap.size _ _ _ rfl HO.out _ _ _ _ _ rfl (own_byC HN.out) HN.out.an23 (by omega) (kw_le HB.out L0V) ?_); intro v2 z ho2 hg2; replace HB := Hk.mk (HB.out.grown hg2 (kw_le HB.out L0V) (fun g hg => (HO.out.lt g hg).1)); replace HO := Hk.mk ho2; clear ho2 hg2 HN; clear hc hf hl' hn' hm'; obtain ⟨hc, hf, hl', hn', hm'⟩ := kw_rules HB.out L0V))
  go_ret
  exact ⟨_, rfl, (own_conv HO.out (by first | (simp [bytesC, partsL, wrB]; done) | (simp [bytesC, partsL, wrB, HMU.out]; done))).weak hsw.out, HW.out.trans (HB.out.mono hsw.out)⟩
set_option maxRecDepth 100000 in
set_option maxHeartbeats 1600000 in
theorem rbytes21_1 (p s n : Int) (a : Option Addr) (m c : Nat) (u : List Int) (t wd h x y : Int) (w : World) (hN : Nq w w.heap.size a m u) (hm : m ≤ 1000) (hok : okC p s 1 ⟨n, u, t, wd, h, x, y⟩ = true) :
    Calls Try.prog 22 #[.agg #[.int .i64 p, .int .i64 s, .int .i64 1, .int .i64 n, .slice a m c, .int .i64 t, .int .i64 wd, .int .i64 h, .int .i64 x, .int .i64 y]] w fun e w' => ∃ v, e = .returned v ∧ OwnB w' w.heap.size v (bytesC p s 1 ⟨n, u, t, wd, h, x, y⟩).length (bytesC p s 1 ⟨n, u, t, wd, h, x, y⟩) ∧ Below w.heap.size w w' := by
  obtain ⟨bp1, bp2, bs1, bs2, bc⟩ := okC_base hok
  have HPB := Hk.mk (Bk.new w #[.int .i64 p, .int .i64 s, .int .i64 1, .int .i64 n, .slice a m c, .int .i64 t, .int .i64 wd, .int .i64 h, .int .i64 x, .int .i64 y] 28)
  have HW := Hk.mk ((Below.refl w.heap.size w).alloc (Nat.le_refl _) (.cells #[.int .i64 p, .int .i64 s, .int .i64 1, .int .i64 n, .slice a m c, .int .i64 t, .int .i64 wd, .int .i64 h, .int .i64 x, .int .i64 y] 28))
  have HNU0 := Hk.mk (hN.below HW.out (Nat.le_refl _))
  have Zp : Hk (p = p.toNat) := ⟨by omega⟩
  have Yp : Hk (p.toNat ≤ 9223372036854775807) := ⟨by omega⟩
  have Zs : Hk (s = s.toNat) := ⟨by omega⟩
  have Ys : Hk (s.toNat ≤ 9223372036854775807) := ⟨by omega⟩
  have lp := numL_nine' (z := p) (by omega)
  have ls := numL_nine' (z := s) (by omega)
  have lk : (Wr.numL 1).length ≤ 9 := Wr.numL_nine (by omega)
  clear hN
  have bn : 0 ≤ n ∧ n ≤ 1099511627776 := by simp [partsL, chkL, vB, eC, remB] at bc; omega
  have Zn : Hk (n = n.toNat) := ⟨by omega⟩
  have Yn : Hk (n.toNat ≤ 9223372036854775807) := ⟨by omega⟩
  have ln := numL_nine' (z := n) (by omega)
  have bx : -1099511627776 ≤ x ∧ x ≤ 1099511627776 ∧ -1099511627776 ≤ y ∧ y ≤ 1099511627776 := by simp [partsL, chkL, vB, eC, remB] at bc; omega
  have Ix : I62 x := by unfold I62; omega
  have Iy : I62 y := by unfold I62; omega
  have lx : (Wr.numL (Wr.zig x)).length ≤ 9 := Wr.numL_nine (by have := zig_bd Ix; omega)
  have ly : (Wr.numL (Wr.zig y)).length ≤ 9 := Wr.numL_nine (by have := zig_bd Iy; omega)
  clear bc hok
  go_enter Try.func22, Try.ntmps22
  go_upto_region 1 with (fail)
  generalize w.alloc (.cells #[.int .i64 p, .int .i64 s, .int .i64 1, .int .i64 n, .slice a m c, .int .i64 t, .int .i64 wd, .int .i64 h, .int .i64 x, .int .i64 y] 28) = VA at *
  have d0 : VA.cell? ⟨w.heap.size, 0, none⟩ = some (.int .i64 p) := HPB.out.c 0
  have d1 : VA.cell? ⟨w.heap.size, 1, none⟩ = some (.int .i64 s) := HPB.out.c 1
  have d2 : VA.cell? ⟨w.heap.size, 2, none⟩ = some (.int .i64 1) := HPB.out.c 2
  have d3 : VA.cell? ⟨w.heap.size, 3, none⟩ = some (.int .i64 n) := HPB.out.c 3
  have d4 : VA.cell? ⟨w.heap.size, 4, none⟩ = some (.slice a m c) := HPB.out.c 4
  have d5 : VA.cell? ⟨w.heap.size, 5, none⟩ = some (.int .i64 t) := HPB.out.c 5
  have d6 : VA.cell? ⟨w.heap.size, 6, none⟩ = some (.int .i64 wd) := HPB.out.c 6
  have d7 : VA.cell? ⟨w.heap.size, 7, none⟩ = some (.int .i64 h) := HPB.out.c 7
  have d8 : VA.cell? ⟨w.heap.size, 8, none⟩ = some (.int .i64 x) := HPB.out.c 8
  have d9 : VA.cell? ⟨w.heap.size, 9, none⟩ = some (.int .i64 y) := HPB.out.c 9
  have bX := HPB.out.lt
  have hsw : Hk (w.heap.size ≤ VA.heap.size) := ⟨by omega⟩
  have HNU : Hk (∀ X, Below VA.heap.size VA X → Nq X X.heap.size a m u) := ⟨fun X hX => (HNU0.out.below hX hsw.out).mono (by have := hX.size; omega)⟩
  clear HPB HNU0
  have L0V : VA.heap.size ≤ VA.heap.size := Nat.le_refl _
  apply reg_merge
  intro HG3
  apply reg_merge
  intro HG2
  apply reg_merge
  intro HG1
  refine wp_region_held_drew (S := fun Z => (∀ b o, b < VA.heap.size → Z.cell? ⟨b, o, none⟩ = VA.cell? ⟨b, o, none⟩)) (by kernel_rfl) (fun _ _ _ => rfl) (fun hHeld => ?_)
  have HB : Hk (Below VA.heap.size VA VA.drew) := ⟨(Below.refl _ _).drew⟩
  obtain ⟨W1, hWe⟩ : ∃ W1, VA.drew = W1 := ⟨_, rfl⟩
  rw [hWe] at HB hHeld ⊢
  clear hWe
  refine wpAnyH_take (i := 0) (v := ?_) rfl (by kernel_rfl) (by kernel_rfl) (by kernel_rfl) (fun _ _ _ h => h) (Or.inl ⟨by rfl, fun wX hSw => ?_⟩) (by assumption) ?_
  rotate_left
  · (try dsimp only at hSw); go_simp; try with_reducible rfl
  (try simp only [Act.put, List.getElem_toArray, List.getElem_cons_succ, List.getElem_cons_zero, List.setIfInBounds_toArray, List.set_cons_zero, List.set_cons_succ])
  refine wpAnyH_take (i := 1) (v := ?_) rfl (by kernel_rfl) (by kernel_rfl) (by kernel_rfl) (fun _ _ _ h => h) (Or.inl ⟨by rfl, fun wX hSw => ?_⟩) (by assumption) ?_
  rotate_left
  · (try dsimp only at hSw); go_simp; try with_reducible rfl
  (try simp only [Act.put, List.getElem_toArray, List.getElem_cons_succ, List.getElem_cons_zero, List.setIfInBounds_toArray, List.set_cons_zero, List.set_cons_succ])
  refine wpAnyH_take (i := 3) (v := ?_) rfl (by kernel_rfl) (by kernel_rfl) (by kernel_rfl) (fun _ _ _ h => h) (Or.inl ⟨by rfl, fun wX hSw => ?_⟩) (by assumption) ?_
  rotate_left
  · (try dsimp only at hSw); go_simp; try with_reducible rfl
  (try simp only [Act.put, List.getElem_toArray, List.getElem_cons_succ, List.getElem_cons_zero, List.setIfInBounds_toArray, List.set_cons_zero, List.set_cons_succ])
  refine wpAnyH_take (i := 4) (v := ?_) rfl (by kernel_rfl) (by kernel_rfl) (by kernel_rfl) (fun _ _ _ h => h) (Or.inl ⟨by rfl, fun wX hSw => ?_⟩) (by assumption) ?_
  rotate_left
  · (try dsimp only at hSw); go_simp; try with_reducible rfl
  (try simp only [Act.put, List.getElem_toArray, List.getElem_cons_succ, List.getElem_cons_zero, List.setIfInBounds_toArray, List.set_cons_zero, List.set_cons_succ])
  refine wpAnyH_ready (rs := [2]) (by kernel_rfl) (by simp) ?_
  refine AllReadyH.cons rfl (fun K hK => ?_) (AllReadyH.nil)
  · skip
    go_simp
    (first
  | (go_at_call 70; ((with_reducible refine (rnum_at 1 1 _ ⟨rfl⟩ ⟨by omega⟩).mono ?_); rintro e z ⟨vn, rfl, hon, hb⟩; obtain ⟨a7, c7, rfl, -, -, -⟩ := hon.by_; have HO7 := Hk.mk (hon.weak (kw_le HB.out L0V)); clear hon))
  | (go_at_call 70; ((with_reducible refine (rnum_at p p.toNat _ Zp Yp).mono ?_); rintro e z ⟨vn, rfl, hon, hb⟩; obtain ⟨a8, c8, rfl, -, -, -⟩ := hon.by_; have HO8 := Hk.mk (hon.weak (kw_le HB.out L0V)); clear hon)))
    replace HB := Hk.mk (kw_step HB.out L0V hb)
    clear hb
    refine hK.out _ _ ?_ (fun hHeld2 => ?_)
    · exact kw_s HB.out
    clear hK K hHeld
    have hHeld := hHeld2
    clear hHeld2
    (try simp only [Act.put, List.getElem_toArray, List.getElem_cons_succ, List.getElem_cons_zero, List.setIfInBounds_toArray, List.set_cons_zero, List.set_cons_succ])
    refine reg_cast (l' := #[true, true, true, true, true, false, false, false]) (by kernel_rfl) ?_
    revert hHeld
    revert HO7
    revert HB
    revert c7
    revert a7
    revert z
    exact HG1.out
  intro W1 a7 c7 HB HO7 hHeld
  refine wpAnyH_ready (rs := [5]) (by kernel_rfl) (by simp) ?_
  refine AllReadyH.cons rfl (fun K hK => ?_) (AllReadyH.nil)
  · skip
    go_simp
    (first
  | (go_at_call 70; ((with_reducible refine (rnum_at 1 1 _ ⟨rfl⟩ ⟨by omega⟩).mono ?_); rintro e z ⟨vn, rfl, hon, hb⟩; obtain ⟨a7, c7, rfl, -, -, -⟩ := hon.by_; have HO7 := Hk.mk (hon.weak (kw_le HB.out L0V)); clear hon))
  | (go_at_call 70; ((with_reducible refine (rnum_at p p.toNat _ Zp Yp).mono ?_); rintro e z ⟨vn, rfl, hon, hb⟩; obtain ⟨a8, c8, rfl, -, -, -⟩ := hon.by_; have HO8 := Hk.mk (hon.weak (kw_le HB.out L0V)); clear hon)))
    replace HO7 := Hk.mk (HO7.out.below hb)
    replace HB := Hk.mk (kw_step HB.out L0V hb)
    clear hb
    refine hK.out _ _ ?_ (fun hHeld2 => ?_)
    · exact kw_s HB.out
    clear hK K hHeld
    have hHeld := hHeld2
    clear hHeld2
    (try simp only [Act.put, List.getElem_toArray, List.getElem_cons_succ, List.getElem_cons_zero, List.setIfInBounds_toArray, List.set_cons_zero, List.set_cons_succ])
    refine reg_cast (l' := #[true, true, true, true, true, true, false, false]) (by kernel_rfl) ?_
    revert hHeld
    revert HO8
    revert HO7
    revert HB
    revert c8
    revert a8
    revert c7
    revert a7
    revert z
    exact HG2.out
  intro W1 a7 c7 a8 c8 HB HO7 HO8 hHeld
  refine wpAnyH_ready (rs := [6]) (by kernel_rfl) (by simp) ?_
  refine AllReadyH.cons rfl (fun K hK => ?_) (AllReadyH.nil)
  · skip
    (refine step_append_by _ (by rfl) (.tmp 6) (.tmp 9) (by rfl) VA.heap.size _ _ _ (by rfl) HO7.out _ _ _ _ _ (by rfl) (own_byC HO8.out) HO8.out.an23 (by omega) (kw_le HB.out L0V) ?_; intro v9 z ho5 hg5; replace HB := Hk.mk (HB.out.grown hg5 (kw_le HB.out L0V) (fun g hg => (HO7.out.lt g hg).1)); have HO := Hk.mk ho5; clear ho5 hg5)
    refine hK.out _ _ ?_ (fun hHeld2 => ?_)
    · exact kw_s HB.out
    clear hK K hHeld
    have hHeld := hHeld2
    clear hHeld2
    (try simp only [Act.put, List.getElem_toArray, List.getElem_cons_succ, List.getElem_cons_zero, List.setIfInBounds_toArray, List.set_cons_zero, List.set_cons_succ])
    clear HO7
    clear HO8
    refine wpAnyH_take (i := 7) (v := ?_) rfl (by kernel_rfl) (by kernel_rfl) (by kernel_rfl) (fun _ _ _ h => h) (Or.inl ⟨by rfl, fun wX hSw => ?_⟩) (by assumption) ?_
    rotate_left
    · (try dsimp only at hSw); go_simp; try with_reducible rfl
    (try simp only [Act.put, List.getElem_toArray, List.getElem_cons_succ, List.getElem_cons_zero, List.setIfInBounds_toArray, List.set_cons_zero, List.set_cons_succ])
    refine reg_cast (l' := #[true, true, true, true, true, true, true, true]) (by kernel_rfl) ?_
    revert hHeld
    revert HO
    revert HB
    revert v9
    revert c8
    revert a8
    revert c7
    revert a7
    revert z
    exact HG3.out
  intro W1 a7 c7 a8 c8 v9 HB HO hHeld
  refine wpAnyH_done (by kernel_rfl) ?_ _
  clear hHeld
  obtain ⟨hc, hf, hl', hn', hm'⟩ := kw_rules HB.out L0V
  go_wp2_with (first | (go_at_call 70; (first | (with_reducible refine (rnum_at s s.toNat _ Zs Ys).mono ?_) | (with_reducible refine (rnum_at n n.toNat _ Zn Yn).mono ?_) | (with_reducible refine (rnum_at t t.toNat _ Zt Yt).mono ?_) | (with_reducible refine (rnum_at wd wd.toNat _ Zw Yw).mono ?_) | (with_reducible refine (rnum_at h h.toNat _ Zh Yh).mono ?_)); rintro e z ⟨vn, rfl, hon, hb⟩; obtain ⟨an, cn, rfl, -, -, -⟩ := hon.by_; have HN := Hk.mk (hon.weak (kw_le HB.out L0V)); replace HO := Hk.mk (HO.out.below hb); replace HB := Hk.mk (kw_step HB.out L0V hb); clear hon hb; clear hc hf hl' hn' hm'; obtain ⟨hc, hf, hl', hn', hm'⟩ := kw_rules HB.out L0V) | (go_at_call 71; (first | (with_reducible refine (rint_any x _ Ix).mono ?_) | (with_reducible refine (rint_any y _ Iy).mono ?_)); rintro e z ⟨vn, rfl, hon, hb⟩; obtain ⟨an, cn, rfl, -, -, -⟩ := hon.by_; have HN := Hk.mk (hon.weak (kw_le HB.out L0V)); replace HO := Hk.mk (HO.out.below hb); replace HB := Hk.mk (kw_step HB.out L0V hb); clear hon hb; clear hc hf hl' hn' hm'; obtain ⟨hc, hf, hl', hn', hm'⟩ := kw_rules HB.out L0V) | (at_builtin; go_must (refine wpList_append_by _ rfl _ _ rfl VA.heap.size _ _ _ rfl HO.out _ _ _ _ _ rfl (own_byC HN.out) HN.out.an23 (by omega) (kw_le HB.out L0V) ?_); intro v2 z ho2 hg2; replace HB := Hk.mk (HB.out.grown hg2 (kw_le HB.out L0V) (fun g hg => (HO.out.lt g hg).1)); replace HO := Hk.mk ho2; clear ho2 hg2 HN; clear hc hf hl' hn' hm'; obtain ⟨hc, hf, hl', hn', hm'⟩ := kw_rules HB.out L0V))
  go_ret
  exact ⟨_, rfl, (own_conv HO.out (by first | (simp [bytesC, partsL, wrB]; done) | (simp [bytesC, partsL, wrB, HMU.out]; done))).weak hsw.out, HW.out.trans (HB.out.mono hsw.out)⟩
set_option maxRecDepth 100000 in
set_option maxHeartbeats 1600000 in
theorem rbytes21_3 (p s n : Int) (a : Option Addr) (m c : Nat) (u : List Int) (t wd h x y : Int) (w : World) (hN : Nq w w.heap.size a m u) (hm : m ≤ 1000) (hok : okC p s 3 ⟨n, u, t, wd, h, x, y⟩ = true) :
    Calls Try.prog 22 #[.agg #[.int .i64 p, .int .i64 s, .int .i64 3, .int .i64 n, .slice a m c, .int .i64 t, .int .i64 wd, .int .i64 h, .int .i64 x, .int .i64 y]] w fun e w' => ∃ v, e = .returned v ∧ OwnB w' w.heap.size v (bytesC p s 3 ⟨n, u, t, wd, h, x, y⟩).length (bytesC p s 3 ⟨n, u, t, wd, h, x, y⟩) ∧ Below w.heap.size w w' := by
  obtain ⟨bp1, bp2, bs1, bs2, bc⟩ := okC_base hok
  have HPB := Hk.mk (Bk.new w #[.int .i64 p, .int .i64 s, .int .i64 3, .int .i64 n, .slice a m c, .int .i64 t, .int .i64 wd, .int .i64 h, .int .i64 x, .int .i64 y] 28)
  have HW := Hk.mk ((Below.refl w.heap.size w).alloc (Nat.le_refl _) (.cells #[.int .i64 p, .int .i64 s, .int .i64 3, .int .i64 n, .slice a m c, .int .i64 t, .int .i64 wd, .int .i64 h, .int .i64 x, .int .i64 y] 28))
  have HNU0 := Hk.mk (hN.below HW.out (Nat.le_refl _))
  have Zp : Hk (p = p.toNat) := ⟨by omega⟩
  have Yp : Hk (p.toNat ≤ 9223372036854775807) := ⟨by omega⟩
  have Zs : Hk (s = s.toNat) := ⟨by omega⟩
  have Ys : Hk (s.toNat ≤ 9223372036854775807) := ⟨by omega⟩
  have lp := numL_nine' (z := p) (by omega)
  have ls := numL_nine' (z := s) (by omega)
  have lk : (Wr.numL 3).length ≤ 9 := Wr.numL_nine (by omega)
  clear hN
  have bu : idsB u = true := by simp [partsL, chkL, vB, eC, remB] at bc; exact bc.1
  have bas : ascL 0 u = true ∧ u.length ≤ 64 := by unfold idsB at bu; simp at bu; exact ⟨bu.2, bu.1.2⟩
  have HU : Hk (∀ b ∈ u, 0 < b ∧ b ≤ 1099511627776) := ⟨fun b hb => asc_ge bas.1 b hb⟩
  have lu : (Wr.numL m ++ uL u).length ≤ 700 := by
    have h1 := uL_len u (fun b hb => (HU.out b hb).2)
    have h2 : (Wr.numL m).length ≤ 9 := Wr.numL_nine (by omega)
    rw [List.length_append]
    omega
  have lu1 : (Wr.numL m).length ≤ 9 := Wr.numL_nine (by omega)
  have lu2 : (uL u).length ≤ 700 := by rw [List.length_append] at lu; omega
  obtain ⟨NU, hNU'⟩ : ∃ NU, (Wr.numL m ++ uL u).length = NU := ⟨_, rfl⟩
  have hNU := Hk.mk hNU'
  rw [hNU'] at lu
  clear hNU'
  have HMU : Hk (u.length = m) := ⟨HNU0.out.len⟩
  clear bu bas
  clear bc hok
  go_enter Try.func22, Try.ntmps22
  go_upto_region 1 with (fail)
  generalize w.alloc (.cells #[.int .i64 p, .int .i64 s, .int .i64 3, .int .i64 n, .slice a m c, .int .i64 t, .int .i64 wd, .int .i64 h, .int .i64 x, .int .i64 y] 28) = VA at *
  have d0 : VA.cell? ⟨w.heap.size, 0, none⟩ = some (.int .i64 p) := HPB.out.c 0
  have d1 : VA.cell? ⟨w.heap.size, 1, none⟩ = some (.int .i64 s) := HPB.out.c 1
  have d2 : VA.cell? ⟨w.heap.size, 2, none⟩ = some (.int .i64 3) := HPB.out.c 2
  have d3 : VA.cell? ⟨w.heap.size, 3, none⟩ = some (.int .i64 n) := HPB.out.c 3
  have d4 : VA.cell? ⟨w.heap.size, 4, none⟩ = some (.slice a m c) := HPB.out.c 4
  have d5 : VA.cell? ⟨w.heap.size, 5, none⟩ = some (.int .i64 t) := HPB.out.c 5
  have d6 : VA.cell? ⟨w.heap.size, 6, none⟩ = some (.int .i64 wd) := HPB.out.c 6
  have d7 : VA.cell? ⟨w.heap.size, 7, none⟩ = some (.int .i64 h) := HPB.out.c 7
  have d8 : VA.cell? ⟨w.heap.size, 8, none⟩ = some (.int .i64 x) := HPB.out.c 8
  have d9 : VA.cell? ⟨w.heap.size, 9, none⟩ = some (.int .i64 y) := HPB.out.c 9
  have bX := HPB.out.lt
  have hsw : Hk (w.heap.size ≤ VA.heap.size) := ⟨by omega⟩
  have HNU : Hk (∀ X, Below VA.heap.size VA X → Nq X X.heap.size a m u) := ⟨fun X hX => (HNU0.out.below hX hsw.out).mono (by have := hX.size; omega)⟩
  clear HPB HNU0
  have L0V : VA.heap.size ≤ VA.heap.size := Nat.le_refl _
  apply reg_merge
  intro HG3
  apply reg_merge
  intro HG2
  apply reg_merge
  intro HG1
  refine wp_region_held_drew (S := fun Z => (∀ b o, b < VA.heap.size → Z.cell? ⟨b, o, none⟩ = VA.cell? ⟨b, o, none⟩)) (by kernel_rfl) (fun _ _ _ => rfl) (fun hHeld => ?_)
  have HB : Hk (Below VA.heap.size VA VA.drew) := ⟨(Below.refl _ _).drew⟩
  obtain ⟨W1, hWe⟩ : ∃ W1, VA.drew = W1 := ⟨_, rfl⟩
  rw [hWe] at HB hHeld ⊢
  clear hWe
  refine wpAnyH_take (i := 0) (v := ?_) rfl (by kernel_rfl) (by kernel_rfl) (by kernel_rfl) (fun _ _ _ h => h) (Or.inl ⟨by rfl, fun wX hSw => ?_⟩) (by assumption) ?_
  rotate_left
  · (try dsimp only at hSw); go_simp; try with_reducible rfl
  (try simp only [Act.put, List.getElem_toArray, List.getElem_cons_succ, List.getElem_cons_zero, List.setIfInBounds_toArray, List.set_cons_zero, List.set_cons_succ])
  refine wpAnyH_take (i := 1) (v := ?_) rfl (by kernel_rfl) (by kernel_rfl) (by kernel_rfl) (fun _ _ _ h => h) (Or.inl ⟨by rfl, fun wX hSw => ?_⟩) (by assumption) ?_
  rotate_left
  · (try dsimp only at hSw); go_simp; try with_reducible rfl
  (try simp only [Act.put, List.getElem_toArray, List.getElem_cons_succ, List.getElem_cons_zero, List.setIfInBounds_toArray, List.set_cons_zero, List.set_cons_succ])
  refine wpAnyH_take (i := 3) (v := ?_) rfl (by kernel_rfl) (by kernel_rfl) (by kernel_rfl) (fun _ _ _ h => h) (Or.inl ⟨by rfl, fun wX hSw => ?_⟩) (by assumption) ?_
  rotate_left
  · (try dsimp only at hSw); go_simp; try with_reducible rfl
  (try simp only [Act.put, List.getElem_toArray, List.getElem_cons_succ, List.getElem_cons_zero, List.setIfInBounds_toArray, List.set_cons_zero, List.set_cons_succ])
  refine wpAnyH_take (i := 4) (v := ?_) rfl (by kernel_rfl) (by kernel_rfl) (by kernel_rfl) (fun _ _ _ h => h) (Or.inl ⟨by rfl, fun wX hSw => ?_⟩) (by assumption) ?_
  rotate_left
  · (try dsimp only at hSw); go_simp; try with_reducible rfl
  (try simp only [Act.put, List.getElem_toArray, List.getElem_cons_succ, List.getElem_cons_zero, List.setIfInBounds_toArray, List.set_cons_zero, List.set_cons_succ])
  refine wpAnyH_ready (rs := [2]) (by kernel_rfl) (by simp) ?_
  refine AllReadyH.cons rfl (fun K hK => ?_) (AllReadyH.nil)
  · skip
    go_simp
    (first
  | (go_at_call 70; ((with_reducible refine (rnum_at 3 3 _ ⟨rfl⟩ ⟨by omega⟩).mono ?_); rintro e z ⟨vn, rfl, hon, hb⟩; obtain ⟨a7, c7, rfl, -, -, -⟩ := hon.by_; have HO7 := Hk.mk (hon.weak (kw_le HB.out L0V)); clear hon))
  | (go_at_call 70; ((with_reducible refine (rnum_at p p.toNat _ Zp Yp).mono ?_); rintro e z ⟨vn, rfl, hon, hb⟩; obtain ⟨a8, c8, rfl, -, -, -⟩ := hon.by_; have HO8 := Hk.mk (hon.weak (kw_le HB.out L0V)); clear hon)))
    replace HB := Hk.mk (kw_step HB.out L0V hb)
    clear hb
    refine hK.out _ _ ?_ (fun hHeld2 => ?_)
    · exact kw_s HB.out
    clear hK K hHeld
    have hHeld := hHeld2
    clear hHeld2
    (try simp only [Act.put, List.getElem_toArray, List.getElem_cons_succ, List.getElem_cons_zero, List.setIfInBounds_toArray, List.set_cons_zero, List.set_cons_succ])
    refine reg_cast (l' := #[true, true, true, true, true, false, false, false]) (by kernel_rfl) ?_
    revert hHeld
    revert HO7
    revert HB
    revert c7
    revert a7
    revert z
    exact HG1.out
  intro W1 a7 c7 HB HO7 hHeld
  refine wpAnyH_ready (rs := [5]) (by kernel_rfl) (by simp) ?_
  refine AllReadyH.cons rfl (fun K hK => ?_) (AllReadyH.nil)
  · skip
    go_simp
    (first
  | (go_at_call 70; ((with_reducible refine (rnum_at 3 3 _ ⟨rfl⟩ ⟨by omega⟩).mono ?_); rintro e z ⟨vn, rfl, hon, hb⟩; obtain ⟨a7, c7, rfl, -, -, -⟩ := hon.by_; have HO7 := Hk.mk (hon.weak (kw_le HB.out L0V)); clear hon))
  | (go_at_call 70; ((with_reducible refine (rnum_at p p.toNat _ Zp Yp).mono ?_); rintro e z ⟨vn, rfl, hon, hb⟩; obtain ⟨a8, c8, rfl, -, -, -⟩ := hon.by_; have HO8 := Hk.mk (hon.weak (kw_le HB.out L0V)); clear hon)))
    replace HO7 := Hk.mk (HO7.out.below hb)
    replace HB := Hk.mk (kw_step HB.out L0V hb)
    clear hb
    refine hK.out _ _ ?_ (fun hHeld2 => ?_)
    · exact kw_s HB.out
    clear hK K hHeld
    have hHeld := hHeld2
    clear hHeld2
    (try simp only [Act.put, List.getElem_toArray, List.getElem_cons_succ, List.getElem_cons_zero, List.setIfInBounds_toArray, List.set_cons_zero, List.set_cons_succ])
    refine reg_cast (l' := #[true, true, true, true, true, true, false, false]) (by kernel_rfl) ?_
    revert hHeld
    revert HO8
    revert HO7
    revert HB
    revert c8
    revert a8
    revert c7
    revert a7
    revert z
    exact HG2.out
  intro W1 a7 c7 a8 c8 HB HO7 HO8 hHeld
  refine wpAnyH_ready (rs := [6]) (by kernel_rfl) (by simp) ?_
  refine AllReadyH.cons rfl (fun K hK => ?_) (AllReadyH.nil)
  · skip
    (refine step_append_by _ (by rfl) (.tmp 6) (.tmp 9) (by rfl) VA.heap.size _ _ _ (by rfl) HO7.out _ _ _ _ _ (by rfl) (own_byC HO8.out) HO8.out.an23 (by omega) (kw_le HB.out L0V) ?_; intro v9 z ho5 hg5; replace HB := Hk.mk (HB.out.grown hg5 (kw_le HB.out L0V) (fun g hg => (HO7.out.lt g hg).1)); have HO := Hk.mk ho5; clear ho5 hg5)
    refine hK.out _ _ ?_ (fun hHeld2 => ?_)
    · exact kw_s HB.out
    clear hK K hHeld
    have hHeld := hHeld2
    clear hHeld2
    (try simp only [Act.put, List.getElem_toArray, List.getElem_cons_succ, List.getElem_cons_zero, List.setIfInBounds_toArray, List.set_cons_zero, List.set_cons_succ])
    clear HO7
    clear HO8
    refine wpAnyH_take (i := 7) (v := ?_) rfl (by kernel_rfl) (by kernel_rfl) (by kernel_rfl) (fun _ _ _ h => h) (Or.inl ⟨by rfl, fun wX hSw => ?_⟩) (by assumption) ?_
    rotate_left
    · (try dsimp only at hSw); go_simp; try with_reducible rfl
    (try simp only [Act.put, List.getElem_toArray, List.getElem_cons_succ, List.getElem_cons_zero, List.setIfInBounds_toArray, List.set_cons_zero, List.set_cons_succ])
    refine reg_cast (l' := #[true, true, true, true, true, true, true, true]) (by kernel_rfl) ?_
    revert hHeld
    revert HO
    revert HB
    revert v9
    revert c8
    revert a8
    revert c7
    revert a7
    revert z
    exact HG3.out
  intro W1 a7 c7 a8 c8 v9 HB HO hHeld
  refine wpAnyH_done (by kernel_rfl) ?_ _
  clear hHeld
  obtain ⟨hc, hf, hl', hn', hm'⟩ := kw_rules HB.out L0V
  go_wp2_with (first | (go_at_call 70; (first | (with_reducible refine (rnum_at s s.toNat _ Zs Ys).mono ?_) | (with_reducible refine (rnum_at n n.toNat _ Zn Yn).mono ?_) | (with_reducible refine (rnum_at t t.toNat _ Zt Yt).mono ?_) | (with_reducible refine (rnum_at wd wd.toNat _ Zw Yw).mono ?_) | (with_reducible refine (rnum_at h h.toNat _ Zh Yh).mono ?_)); rintro e z ⟨vn, rfl, hon, hb⟩; obtain ⟨an, cn, rfl, -, -, -⟩ := hon.by_; have HN := Hk.mk (hon.weak (kw_le HB.out L0V)); replace HO := Hk.mk (HO.out.below hb); replace HB := Hk.mk (kw_step HB.out L0V hb); clear hon hb; clear hc hf hl' hn' hm'; obtain ⟨hc, hf, hl', hn', hm'⟩ := kw_rules HB.out L0V) | (go_at_call 72; (with_reducible refine (units22_as a m c u NU _ (HNU.out _ HB.out) (by omega) HU hNU).mono ?_); rintro e z ⟨vn, rfl, hon, hb⟩; obtain ⟨an, cn, rfl, -, -, -⟩ := hon.by_; have HN := Hk.mk (hon.weak (kw_le HB.out L0V)); replace HO := Hk.mk (HO.out.below hb); replace HB := Hk.mk (kw_step HB.out L0V hb); clear hon hb; clear hc hf hl' hn' hm'; obtain ⟨hc, hf, hl', hn', hm'⟩ := kw_rules HB.out L0V) | (at_builtin; go_must (refine wpList_append_by _ rfl _ _ rfl VA.heap.size _ _ _ rfl HO.out _ _ _ _ _ rfl (own_byC HN.out) HN.out.an23 (by omega) (kw_le HB.out L0V) ?_); intro v2 z ho2 hg2; replace HB := Hk.mk (HB.out.grown hg2 (kw_le HB.out L0V) (fun g hg => (HO.out.lt g hg).1)); replace HO := Hk.mk ho2; clear ho2 hg2 HN; clear hc hf hl' hn' hm'; obtain ⟨hc, hf, hl', hn', hm'⟩ := kw_rules HB.out L0V))
  go_ret
  exact ⟨_, rfl, (own_conv HO.out (by first | (simp [bytesC, partsL, wrB]; done) | (simp [bytesC, partsL, wrB, HMU.out]; done))).weak hsw.out, HW.out.trans (HB.out.mono hsw.out)⟩
set_option maxRecDepth 100000 in
set_option maxHeartbeats 1600000 in
theorem rbytes21_4 (p s n : Int) (a : Option Addr) (m c : Nat) (u : List Int) (t wd h x y : Int) (w : World) (hN : Nq w w.heap.size a m u) (hm : m ≤ 1000) (hok : okC p s 4 ⟨n, u, t, wd, h, x, y⟩ = true) :
    Calls Try.prog 22 #[.agg #[.int .i64 p, .int .i64 s, .int .i64 4, .int .i64 n, .slice a m c, .int .i64 t, .int .i64 wd, .int .i64 h, .int .i64 x, .int .i64 y]] w fun e w' => ∃ v, e = .returned v ∧ OwnB w' w.heap.size v (bytesC p s 4 ⟨n, u, t, wd, h, x, y⟩).length (bytesC p s 4 ⟨n, u, t, wd, h, x, y⟩) ∧ Below w.heap.size w w' := by
  obtain ⟨bp1, bp2, bs1, bs2, bc⟩ := okC_base hok
  have HPB := Hk.mk (Bk.new w #[.int .i64 p, .int .i64 s, .int .i64 4, .int .i64 n, .slice a m c, .int .i64 t, .int .i64 wd, .int .i64 h, .int .i64 x, .int .i64 y] 28)
  have HW := Hk.mk ((Below.refl w.heap.size w).alloc (Nat.le_refl _) (.cells #[.int .i64 p, .int .i64 s, .int .i64 4, .int .i64 n, .slice a m c, .int .i64 t, .int .i64 wd, .int .i64 h, .int .i64 x, .int .i64 y] 28))
  have HNU0 := Hk.mk (hN.below HW.out (Nat.le_refl _))
  have Zp : Hk (p = p.toNat) := ⟨by omega⟩
  have Yp : Hk (p.toNat ≤ 9223372036854775807) := ⟨by omega⟩
  have Zs : Hk (s = s.toNat) := ⟨by omega⟩
  have Ys : Hk (s.toNat ≤ 9223372036854775807) := ⟨by omega⟩
  have lp := numL_nine' (z := p) (by omega)
  have ls := numL_nine' (z := s) (by omega)
  have lk : (Wr.numL 4).length ≤ 9 := Wr.numL_nine (by omega)
  clear hN
  have bt : 0 ≤ t ∧ t ≤ 1099511627776 := by simp [partsL, chkL, vB, eC, remB] at bc; omega
  have Zt : Hk (t = t.toNat) := ⟨by omega⟩
  have Yt : Hk (t.toNat ≤ 9223372036854775807) := ⟨by omega⟩
  have lt := numL_nine' (z := t) (by omega)
  have bw : 0 ≤ wd ∧ wd ≤ 1099511627776 := by simp [partsL, chkL, vB, eC, remB] at bc; omega
  have bh : 0 ≤ h ∧ h ≤ 1099511627776 := by simp [partsL, chkL, vB, eC, remB] at bc; omega
  have Zw : Hk (wd = wd.toNat) := ⟨by omega⟩
  have Yw : Hk (wd.toNat ≤ 9223372036854775807) := ⟨by omega⟩
  have lw := numL_nine' (z := wd) (by omega)
  have Zh : Hk (h = h.toNat) := ⟨by omega⟩
  have Yh : Hk (h.toNat ≤ 9223372036854775807) := ⟨by omega⟩
  have lh := numL_nine' (z := h) (by omega)
  clear bc hok
  go_enter Try.func22, Try.ntmps22
  go_upto_region 1 with (fail)
  generalize w.alloc (.cells #[.int .i64 p, .int .i64 s, .int .i64 4, .int .i64 n, .slice a m c, .int .i64 t, .int .i64 wd, .int .i64 h, .int .i64 x, .int .i64 y] 28) = VA at *
  have d0 : VA.cell? ⟨w.heap.size, 0, none⟩ = some (.int .i64 p) := HPB.out.c 0
  have d1 : VA.cell? ⟨w.heap.size, 1, none⟩ = some (.int .i64 s) := HPB.out.c 1
  have d2 : VA.cell? ⟨w.heap.size, 2, none⟩ = some (.int .i64 4) := HPB.out.c 2
  have d3 : VA.cell? ⟨w.heap.size, 3, none⟩ = some (.int .i64 n) := HPB.out.c 3
  have d4 : VA.cell? ⟨w.heap.size, 4, none⟩ = some (.slice a m c) := HPB.out.c 4
  have d5 : VA.cell? ⟨w.heap.size, 5, none⟩ = some (.int .i64 t) := HPB.out.c 5
  have d6 : VA.cell? ⟨w.heap.size, 6, none⟩ = some (.int .i64 wd) := HPB.out.c 6
  have d7 : VA.cell? ⟨w.heap.size, 7, none⟩ = some (.int .i64 h) := HPB.out.c 7
  have d8 : VA.cell? ⟨w.heap.size, 8, none⟩ = some (.int .i64 x) := HPB.out.c 8
  have d9 : VA.cell? ⟨w.heap.size, 9, none⟩ = some (.int .i64 y) := HPB.out.c 9
  have bX := HPB.out.lt
  have hsw : Hk (w.heap.size ≤ VA.heap.size) := ⟨by omega⟩
  have HNU : Hk (∀ X, Below VA.heap.size VA X → Nq X X.heap.size a m u) := ⟨fun X hX => (HNU0.out.below hX hsw.out).mono (by have := hX.size; omega)⟩
  clear HPB HNU0
  have L0V : VA.heap.size ≤ VA.heap.size := Nat.le_refl _
  apply reg_merge
  intro HG3
  apply reg_merge
  intro HG2
  apply reg_merge
  intro HG1
  refine wp_region_held_drew (S := fun Z => (∀ b o, b < VA.heap.size → Z.cell? ⟨b, o, none⟩ = VA.cell? ⟨b, o, none⟩)) (by kernel_rfl) (fun _ _ _ => rfl) (fun hHeld => ?_)
  have HB : Hk (Below VA.heap.size VA VA.drew) := ⟨(Below.refl _ _).drew⟩
  obtain ⟨W1, hWe⟩ : ∃ W1, VA.drew = W1 := ⟨_, rfl⟩
  rw [hWe] at HB hHeld ⊢
  clear hWe
  refine wpAnyH_take (i := 0) (v := ?_) rfl (by kernel_rfl) (by kernel_rfl) (by kernel_rfl) (fun _ _ _ h => h) (Or.inl ⟨by rfl, fun wX hSw => ?_⟩) (by assumption) ?_
  rotate_left
  · (try dsimp only at hSw); go_simp; try with_reducible rfl
  (try simp only [Act.put, List.getElem_toArray, List.getElem_cons_succ, List.getElem_cons_zero, List.setIfInBounds_toArray, List.set_cons_zero, List.set_cons_succ])
  refine wpAnyH_take (i := 1) (v := ?_) rfl (by kernel_rfl) (by kernel_rfl) (by kernel_rfl) (fun _ _ _ h => h) (Or.inl ⟨by rfl, fun wX hSw => ?_⟩) (by assumption) ?_
  rotate_left
  · (try dsimp only at hSw); go_simp; try with_reducible rfl
  (try simp only [Act.put, List.getElem_toArray, List.getElem_cons_succ, List.getElem_cons_zero, List.setIfInBounds_toArray, List.set_cons_zero, List.set_cons_succ])
  refine wpAnyH_take (i := 3) (v := ?_) rfl (by kernel_rfl) (by kernel_rfl) (by kernel_rfl) (fun _ _ _ h => h) (Or.inl ⟨by rfl, fun wX hSw => ?_⟩) (by assumption) ?_
  rotate_left
  · (try dsimp only at hSw); go_simp; try with_reducible rfl
  (try simp only [Act.put, List.getElem_toArray, List.getElem_cons_succ, List.getElem_cons_zero, List.setIfInBounds_toArray, List.set_cons_zero, List.set_cons_succ])
  refine wpAnyH_take (i := 4) (v := ?_) rfl (by kernel_rfl) (by kernel_rfl) (by kernel_rfl) (fun _ _ _ h => h) (Or.inl ⟨by rfl, fun wX hSw => ?_⟩) (by assumption) ?_
  rotate_left
  · (try dsimp only at hSw); go_simp; try with_reducible rfl
  (try simp only [Act.put, List.getElem_toArray, List.getElem_cons_succ, List.getElem_cons_zero, List.setIfInBounds_toArray, List.set_cons_zero, List.set_cons_succ])
  refine wpAnyH_ready (rs := [2]) (by kernel_rfl) (by simp) ?_
  refine AllReadyH.cons rfl (fun K hK => ?_) (AllReadyH.nil)
  · skip
    go_simp
    (first
  | (go_at_call 70; ((with_reducible refine (rnum_at 4 4 _ ⟨rfl⟩ ⟨by omega⟩).mono ?_); rintro e z ⟨vn, rfl, hon, hb⟩; obtain ⟨a7, c7, rfl, -, -, -⟩ := hon.by_; have HO7 := Hk.mk (hon.weak (kw_le HB.out L0V)); clear hon))
  | (go_at_call 70; ((with_reducible refine (rnum_at p p.toNat _ Zp Yp).mono ?_); rintro e z ⟨vn, rfl, hon, hb⟩; obtain ⟨a8, c8, rfl, -, -, -⟩ := hon.by_; have HO8 := Hk.mk (hon.weak (kw_le HB.out L0V)); clear hon)))
    replace HB := Hk.mk (kw_step HB.out L0V hb)
    clear hb
    refine hK.out _ _ ?_ (fun hHeld2 => ?_)
    · exact kw_s HB.out
    clear hK K hHeld
    have hHeld := hHeld2
    clear hHeld2
    (try simp only [Act.put, List.getElem_toArray, List.getElem_cons_succ, List.getElem_cons_zero, List.setIfInBounds_toArray, List.set_cons_zero, List.set_cons_succ])
    refine reg_cast (l' := #[true, true, true, true, true, false, false, false]) (by kernel_rfl) ?_
    revert hHeld
    revert HO7
    revert HB
    revert c7
    revert a7
    revert z
    exact HG1.out
  intro W1 a7 c7 HB HO7 hHeld
  refine wpAnyH_ready (rs := [5]) (by kernel_rfl) (by simp) ?_
  refine AllReadyH.cons rfl (fun K hK => ?_) (AllReadyH.nil)
  · skip
    go_simp
    (first
  | (go_at_call 70; ((with_reducible refine (rnum_at 4 4 _ ⟨rfl⟩ ⟨by omega⟩).mono ?_); rintro e z ⟨vn, rfl, hon, hb⟩; obtain ⟨a7, c7, rfl, -, -, -⟩ := hon.by_; have HO7 := Hk.mk (hon.weak (kw_le HB.out L0V)); clear hon))
  | (go_at_call 70; ((with_reducible refine (rnum_at p p.toNat _ Zp Yp).mono ?_); rintro e z ⟨vn, rfl, hon, hb⟩; obtain ⟨a8, c8, rfl, -, -, -⟩ := hon.by_; have HO8 := Hk.mk (hon.weak (kw_le HB.out L0V)); clear hon)))
    replace HO7 := Hk.mk (HO7.out.below hb)
    replace HB := Hk.mk (kw_step HB.out L0V hb)
    clear hb
    refine hK.out _ _ ?_ (fun hHeld2 => ?_)
    · exact kw_s HB.out
    clear hK K hHeld
    have hHeld := hHeld2
    clear hHeld2
    (try simp only [Act.put, List.getElem_toArray, List.getElem_cons_succ, List.getElem_cons_zero, List.setIfInBounds_toArray, List.set_cons_zero, List.set_cons_succ])
    refine reg_cast (l' := #[true, true, true, true, true, true, false, false]) (by kernel_rfl) ?_
    revert hHeld
    revert HO8
    revert HO7
    revert HB
    revert c8
    revert a8
    revert c7
    revert a7
    revert z
    exact HG2.out
  intro W1 a7 c7 a8 c8 HB HO7 HO8 hHeld
  refine wpAnyH_ready (rs := [6]) (by kernel_rfl) (by simp) ?_
  refine AllReadyH.cons rfl (fun K hK => ?_) (AllReadyH.nil)
  · skip
    (refine step_append_by _ (by rfl) (.tmp 6) (.tmp 9) (by rfl) VA.heap.size _ _ _ (by rfl) HO7.out _ _ _ _ _ (by rfl) (own_byC HO8.out) HO8.out.an23 (by omega) (kw_le HB.out L0V) ?_; intro v9 z ho5 hg5; replace HB := Hk.mk (HB.out.grown hg5 (kw_le HB.out L0V) (fun g hg => (HO7.out.lt g hg).1)); have HO := Hk.mk ho5; clear ho5 hg5)
    refine hK.out _ _ ?_ (fun hHeld2 => ?_)
    · exact kw_s HB.out
    clear hK K hHeld
    have hHeld := hHeld2
    clear hHeld2
    (try simp only [Act.put, List.getElem_toArray, List.getElem_cons_succ, List.getElem_cons_zero, List.setIfInBounds_toArray, List.set_cons_zero, List.set_cons_succ])
    clear HO7
    clear HO8
    refine wpAnyH_take (i := 7) (v := ?_) rfl (by kernel_rfl) (by kernel_rfl) (by kernel_rfl) (fun _ _ _ h => h) (Or.inl ⟨by rfl, fun wX hSw => ?_⟩) (by assumption) ?_
    rotate_left
    · (try dsimp only at hSw); go_simp; try with_reducible rfl
    (try simp only [Act.put, List.getElem_toArray, List.getElem_cons_succ, List.getElem_cons_zero, List.setIfInBounds_toArray, List.set_cons_zero, List.set_cons_succ])
    refine reg_cast (l' := #[true, true, true, true, true, true, true, true]) (by kernel_rfl) ?_
    revert hHeld
    revert HO
    revert HB
    revert v9
    revert c8
    revert a8
    revert c7
    revert a7
    revert z
    exact HG3.out
  intro W1 a7 c7 a8 c8 v9 HB HO hHeld
  refine wpAnyH_done (by kernel_rfl) ?_ _
  clear hHeld
  obtain ⟨hc, hf, hl', hn', hm'⟩ := kw_rules HB.out L0V
  go_wp2_with (first | (go_at_call 70; (first | (with_reducible refine (rnum_at s s.toNat _ Zs Ys).mono ?_) | (with_reducible refine (rnum_at n n.toNat _ Zn Yn).mono ?_) | (with_reducible refine (rnum_at t t.toNat _ Zt Yt).mono ?_) | (with_reducible refine (rnum_at wd wd.toNat _ Zw Yw).mono ?_) | (with_reducible refine (rnum_at h h.toNat _ Zh Yh).mono ?_)); rintro e z ⟨vn, rfl, hon, hb⟩; obtain ⟨an, cn, rfl, -, -, -⟩ := hon.by_; have HN := Hk.mk (hon.weak (kw_le HB.out L0V)); replace HO := Hk.mk (HO.out.below hb); replace HB := Hk.mk (kw_step HB.out L0V hb); clear hon hb; clear hc hf hl' hn' hm'; obtain ⟨hc, hf, hl', hn', hm'⟩ := kw_rules HB.out L0V) | (at_builtin; go_must (refine wpList_append_by _ rfl _ _ rfl VA.heap.size _ _ _ rfl HO.out _ _ _ _ _ rfl (own_byC HN.out) HN.out.an23 (by omega) (kw_le HB.out L0V) ?_); intro v2 z ho2 hg2; replace HB := Hk.mk (HB.out.grown hg2 (kw_le HB.out L0V) (fun g hg => (HO.out.lt g hg).1)); replace HO := Hk.mk ho2; clear ho2 hg2 HN; clear hc hf hl' hn' hm'; obtain ⟨hc, hf, hl', hn', hm'⟩ := kw_rules HB.out L0V))
  go_ret
  exact ⟨_, rfl, (own_conv HO.out (by first | (simp [bytesC, partsL, wrB]; done) | (simp [bytesC, partsL, wrB, HMU.out]; done))).weak hsw.out, HW.out.trans (HB.out.mono hsw.out)⟩
set_option maxRecDepth 100000 in
set_option maxHeartbeats 1600000 in
theorem rbytes21_7 (p s n : Int) (a : Option Addr) (m c : Nat) (u : List Int) (t wd h x y : Int) (w : World) (hN : Nq w w.heap.size a m u) (hm : m ≤ 1000) (hok : okC p s 7 ⟨n, u, t, wd, h, x, y⟩ = true) :
    Calls Try.prog 22 #[.agg #[.int .i64 p, .int .i64 s, .int .i64 7, .int .i64 n, .slice a m c, .int .i64 t, .int .i64 wd, .int .i64 h, .int .i64 x, .int .i64 y]] w fun e w' => ∃ v, e = .returned v ∧ OwnB w' w.heap.size v (bytesC p s 7 ⟨n, u, t, wd, h, x, y⟩).length (bytesC p s 7 ⟨n, u, t, wd, h, x, y⟩) ∧ Below w.heap.size w w' := by
  obtain ⟨bp1, bp2, bs1, bs2, bc⟩ := okC_base hok
  have HPB := Hk.mk (Bk.new w #[.int .i64 p, .int .i64 s, .int .i64 7, .int .i64 n, .slice a m c, .int .i64 t, .int .i64 wd, .int .i64 h, .int .i64 x, .int .i64 y] 28)
  have HW := Hk.mk ((Below.refl w.heap.size w).alloc (Nat.le_refl _) (.cells #[.int .i64 p, .int .i64 s, .int .i64 7, .int .i64 n, .slice a m c, .int .i64 t, .int .i64 wd, .int .i64 h, .int .i64 x, .int .i64 y] 28))
  have HNU0 := Hk.mk (hN.below HW.out (Nat.le_refl _))
  have Zp : Hk (p = p.toNat) := ⟨by omega⟩
  have Yp : Hk (p.toNat ≤ 9223372036854775807) := ⟨by omega⟩
  have Zs : Hk (s = s.toNat) := ⟨by omega⟩
  have Ys : Hk (s.toNat ≤ 9223372036854775807) := ⟨by omega⟩
  have lp := numL_nine' (z := p) (by omega)
  have ls := numL_nine' (z := s) (by omega)
  have lk : (Wr.numL 7).length ≤ 9 := Wr.numL_nine (by omega)
  clear hN
  have bn : 0 ≤ n ∧ n ≤ 1099511627776 := by simp [partsL, chkL, vB, eC, remB] at bc; omega
  have Zn : Hk (n = n.toNat) := ⟨by omega⟩
  have Yn : Hk (n.toNat ≤ 9223372036854775807) := ⟨by omega⟩
  have ln := numL_nine' (z := n) (by omega)
  have bt : 0 ≤ t ∧ t ≤ 1099511627776 := by simp [partsL, chkL, vB, eC, remB] at bc; omega
  have Zt : Hk (t = t.toNat) := ⟨by omega⟩
  have Yt : Hk (t.toNat ≤ 9223372036854775807) := ⟨by omega⟩
  have lt := numL_nine' (z := t) (by omega)
  clear bc hok
  go_enter Try.func22, Try.ntmps22
  go_upto_region 1 with (fail)
  generalize w.alloc (.cells #[.int .i64 p, .int .i64 s, .int .i64 7, .int .i64 n, .slice a m c, .int .i64 t, .int .i64 wd, .int .i64 h, .int .i64 x, .int .i64 y] 28) = VA at *
  have d0 : VA.cell? ⟨w.heap.size, 0, none⟩ = some (.int .i64 p) := HPB.out.c 0
  have d1 : VA.cell? ⟨w.heap.size, 1, none⟩ = some (.int .i64 s) := HPB.out.c 1
  have d2 : VA.cell? ⟨w.heap.size, 2, none⟩ = some (.int .i64 7) := HPB.out.c 2
  have d3 : VA.cell? ⟨w.heap.size, 3, none⟩ = some (.int .i64 n) := HPB.out.c 3
  have d4 : VA.cell? ⟨w.heap.size, 4, none⟩ = some (.slice a m c) := HPB.out.c 4
  have d5 : VA.cell? ⟨w.heap.size, 5, none⟩ = some (.int .i64 t) := HPB.out.c 5
  have d6 : VA.cell? ⟨w.heap.size, 6, none⟩ = some (.int .i64 wd) := HPB.out.c 6
  have d7 : VA.cell? ⟨w.heap.size, 7, none⟩ = some (.int .i64 h) := HPB.out.c 7
  have d8 : VA.cell? ⟨w.heap.size, 8, none⟩ = some (.int .i64 x) := HPB.out.c 8
  have d9 : VA.cell? ⟨w.heap.size, 9, none⟩ = some (.int .i64 y) := HPB.out.c 9
  have bX := HPB.out.lt
  have hsw : Hk (w.heap.size ≤ VA.heap.size) := ⟨by omega⟩
  have HNU : Hk (∀ X, Below VA.heap.size VA X → Nq X X.heap.size a m u) := ⟨fun X hX => (HNU0.out.below hX hsw.out).mono (by have := hX.size; omega)⟩
  clear HPB HNU0
  have L0V : VA.heap.size ≤ VA.heap.size := Nat.le_refl _
  apply reg_merge
  intro HG3
  apply reg_merge
  intro HG2
  apply reg_merge
  intro HG1
  refine wp_region_held_drew (S := fun Z => (∀ b o, b < VA.heap.size → Z.cell? ⟨b, o, none⟩ = VA.cell? ⟨b, o, none⟩)) (by kernel_rfl) (fun _ _ _ => rfl) (fun hHeld => ?_)
  have HB : Hk (Below VA.heap.size VA VA.drew) := ⟨(Below.refl _ _).drew⟩
  obtain ⟨W1, hWe⟩ : ∃ W1, VA.drew = W1 := ⟨_, rfl⟩
  rw [hWe] at HB hHeld ⊢
  clear hWe
  refine wpAnyH_take (i := 0) (v := ?_) rfl (by kernel_rfl) (by kernel_rfl) (by kernel_rfl) (fun _ _ _ h => h) (Or.inl ⟨by rfl, fun wX hSw => ?_⟩) (by assumption) ?_
  rotate_left
  · (try dsimp only at hSw); go_simp; try with_reducible rfl
  (try simp only [Act.put, List.getElem_toArray, List.getElem_cons_succ, List.getElem_cons_zero, List.setIfInBounds_toArray, List.set_cons_zero, List.set_cons_succ])
  refine wpAnyH_take (i := 1) (v := ?_) rfl (by kernel_rfl) (by kernel_rfl) (by kernel_rfl) (fun _ _ _ h => h) (Or.inl ⟨by rfl, fun wX hSw => ?_⟩) (by assumption) ?_
  rotate_left
  · (try dsimp only at hSw); go_simp; try with_reducible rfl
  (try simp only [Act.put, List.getElem_toArray, List.getElem_cons_succ, List.getElem_cons_zero, List.setIfInBounds_toArray, List.set_cons_zero, List.set_cons_succ])
  refine wpAnyH_take (i := 3) (v := ?_) rfl (by kernel_rfl) (by kernel_rfl) (by kernel_rfl) (fun _ _ _ h => h) (Or.inl ⟨by rfl, fun wX hSw => ?_⟩) (by assumption) ?_
  rotate_left
  · (try dsimp only at hSw); go_simp; try with_reducible rfl
  (try simp only [Act.put, List.getElem_toArray, List.getElem_cons_succ, List.getElem_cons_zero, List.setIfInBounds_toArray, List.set_cons_zero, List.set_cons_succ])
  refine wpAnyH_take (i := 4) (v := ?_) rfl (by kernel_rfl) (by kernel_rfl) (by kernel_rfl) (fun _ _ _ h => h) (Or.inl ⟨by rfl, fun wX hSw => ?_⟩) (by assumption) ?_
  rotate_left
  · (try dsimp only at hSw); go_simp; try with_reducible rfl
  (try simp only [Act.put, List.getElem_toArray, List.getElem_cons_succ, List.getElem_cons_zero, List.setIfInBounds_toArray, List.set_cons_zero, List.set_cons_succ])
  refine wpAnyH_ready (rs := [2]) (by kernel_rfl) (by simp) ?_
  refine AllReadyH.cons rfl (fun K hK => ?_) (AllReadyH.nil)
  · skip
    go_simp
    (first
  | (go_at_call 70; ((with_reducible refine (rnum_at 7 7 _ ⟨rfl⟩ ⟨by omega⟩).mono ?_); rintro e z ⟨vn, rfl, hon, hb⟩; obtain ⟨a7, c7, rfl, -, -, -⟩ := hon.by_; have HO7 := Hk.mk (hon.weak (kw_le HB.out L0V)); clear hon))
  | (go_at_call 70; ((with_reducible refine (rnum_at p p.toNat _ Zp Yp).mono ?_); rintro e z ⟨vn, rfl, hon, hb⟩; obtain ⟨a8, c8, rfl, -, -, -⟩ := hon.by_; have HO8 := Hk.mk (hon.weak (kw_le HB.out L0V)); clear hon)))
    replace HB := Hk.mk (kw_step HB.out L0V hb)
    clear hb
    refine hK.out _ _ ?_ (fun hHeld2 => ?_)
    · exact kw_s HB.out
    clear hK K hHeld
    have hHeld := hHeld2
    clear hHeld2
    (try simp only [Act.put, List.getElem_toArray, List.getElem_cons_succ, List.getElem_cons_zero, List.setIfInBounds_toArray, List.set_cons_zero, List.set_cons_succ])
    refine reg_cast (l' := #[true, true, true, true, true, false, false, false]) (by kernel_rfl) ?_
    revert hHeld
    revert HO7
    revert HB
    revert c7
    revert a7
    revert z
    exact HG1.out
  intro W1 a7 c7 HB HO7 hHeld
  refine wpAnyH_ready (rs := [5]) (by kernel_rfl) (by simp) ?_
  refine AllReadyH.cons rfl (fun K hK => ?_) (AllReadyH.nil)
  · skip
    go_simp
    (first
  | (go_at_call 70; ((with_reducible refine (rnum_at 7 7 _ ⟨rfl⟩ ⟨by omega⟩).mono ?_); rintro e z ⟨vn, rfl, hon, hb⟩; obtain ⟨a7, c7, rfl, -, -, -⟩ := hon.by_; have HO7 := Hk.mk (hon.weak (kw_le HB.out L0V)); clear hon))
  | (go_at_call 70; ((with_reducible refine (rnum_at p p.toNat _ Zp Yp).mono ?_); rintro e z ⟨vn, rfl, hon, hb⟩; obtain ⟨a8, c8, rfl, -, -, -⟩ := hon.by_; have HO8 := Hk.mk (hon.weak (kw_le HB.out L0V)); clear hon)))
    replace HO7 := Hk.mk (HO7.out.below hb)
    replace HB := Hk.mk (kw_step HB.out L0V hb)
    clear hb
    refine hK.out _ _ ?_ (fun hHeld2 => ?_)
    · exact kw_s HB.out
    clear hK K hHeld
    have hHeld := hHeld2
    clear hHeld2
    (try simp only [Act.put, List.getElem_toArray, List.getElem_cons_succ, List.getElem_cons_zero, List.setIfInBounds_toArray, List.set_cons_zero, List.set_cons_succ])
    refine reg_cast (l' := #[true, true, true, true, true, true, false, false]) (by kernel_rfl) ?_
    revert hHeld
    revert HO8
    revert HO7
    revert HB
    revert c8
    revert a8
    revert c7
    revert a7
    revert z
    exact HG2.out
  intro W1 a7 c7 a8 c8 HB HO7 HO8 hHeld
  refine wpAnyH_ready (rs := [6]) (by kernel_rfl) (by simp) ?_
  refine AllReadyH.cons rfl (fun K hK => ?_) (AllReadyH.nil)
  · skip
    (refine step_append_by _ (by rfl) (.tmp 6) (.tmp 9) (by rfl) VA.heap.size _ _ _ (by rfl) HO7.out _ _ _ _ _ (by rfl) (own_byC HO8.out) HO8.out.an23 (by omega) (kw_le HB.out L0V) ?_; intro v9 z ho5 hg5; replace HB := Hk.mk (HB.out.grown hg5 (kw_le HB.out L0V) (fun g hg => (HO7.out.lt g hg).1)); have HO := Hk.mk ho5; clear ho5 hg5)
    refine hK.out _ _ ?_ (fun hHeld2 => ?_)
    · exact kw_s HB.out
    clear hK K hHeld
    have hHeld := hHeld2
    clear hHeld2
    (try simp only [Act.put, List.getElem_toArray, List.getElem_cons_succ, List.getElem_cons_zero, List.setIfInBounds_toArray, List.set_cons_zero, List.set_cons_succ])
    clear HO7
    clear HO8
    refine wpAnyH_take (i := 7) (v := ?_) rfl (by kernel_rfl) (by kernel_rfl) (by kernel_rfl) (fun _ _ _ h => h) (Or.inl ⟨by rfl, fun wX hSw => ?_⟩) (by assumption) ?_
    rotate_left
    · (try dsimp only at hSw); go_simp; try with_reducible rfl
    (try simp only [Act.put, List.getElem_toArray, List.getElem_cons_succ, List.getElem_cons_zero, List.setIfInBounds_toArray, List.set_cons_zero, List.set_cons_succ])
    refine reg_cast (l' := #[true, true, true, true, true, true, true, true]) (by kernel_rfl) ?_
    revert hHeld
    revert HO
    revert HB
    revert v9
    revert c8
    revert a8
    revert c7
    revert a7
    revert z
    exact HG3.out
  intro W1 a7 c7 a8 c8 v9 HB HO hHeld
  refine wpAnyH_done (by kernel_rfl) ?_ _
  clear hHeld
  obtain ⟨hc, hf, hl', hn', hm'⟩ := kw_rules HB.out L0V
  go_upto_region 21 with (first | (go_at_call 70; (first | (with_reducible refine (rnum_at s s.toNat _ Zs Ys).mono ?_) | (with_reducible refine (rnum_at n n.toNat _ Zn Yn).mono ?_) | (with_reducible refine (rnum_at t t.toNat _ Zt Yt).mono ?_) | (with_reducible refine (rnum_at wd wd.toNat _ Zw Yw).mono ?_) | (with_reducible refine (rnum_at h h.toNat _ Zh Yh).mono ?_)); rintro e z ⟨vn, rfl, hon, hb⟩; obtain ⟨an, cn, rfl, -, -, -⟩ := hon.by_; have HN := Hk.mk (hon.weak (kw_le HB.out L0V)); replace HO := Hk.mk (HO.out.below hb); replace HB := Hk.mk (kw_step HB.out L0V hb); clear hon hb; clear hc hf hl' hn' hm'; obtain ⟨hc, hf, hl', hn', hm'⟩ := kw_rules HB.out L0V) | (at_builtin; go_must (refine wpList_append_by _ rfl _ _ rfl VA.heap.size _ _ _ rfl HO.out _ _ _ _ _ rfl (own_byC HN.out) HN.out.an23 (by omega) (kw_le HB.out L0V) ?_); intro v2 z ho2 hg2; replace HB := Hk.mk (HB.out.grown hg2 (kw_le HB.out L0V) (fun g hg => (HO.out.lt g hg).1)); replace HO := Hk.mk ho2; clear ho2 hg2 HN; clear hc hf hl' hn' hm'; obtain ⟨hc, hf, hl', hn', hm'⟩ := kw_rules HB.out L0V))
  generalize z = VB at *
  have HBS := HB
  clear HB
  clear hc hf hl' hn' hm'
  have L0V : VA.heap.size ≤ VA.heap.size := Nat.le_refl _
  apply reg_merge
  intro HG4
  apply reg_merge
  intro HG3
  apply reg_merge
  intro HG2
  apply reg_merge
  intro HG1
  refine wp_region_held_drew (S := fun Z => (∀ b o, b < VA.heap.size → Z.cell? ⟨b, o, none⟩ = VA.cell? ⟨b, o, none⟩)) (by kernel_rfl) (kw_s HBS.out.drew) (fun hHeld => ?_)
  have HB := Hk.mk HBS.out.drew
  have hb := (Below.refl VB.heap.size VB).drew
  replace HO := Hk.mk (HO.out.below hb)
  clear hb
  obtain ⟨W2, hWe⟩ : ∃ W2, VB.drew = W2 := ⟨_, rfl⟩
  rw [hWe] at HB hHeld HO ⊢
  clear hWe
  refine wpAnyH_take (i := 0) (v := ?_) rfl (by kernel_rfl) (by kernel_rfl) (by kernel_rfl) (fun _ _ _ h => h) (Or.inl ⟨by rfl, fun wX hSw => ?_⟩) (by assumption) ?_
  rotate_left
  · (try dsimp only at hSw); go_simp; try with_reducible rfl
  (try simp only [Act.put, List.getElem_toArray, List.getElem_cons_succ, List.getElem_cons_zero, List.setIfInBounds_toArray, List.set_cons_zero, List.set_cons_succ])
  refine wpAnyH_take (i := 1) (v := ?_) rfl (by kernel_rfl) (by kernel_rfl) (by kernel_rfl) (fun _ _ _ h => h) (Or.inl ⟨by rfl, fun wX hSw => ?_⟩) (by assumption) ?_
  rotate_left
  · (try dsimp only at hSw); go_simp; try with_reducible rfl
  (try simp only [Act.put, List.getElem_toArray, List.getElem_cons_succ, List.getElem_cons_zero, List.setIfInBounds_toArray, List.set_cons_zero, List.set_cons_succ])
  refine wpAnyH_take (i := 2) (v := ?_) rfl (by kernel_rfl) (by kernel_rfl) (by kernel_rfl) (fun _ _ _ h => h) (Or.inl ⟨by rfl, fun wX hSw => ?_⟩) (by assumption) ?_
  rotate_left
  · (try dsimp only at hSw); go_simp; try with_reducible rfl
  (try simp only [Act.put, List.getElem_toArray, List.getElem_cons_succ, List.getElem_cons_zero, List.setIfInBounds_toArray, List.set_cons_zero, List.set_cons_succ])
  refine wpAnyH_take (i := 5) (v := ?_) rfl (by kernel_rfl) (by kernel_rfl) (by kernel_rfl) (fun _ _ _ h => h) (Or.inl ⟨by rfl, fun wX hSw => ?_⟩) (by assumption) ?_
  rotate_left
  · (try dsimp only at hSw); go_simp; try with_reducible rfl
  (try simp only [Act.put, List.getElem_toArray, List.getElem_cons_succ, List.getElem_cons_zero, List.setIfInBounds_toArray, List.set_cons_zero, List.set_cons_succ])
  refine wpAnyH_take (i := 6) (v := ?_) rfl (by kernel_rfl) (by kernel_rfl) (by kernel_rfl) (fun _ _ _ h => h) (Or.inl ⟨by rfl, fun wX hSw => ?_⟩) (by assumption) ?_
  rotate_left
  · (try dsimp only at hSw); go_simp; try with_reducible rfl
  (try simp only [Act.put, List.getElem_toArray, List.getElem_cons_succ, List.getElem_cons_zero, List.setIfInBounds_toArray, List.set_cons_zero, List.set_cons_succ])
  refine wpAnyH_ready (rs := [3]) (by kernel_rfl) (by simp) ?_
  refine AllReadyH.cons rfl (fun K hK => ?_) (AllReadyH.nil)
  · skip
    go_simp
    (first
  | (go_at_call 70; ((with_reducible refine (rnum_at n n.toNat _ Zn Yn).mono ?_); rintro e z ⟨vn, rfl, hon, hb⟩; obtain ⟨a7, c7, rfl, -, -, -⟩ := hon.by_; have HN7 := Hk.mk (hon.weak (kw_le HB.out L0V)); clear hon))
  | (go_at_call 70; ((with_reducible refine (rnum_at t t.toNat _ Zt Yt).mono ?_); rintro e z ⟨vn, rfl, hon, hb⟩; obtain ⟨a8, c8, rfl, -, -, -⟩ := hon.by_; have HN8 := Hk.mk (hon.weak (kw_le HB.out L0V)); clear hon)))
    replace HO := Hk.mk (HO.out.below hb)
    replace HB := Hk.mk (kw_step HB.out L0V hb)
    clear hb
    refine hK.out _ _ ?_ (fun hHeld2 => ?_)
    · exact kw_s HB.out
    clear hK K hHeld
    have hHeld := hHeld2
    clear hHeld2
    (try simp only [Act.put, List.getElem_toArray, List.getElem_cons_succ, List.getElem_cons_zero, List.setIfInBounds_toArray, List.set_cons_zero, List.set_cons_succ])
    refine reg_cast (l' := #[true, true, true, true, false, true, true, false, false, false]) (by kernel_rfl) ?_
    revert hHeld
    revert HN7
    revert HO
    revert HB
    revert c7
    revert a7
    revert z
    exact HG1.out
  intro W2 a7 c7 HB HO HN7 hHeld
  refine wpAnyH_ready (rs := [4]) (by kernel_rfl) (by simp) ?_
  refine AllReadyH.cons rfl (fun K hK => ?_) (AllReadyH.nil)
  · skip
    (refine step_append_by _ (by rfl) (.tmp 92) (.tmp 95) (by rfl) VA.heap.size _ _ _ (by rfl) HO.out _ _ _ _ _ (by rfl) (own_byC HN7.out) HN7.out.an23 (by omega) (kw_le HB.out L0V) ?_; intro v9 z ho5 hg5; replace HB := Hk.mk (HB.out.grown hg5 (kw_le HB.out L0V) (fun g hg => (HO.out.lt g hg).1)); have HO9 := Hk.mk ho5; clear ho5 hg5)
    refine hK.out _ _ ?_ (fun hHeld2 => ?_)
    · exact kw_s HB.out
    clear hK K hHeld
    have hHeld := hHeld2
    clear hHeld2
    (try simp only [Act.put, List.getElem_toArray, List.getElem_cons_succ, List.getElem_cons_zero, List.setIfInBounds_toArray, List.set_cons_zero, List.set_cons_succ])
    clear HO
    clear HN7
    refine reg_cast (l' := #[true, true, true, true, true, true, true, false, false, false]) (by kernel_rfl) ?_
    revert hHeld
    revert HO9
    revert HB
    revert v9
    revert c7
    revert a7
    revert z
    exact HG2.out
  intro W2 a7 c7 v9 HB HO9 hHeld
  refine wpAnyH_ready (rs := [7]) (by kernel_rfl) (by simp) ?_
  refine AllReadyH.cons rfl (fun K hK => ?_) (AllReadyH.nil)
  · skip
    go_simp
    (first
  | (go_at_call 70; ((with_reducible refine (rnum_at n n.toNat _ Zn Yn).mono ?_); rintro e z ⟨vn, rfl, hon, hb⟩; obtain ⟨a7, c7, rfl, -, -, -⟩ := hon.by_; have HN7 := Hk.mk (hon.weak (kw_le HB.out L0V)); clear hon))
  | (go_at_call 70; ((with_reducible refine (rnum_at t t.toNat _ Zt Yt).mono ?_); rintro e z ⟨vn, rfl, hon, hb⟩; obtain ⟨a8, c8, rfl, -, -, -⟩ := hon.by_; have HN8 := Hk.mk (hon.weak (kw_le HB.out L0V)); clear hon)))
    replace HO9 := Hk.mk (HO9.out.below hb)
    replace HB := Hk.mk (kw_step HB.out L0V hb)
    clear hb
    refine hK.out _ _ ?_ (fun hHeld2 => ?_)
    · exact kw_s HB.out
    clear hK K hHeld
    have hHeld := hHeld2
    clear hHeld2
    (try simp only [Act.put, List.getElem_toArray, List.getElem_cons_succ, List.getElem_cons_zero, List.setIfInBounds_toArray, List.set_cons_zero, List.set_cons_succ])
    refine reg_cast (l' := #[true, true, true, true, true, true, true, true, false, false]) (by kernel_rfl) ?_
    revert hHeld
    revert HN8
    revert HO9
    revert HB
    revert c8
    revert a8
    revert v9
    revert c7
    revert a7
    revert z
    exact HG3.out
  intro W2 a7 c7 v9 a8 c8 HB HO9 HN8 hHeld
  refine wpAnyH_ready (rs := [8]) (by kernel_rfl) (by simp) ?_
  refine AllReadyH.cons rfl (fun K hK => ?_) (AllReadyH.nil)
  · skip
    (refine step_append_by _ (by rfl) (.tmp 96) (.tmp 99) (by rfl) VA.heap.size _ _ _ (by rfl) HO9.out _ _ _ _ _ (by rfl) (own_byC HN8.out) HN8.out.an23 (by omega) (kw_le HB.out L0V) ?_; intro v10 z ho5 hg5; replace HB := Hk.mk (HB.out.grown hg5 (kw_le HB.out L0V) (fun g hg => (HO9.out.lt g hg).1)); have HOF := Hk.mk ho5; clear ho5 hg5)
    refine hK.out _ _ ?_ (fun hHeld2 => ?_)
    · exact kw_s HB.out
    clear hK K hHeld
    have hHeld := hHeld2
    clear hHeld2
    (try simp only [Act.put, List.getElem_toArray, List.getElem_cons_succ, List.getElem_cons_zero, List.setIfInBounds_toArray, List.set_cons_zero, List.set_cons_succ])
    clear HO9
    clear HN8
    refine wpAnyH_take (i := 9) (v := ?_) rfl (by kernel_rfl) (by kernel_rfl) (by kernel_rfl) (fun _ _ _ h => h) (Or.inl ⟨by rfl, fun wX hSw => ?_⟩) (by assumption) ?_
    rotate_left
    · (try dsimp only at hSw); go_simp; try with_reducible rfl
    (try simp only [Act.put, List.getElem_toArray, List.getElem_cons_succ, List.getElem_cons_zero, List.setIfInBounds_toArray, List.set_cons_zero, List.set_cons_succ])
    refine reg_cast (l' := #[true, true, true, true, true, true, true, true, true, true]) (by kernel_rfl) ?_
    revert hHeld
    revert HOF
    revert HB
    revert v10
    revert c8
    revert a8
    revert v9
    revert c7
    revert a7
    revert z
    exact HG4.out
  intro W2 a7 c7 v9 a8 c8 v10 HB HOF hHeld
  refine wpAnyH_done (by kernel_rfl) ?_ _
  have HO := HOF
  clear hHeld
  obtain ⟨hc, hf, hl', hn', hm'⟩ := kw_rules HB.out L0V
  go_wp2_with fail
  go_ret
  exact ⟨_, rfl, (own_conv HO.out (by first | (simp [bytesC, partsL, wrB]; done) | (simp [bytesC, partsL, wrB, HMU.out]; done))).weak hsw.out, HW.out.trans (HB.out.mono hsw.out)⟩
set_option maxRecDepth 100000 in
set_option maxHeartbeats 1600000 in
theorem rbytes21_2 (p s n : Int) (a : Option Addr) (m c : Nat) (u : List Int) (t wd h x y : Int) (w : World) (hN : Nq w w.heap.size a m u) (hm : m ≤ 1000) (hok : okC p s 2 ⟨n, u, t, wd, h, x, y⟩ = true) :
    Calls Try.prog 22 #[.agg #[.int .i64 p, .int .i64 s, .int .i64 2, .int .i64 n, .slice a m c, .int .i64 t, .int .i64 wd, .int .i64 h, .int .i64 x, .int .i64 y]] w fun e w' => ∃ v, e = .returned v ∧ OwnB w' w.heap.size v (bytesC p s 2 ⟨n, u, t, wd, h, x, y⟩).length (bytesC p s 2 ⟨n, u, t, wd, h, x, y⟩) ∧ Below w.heap.size w w' := by
  obtain ⟨bp1, bp2, bs1, bs2, bc⟩ := okC_base hok
  have HPB := Hk.mk (Bk.new w #[.int .i64 p, .int .i64 s, .int .i64 2, .int .i64 n, .slice a m c, .int .i64 t, .int .i64 wd, .int .i64 h, .int .i64 x, .int .i64 y] 28)
  have HW := Hk.mk ((Below.refl w.heap.size w).alloc (Nat.le_refl _) (.cells #[.int .i64 p, .int .i64 s, .int .i64 2, .int .i64 n, .slice a m c, .int .i64 t, .int .i64 wd, .int .i64 h, .int .i64 x, .int .i64 y] 28))
  have HNU0 := Hk.mk (hN.below HW.out (Nat.le_refl _))
  have Zp : Hk (p = p.toNat) := ⟨by omega⟩
  have Yp : Hk (p.toNat ≤ 9223372036854775807) := ⟨by omega⟩
  have Zs : Hk (s = s.toNat) := ⟨by omega⟩
  have Ys : Hk (s.toNat ≤ 9223372036854775807) := ⟨by omega⟩
  have lp := numL_nine' (z := p) (by omega)
  have ls := numL_nine' (z := s) (by omega)
  have lk : (Wr.numL 2).length ≤ 9 := Wr.numL_nine (by omega)
  clear hN
  have bu : idsB u = true := by simp [partsL, chkL, vB, eC, remB] at bc; exact bc.1
  have bas : ascL 0 u = true ∧ u.length ≤ 64 := by unfold idsB at bu; simp at bu; exact ⟨bu.2, bu.1.2⟩
  have HU : Hk (∀ b ∈ u, 0 < b ∧ b ≤ 1099511627776) := ⟨fun b hb => asc_ge bas.1 b hb⟩
  have lu : (Wr.numL m ++ uL u).length ≤ 700 := by
    have h1 := uL_len u (fun b hb => (HU.out b hb).2)
    have h2 : (Wr.numL m).length ≤ 9 := Wr.numL_nine (by omega)
    rw [List.length_append]
    omega
  have lu1 : (Wr.numL m).length ≤ 9 := Wr.numL_nine (by omega)
  have lu2 : (uL u).length ≤ 700 := by rw [List.length_append] at lu; omega
  obtain ⟨NU, hNU'⟩ : ∃ NU, (Wr.numL m ++ uL u).length = NU := ⟨_, rfl⟩
  have hNU := Hk.mk hNU'
  rw [hNU'] at lu
  clear hNU'
  have HMU : Hk (u.length = m) := ⟨HNU0.out.len⟩
  clear bu bas
  have bt : 0 ≤ t ∧ t ≤ 1099511627776 := by simp [partsL, chkL, vB, eC, remB] at bc; omega
  have Zt : Hk (t = t.toNat) := ⟨by omega⟩
  have Yt : Hk (t.toNat ≤ 9223372036854775807) := ⟨by omega⟩
  have lt := numL_nine' (z := t) (by omega)
  clear bc hok
  go_enter Try.func22, Try.ntmps22
  go_upto_region 1 with (fail)
  generalize w.alloc (.cells #[.int .i64 p, .int .i64 s, .int .i64 2, .int .i64 n, .slice a m c, .int .i64 t, .int .i64 wd, .int .i64 h, .int .i64 x, .int .i64 y] 28) = VA at *
  have d0 : VA.cell? ⟨w.heap.size, 0, none⟩ = some (.int .i64 p) := HPB.out.c 0
  have d1 : VA.cell? ⟨w.heap.size, 1, none⟩ = some (.int .i64 s) := HPB.out.c 1
  have d2 : VA.cell? ⟨w.heap.size, 2, none⟩ = some (.int .i64 2) := HPB.out.c 2
  have d3 : VA.cell? ⟨w.heap.size, 3, none⟩ = some (.int .i64 n) := HPB.out.c 3
  have d4 : VA.cell? ⟨w.heap.size, 4, none⟩ = some (.slice a m c) := HPB.out.c 4
  have d5 : VA.cell? ⟨w.heap.size, 5, none⟩ = some (.int .i64 t) := HPB.out.c 5
  have d6 : VA.cell? ⟨w.heap.size, 6, none⟩ = some (.int .i64 wd) := HPB.out.c 6
  have d7 : VA.cell? ⟨w.heap.size, 7, none⟩ = some (.int .i64 h) := HPB.out.c 7
  have d8 : VA.cell? ⟨w.heap.size, 8, none⟩ = some (.int .i64 x) := HPB.out.c 8
  have d9 : VA.cell? ⟨w.heap.size, 9, none⟩ = some (.int .i64 y) := HPB.out.c 9
  have bX := HPB.out.lt
  have hsw : Hk (w.heap.size ≤ VA.heap.size) := ⟨by omega⟩
  have HNU : Hk (∀ X, Below VA.heap.size VA X → Nq X X.heap.size a m u) := ⟨fun X hX => (HNU0.out.below hX hsw.out).mono (by have := hX.size; omega)⟩
  clear HPB HNU0
  have L0V : VA.heap.size ≤ VA.heap.size := Nat.le_refl _
  apply reg_merge
  intro HG3
  apply reg_merge
  intro HG2
  apply reg_merge
  intro HG1
  refine wp_region_held_drew (S := fun Z => (∀ b o, b < VA.heap.size → Z.cell? ⟨b, o, none⟩ = VA.cell? ⟨b, o, none⟩)) (by kernel_rfl) (fun _ _ _ => rfl) (fun hHeld => ?_)
  have HB : Hk (Below VA.heap.size VA VA.drew) := ⟨(Below.refl _ _).drew⟩
  obtain ⟨W1, hWe⟩ : ∃ W1, VA.drew = W1 := ⟨_, rfl⟩
  rw [hWe] at HB hHeld ⊢
  clear hWe
  refine wpAnyH_take (i := 0) (v := ?_) rfl (by kernel_rfl) (by kernel_rfl) (by kernel_rfl) (fun _ _ _ h => h) (Or.inl ⟨by rfl, fun wX hSw => ?_⟩) (by assumption) ?_
  rotate_left
  · (try dsimp only at hSw); go_simp; try with_reducible rfl
  (try simp only [Act.put, List.getElem_toArray, List.getElem_cons_succ, List.getElem_cons_zero, List.setIfInBounds_toArray, List.set_cons_zero, List.set_cons_succ])
  refine wpAnyH_take (i := 1) (v := ?_) rfl (by kernel_rfl) (by kernel_rfl) (by kernel_rfl) (fun _ _ _ h => h) (Or.inl ⟨by rfl, fun wX hSw => ?_⟩) (by assumption) ?_
  rotate_left
  · (try dsimp only at hSw); go_simp; try with_reducible rfl
  (try simp only [Act.put, List.getElem_toArray, List.getElem_cons_succ, List.getElem_cons_zero, List.setIfInBounds_toArray, List.set_cons_zero, List.set_cons_succ])
  refine wpAnyH_take (i := 3) (v := ?_) rfl (by kernel_rfl) (by kernel_rfl) (by kernel_rfl) (fun _ _ _ h => h) (Or.inl ⟨by rfl, fun wX hSw => ?_⟩) (by assumption) ?_
  rotate_left
  · (try dsimp only at hSw); go_simp; try with_reducible rfl
  (try simp only [Act.put, List.getElem_toArray, List.getElem_cons_succ, List.getElem_cons_zero, List.setIfInBounds_toArray, List.set_cons_zero, List.set_cons_succ])
  refine wpAnyH_take (i := 4) (v := ?_) rfl (by kernel_rfl) (by kernel_rfl) (by kernel_rfl) (fun _ _ _ h => h) (Or.inl ⟨by rfl, fun wX hSw => ?_⟩) (by assumption) ?_
  rotate_left
  · (try dsimp only at hSw); go_simp; try with_reducible rfl
  (try simp only [Act.put, List.getElem_toArray, List.getElem_cons_succ, List.getElem_cons_zero, List.setIfInBounds_toArray, List.set_cons_zero, List.set_cons_succ])
  refine wpAnyH_ready (rs := [2]) (by kernel_rfl) (by simp) ?_
  refine AllReadyH.cons rfl (fun K hK => ?_) (AllReadyH.nil)
  · skip
    go_simp
    (first
  | (go_at_call 70; ((with_reducible refine (rnum_at 2 2 _ ⟨rfl⟩ ⟨by omega⟩).mono ?_); rintro e z ⟨vn, rfl, hon, hb⟩; obtain ⟨a7, c7, rfl, -, -, -⟩ := hon.by_; have HO7 := Hk.mk (hon.weak (kw_le HB.out L0V)); clear hon))
  | (go_at_call 70; ((with_reducible refine (rnum_at p p.toNat _ Zp Yp).mono ?_); rintro e z ⟨vn, rfl, hon, hb⟩; obtain ⟨a8, c8, rfl, -, -, -⟩ := hon.by_; have HO8 := Hk.mk (hon.weak (kw_le HB.out L0V)); clear hon)))
    replace HB := Hk.mk (kw_step HB.out L0V hb)
    clear hb
    refine hK.out _ _ ?_ (fun hHeld2 => ?_)
    · exact kw_s HB.out
    clear hK K hHeld
    have hHeld := hHeld2
    clear hHeld2
    (try simp only [Act.put, List.getElem_toArray, List.getElem_cons_succ, List.getElem_cons_zero, List.setIfInBounds_toArray, List.set_cons_zero, List.set_cons_succ])
    refine reg_cast (l' := #[true, true, true, true, true, false, false, false]) (by kernel_rfl) ?_
    revert hHeld
    revert HO7
    revert HB
    revert c7
    revert a7
    revert z
    exact HG1.out
  intro W1 a7 c7 HB HO7 hHeld
  refine wpAnyH_ready (rs := [5]) (by kernel_rfl) (by simp) ?_
  refine AllReadyH.cons rfl (fun K hK => ?_) (AllReadyH.nil)
  · skip
    go_simp
    (first
  | (go_at_call 70; ((with_reducible refine (rnum_at 2 2 _ ⟨rfl⟩ ⟨by omega⟩).mono ?_); rintro e z ⟨vn, rfl, hon, hb⟩; obtain ⟨a7, c7, rfl, -, -, -⟩ := hon.by_; have HO7 := Hk.mk (hon.weak (kw_le HB.out L0V)); clear hon))
  | (go_at_call 70; ((with_reducible refine (rnum_at p p.toNat _ Zp Yp).mono ?_); rintro e z ⟨vn, rfl, hon, hb⟩; obtain ⟨a8, c8, rfl, -, -, -⟩ := hon.by_; have HO8 := Hk.mk (hon.weak (kw_le HB.out L0V)); clear hon)))
    replace HO7 := Hk.mk (HO7.out.below hb)
    replace HB := Hk.mk (kw_step HB.out L0V hb)
    clear hb
    refine hK.out _ _ ?_ (fun hHeld2 => ?_)
    · exact kw_s HB.out
    clear hK K hHeld
    have hHeld := hHeld2
    clear hHeld2
    (try simp only [Act.put, List.getElem_toArray, List.getElem_cons_succ, List.getElem_cons_zero, List.setIfInBounds_toArray, List.set_cons_zero, List.set_cons_succ])
    refine reg_cast (l' := #[true, true, true, true, true, true, false, false]) (by kernel_rfl) ?_
    revert hHeld
    revert HO8
    revert HO7
    revert HB
    revert c8
    revert a8
    revert c7
    revert a7
    revert z
    exact HG2.out
  intro W1 a7 c7 a8 c8 HB HO7 HO8 hHeld
  refine wpAnyH_ready (rs := [6]) (by kernel_rfl) (by simp) ?_
  refine AllReadyH.cons rfl (fun K hK => ?_) (AllReadyH.nil)
  · skip
    (refine step_append_by _ (by rfl) (.tmp 6) (.tmp 9) (by rfl) VA.heap.size _ _ _ (by rfl) HO7.out _ _ _ _ _ (by rfl) (own_byC HO8.out) HO8.out.an23 (by omega) (kw_le HB.out L0V) ?_; intro v9 z ho5 hg5; replace HB := Hk.mk (HB.out.grown hg5 (kw_le HB.out L0V) (fun g hg => (HO7.out.lt g hg).1)); have HO := Hk.mk ho5; clear ho5 hg5)
    refine hK.out _ _ ?_ (fun hHeld2 => ?_)
    · exact kw_s HB.out
    clear hK K hHeld
    have hHeld := hHeld2
    clear hHeld2
    (try simp only [Act.put, List.getElem_toArray, List.getElem_cons_succ, List.getElem_cons_zero, List.setIfInBounds_toArray, List.set_cons_zero, List.set_cons_succ])
    clear HO7
    clear HO8
    refine wpAnyH_take (i := 7) (v := ?_) rfl (by kernel_rfl) (by kernel_rfl) (by kernel_rfl) (fun _ _ _ h => h) (Or.inl ⟨by rfl, fun wX hSw => ?_⟩) (by assumption) ?_
    rotate_left
    · (try dsimp only at hSw); go_simp; try with_reducible rfl
    (try simp only [Act.put, List.getElem_toArray, List.getElem_cons_succ, List.getElem_cons_zero, List.setIfInBounds_toArray, List.set_cons_zero, List.set_cons_succ])
    refine reg_cast (l' := #[true, true, true, true, true, true, true, true]) (by kernel_rfl) ?_
    revert hHeld
    revert HO
    revert HB
    revert v9
    revert c8
    revert a8
    revert c7
    revert a7
    revert z
    exact HG3.out
  intro W1 a7 c7 a8 c8 v9 HB HO hHeld
  refine wpAnyH_done (by kernel_rfl) ?_ _
  clear hHeld
  obtain ⟨hc, hf, hl', hn', hm'⟩ := kw_rules HB.out L0V
  go_upto_region 9 with (first | (go_at_call 70; (first | (with_reducible refine (rnum_at s s.toNat _ Zs Ys).mono ?_) | (with_reducible refine (rnum_at n n.toNat _ Zn Yn).mono ?_) | (with_reducible refine (rnum_at t t.toNat _ Zt Yt).mono ?_) | (with_reducible refine (rnum_at wd wd.toNat _ Zw Yw).mono ?_) | (with_reducible refine (rnum_at h h.toNat _ Zh Yh).mono ?_)); rintro e z ⟨vn, rfl, hon, hb⟩; obtain ⟨an, cn, rfl, -, -, -⟩ := hon.by_; have HN := Hk.mk (hon.weak (kw_le HB.out L0V)); replace HO := Hk.mk (HO.out.below hb); replace HB := Hk.mk (kw_step HB.out L0V hb); clear hon hb; clear hc hf hl' hn' hm'; obtain ⟨hc, hf, hl', hn', hm'⟩ := kw_rules HB.out L0V) | (at_builtin; go_must (refine wpList_append_by _ rfl _ _ rfl VA.heap.size _ _ _ rfl HO.out _ _ _ _ _ rfl (own_byC HN.out) HN.out.an23 (by omega) (kw_le HB.out L0V) ?_); intro v2 z ho2 hg2; replace HB := Hk.mk (HB.out.grown hg2 (kw_le HB.out L0V) (fun g hg => (HO.out.lt g hg).1)); replace HO := Hk.mk ho2; clear ho2 hg2 HN; clear hc hf hl' hn' hm'; obtain ⟨hc, hf, hl', hn', hm'⟩ := kw_rules HB.out L0V))
  generalize z = VB at *
  have HBS := HB
  clear HB
  clear hc hf hl' hn' hm'
  have L0V : VA.heap.size ≤ VA.heap.size := Nat.le_refl _
  apply reg_merge
  intro HG4
  apply reg_merge
  intro HG3
  apply reg_merge
  intro HG2
  apply reg_merge
  intro HG1
  refine wp_region_held_drew (S := fun Z => (∀ b o, b < VA.heap.size → Z.cell? ⟨b, o, none⟩ = VA.cell? ⟨b, o, none⟩)) (by kernel_rfl) (kw_s HBS.out.drew) (fun hHeld => ?_)
  have HB := Hk.mk HBS.out.drew
  have hb := (Below.refl VB.heap.size VB).drew
  replace HO := Hk.mk (HO.out.below hb)
  clear hb
  obtain ⟨W2, hWe⟩ : ∃ W2, VB.drew = W2 := ⟨_, rfl⟩
  rw [hWe] at HB hHeld HO ⊢
  clear hWe
  refine wpAnyH_take (i := 0) (v := ?_) rfl (by kernel_rfl) (by kernel_rfl) (by kernel_rfl) (fun _ _ _ h => h) (Or.inl ⟨by rfl, fun wX hSw => ?_⟩) (by assumption) ?_
  rotate_left
  · (try dsimp only at hSw); go_simp; try with_reducible rfl
  (try simp only [Act.put, List.getElem_toArray, List.getElem_cons_succ, List.getElem_cons_zero, List.setIfInBounds_toArray, List.set_cons_zero, List.set_cons_succ])
  refine wpAnyH_take (i := 1) (v := ?_) rfl (by kernel_rfl) (by kernel_rfl) (by kernel_rfl) (fun _ _ _ h => h) (Or.inl ⟨by rfl, fun wX hSw => ?_⟩) (by assumption) ?_
  rotate_left
  · (try dsimp only at hSw); go_simp; try with_reducible rfl
  (try simp only [Act.put, List.getElem_toArray, List.getElem_cons_succ, List.getElem_cons_zero, List.setIfInBounds_toArray, List.set_cons_zero, List.set_cons_succ])
  refine wpAnyH_take (i := 2) (v := ?_) rfl (by kernel_rfl) (by kernel_rfl) (by kernel_rfl) (fun _ _ _ h => h) (Or.inl ⟨by rfl, fun wX hSw => ?_⟩) (by assumption) ?_
  rotate_left
  · (try dsimp only at hSw); go_simp; try with_reducible rfl
  (try simp only [Act.put, List.getElem_toArray, List.getElem_cons_succ, List.getElem_cons_zero, List.setIfInBounds_toArray, List.set_cons_zero, List.set_cons_succ])
  refine wpAnyH_take (i := 5) (v := ?_) rfl (by kernel_rfl) (by kernel_rfl) (by kernel_rfl) (fun _ _ _ h => h) (Or.inl ⟨by rfl, fun wX hSw => ?_⟩) (by assumption) ?_
  rotate_left
  · (try dsimp only at hSw); go_simp; try with_reducible rfl
  (try simp only [Act.put, List.getElem_toArray, List.getElem_cons_succ, List.getElem_cons_zero, List.setIfInBounds_toArray, List.set_cons_zero, List.set_cons_succ])
  refine wpAnyH_take (i := 6) (v := ?_) rfl (by kernel_rfl) (by kernel_rfl) (by kernel_rfl) (fun _ _ _ h => h) (Or.inl ⟨by rfl, fun wX hSw => ?_⟩) (by assumption) ?_
  rotate_left
  · (try dsimp only at hSw); go_simp; try with_reducible rfl
  (try simp only [Act.put, List.getElem_toArray, List.getElem_cons_succ, List.getElem_cons_zero, List.setIfInBounds_toArray, List.set_cons_zero, List.set_cons_succ])
  refine wpAnyH_ready (rs := [3]) (by kernel_rfl) (by simp) ?_
  refine AllReadyH.cons rfl (fun K hK => ?_) (AllReadyH.nil)
  · skip
    go_simp
    (first
  | (go_at_call 72; ((with_reducible refine (units22_as a m c u NU _ (HNU.out _ HB.out) (by omega) HU hNU).mono ?_); rintro e z ⟨vn, rfl, hon, hb⟩; obtain ⟨a7, c7, rfl, -, -, -⟩ := hon.by_; have HN7 := Hk.mk (hon.weak (kw_le HB.out L0V)); clear hon))
  | (go_at_call 70; ((with_reducible refine (rnum_at t t.toNat _ Zt Yt).mono ?_); rintro e z ⟨vn, rfl, hon, hb⟩; obtain ⟨a8, c8, rfl, -, -, -⟩ := hon.by_; have HN8 := Hk.mk (hon.weak (kw_le HB.out L0V)); clear hon)))
    replace HO := Hk.mk (HO.out.below hb)
    replace HB := Hk.mk (kw_step HB.out L0V hb)
    clear hb
    refine hK.out _ _ ?_ (fun hHeld2 => ?_)
    · exact kw_s HB.out
    clear hK K hHeld
    have hHeld := hHeld2
    clear hHeld2
    (try simp only [Act.put, List.getElem_toArray, List.getElem_cons_succ, List.getElem_cons_zero, List.setIfInBounds_toArray, List.set_cons_zero, List.set_cons_succ])
    refine reg_cast (l' := #[true, true, true, true, false, true, true, false, false, false]) (by kernel_rfl) ?_
    revert hHeld
    revert HN7
    revert HO
    revert HB
    revert c7
    revert a7
    revert z
    exact HG1.out
  intro W2 a7 c7 HB HO HN7 hHeld
  refine wpAnyH_ready (rs := [4]) (by kernel_rfl) (by simp) ?_
  refine AllReadyH.cons rfl (fun K hK => ?_) (AllReadyH.nil)
  · skip
    (refine step_append_by _ (by rfl) (.tmp 39) (.tmp 42) (by rfl) VA.heap.size _ _ _ (by rfl) HO.out _ _ _ _ _ (by rfl) (own_byC HN7.out) HN7.out.an23 (by omega) (kw_le HB.out L0V) ?_; intro v9 z ho5 hg5; replace HB := Hk.mk (HB.out.grown hg5 (kw_le HB.out L0V) (fun g hg => (HO.out.lt g hg).1)); have HO9 := Hk.mk ho5; clear ho5 hg5)
    refine hK.out _ _ ?_ (fun hHeld2 => ?_)
    · exact kw_s HB.out
    clear hK K hHeld
    have hHeld := hHeld2
    clear hHeld2
    (try simp only [Act.put, List.getElem_toArray, List.getElem_cons_succ, List.getElem_cons_zero, List.setIfInBounds_toArray, List.set_cons_zero, List.set_cons_succ])
    clear HO
    clear HN7
    refine reg_cast (l' := #[true, true, true, true, true, true, true, false, false, false]) (by kernel_rfl) ?_
    revert hHeld
    revert HO9
    revert HB
    revert v9
    revert c7
    revert a7
    revert z
    exact HG2.out
  intro W2 a7 c7 v9 HB HO9 hHeld
  refine wpAnyH_ready (rs := [7]) (by kernel_rfl) (by simp) ?_
  refine AllReadyH.cons rfl (fun K hK => ?_) (AllReadyH.nil)
  · skip
    go_simp
    (first
  | (go_at_call 72; ((with_reducible refine (units22_as a m c u NU _ (HNU.out _ HB.out) (by omega) HU hNU).mono ?_); rintro e z ⟨vn, rfl, hon, hb⟩; obtain ⟨a7, c7, rfl, -, -, -⟩ := hon.by_; have HN7 := Hk.mk (hon.weak (kw_le HB.out L0V)); clear hon))
  | (go_at_call 70; ((with_reducible refine (rnum_at t t.toNat _ Zt Yt).mono ?_); rintro e z ⟨vn, rfl, hon, hb⟩; obtain ⟨a8, c8, rfl, -, -, -⟩ := hon.by_; have HN8 := Hk.mk (hon.weak (kw_le HB.out L0V)); clear hon)))
    replace HO9 := Hk.mk (HO9.out.below hb)
    replace HB := Hk.mk (kw_step HB.out L0V hb)
    clear hb
    refine hK.out _ _ ?_ (fun hHeld2 => ?_)
    · exact kw_s HB.out
    clear hK K hHeld
    have hHeld := hHeld2
    clear hHeld2
    (try simp only [Act.put, List.getElem_toArray, List.getElem_cons_succ, List.getElem_cons_zero, List.setIfInBounds_toArray, List.set_cons_zero, List.set_cons_succ])
    refine reg_cast (l' := #[true, true, true, true, true, true, true, true, false, false]) (by kernel_rfl) ?_
    revert hHeld
    revert HN8
    revert HO9
    revert HB
    revert c8
    revert a8
    revert v9
    revert c7
    revert a7
    revert z
    exact HG3.out
  intro W2 a7 c7 v9 a8 c8 HB HO9 HN8 hHeld
  refine wpAnyH_ready (rs := [8]) (by kernel_rfl) (by simp) ?_
  refine AllReadyH.cons rfl (fun K hK => ?_) (AllReadyH.nil)
  · skip
    (refine step_append_by _ (by rfl) (.tmp 43) (.tmp 46) (by rfl) VA.heap.size _ _ _ (by rfl) HO9.out _ _ _ _ _ (by rfl) (own_byC HN8.out) HN8.out.an23 (by omega) (kw_le HB.out L0V) ?_; intro v10 z ho5 hg5; replace HB := Hk.mk (HB.out.grown hg5 (kw_le HB.out L0V) (fun g hg => (HO9.out.lt g hg).1)); have HOF := Hk.mk ho5; clear ho5 hg5)
    refine hK.out _ _ ?_ (fun hHeld2 => ?_)
    · exact kw_s HB.out
    clear hK K hHeld
    have hHeld := hHeld2
    clear hHeld2
    (try simp only [Act.put, List.getElem_toArray, List.getElem_cons_succ, List.getElem_cons_zero, List.setIfInBounds_toArray, List.set_cons_zero, List.set_cons_succ])
    clear HO9
    clear HN8
    refine wpAnyH_take (i := 9) (v := ?_) rfl (by kernel_rfl) (by kernel_rfl) (by kernel_rfl) (fun _ _ _ h => h) (Or.inl ⟨by rfl, fun wX hSw => ?_⟩) (by assumption) ?_
    rotate_left
    · (try dsimp only at hSw); go_simp; try with_reducible rfl
    (try simp only [Act.put, List.getElem_toArray, List.getElem_cons_succ, List.getElem_cons_zero, List.setIfInBounds_toArray, List.set_cons_zero, List.set_cons_succ])
    refine reg_cast (l' := #[true, true, true, true, true, true, true, true, true, true]) (by kernel_rfl) ?_
    revert hHeld
    revert HOF
    revert HB
    revert v10
    revert c8
    revert a8
    revert v9
    revert c7
    revert a7
    revert z
    exact HG4.out
  intro W2 a7 c7 v9 a8 c8 v10 HB HOF hHeld
  refine wpAnyH_done (by kernel_rfl) ?_ _
  have HO := HOF
  clear hHeld
  obtain ⟨hc, hf, hl', hn', hm'⟩ := kw_rules HB.out L0V
  go_wp2_with fail
  go_ret
  exact ⟨_, rfl, (own_conv HO.out (by first | (simp [bytesC, partsL, wrB]; done) | (simp [bytesC, partsL, wrB, HMU.out]; done))).weak hsw.out, HW.out.trans (HB.out.mono hsw.out)⟩
set_option maxRecDepth 100000 in
set_option maxHeartbeats 1600000 in
theorem rbytes21_6 (p s n : Int) (a : Option Addr) (m c : Nat) (u : List Int) (t wd h x y : Int) (w : World) (hN : Nq w w.heap.size a m u) (hm : m ≤ 1000) (hok : okC p s 6 ⟨n, u, t, wd, h, x, y⟩ = true) :
    Calls Try.prog 22 #[.agg #[.int .i64 p, .int .i64 s, .int .i64 6, .int .i64 n, .slice a m c, .int .i64 t, .int .i64 wd, .int .i64 h, .int .i64 x, .int .i64 y]] w fun e w' => ∃ v, e = .returned v ∧ OwnB w' w.heap.size v (bytesC p s 6 ⟨n, u, t, wd, h, x, y⟩).length (bytesC p s 6 ⟨n, u, t, wd, h, x, y⟩) ∧ Below w.heap.size w w' := by
  obtain ⟨bp1, bp2, bs1, bs2, bc⟩ := okC_base hok
  have HPB := Hk.mk (Bk.new w #[.int .i64 p, .int .i64 s, .int .i64 6, .int .i64 n, .slice a m c, .int .i64 t, .int .i64 wd, .int .i64 h, .int .i64 x, .int .i64 y] 28)
  have HW := Hk.mk ((Below.refl w.heap.size w).alloc (Nat.le_refl _) (.cells #[.int .i64 p, .int .i64 s, .int .i64 6, .int .i64 n, .slice a m c, .int .i64 t, .int .i64 wd, .int .i64 h, .int .i64 x, .int .i64 y] 28))
  have HNU0 := Hk.mk (hN.below HW.out (Nat.le_refl _))
  have Zp : Hk (p = p.toNat) := ⟨by omega⟩
  have Yp : Hk (p.toNat ≤ 9223372036854775807) := ⟨by omega⟩
  have Zs : Hk (s = s.toNat) := ⟨by omega⟩
  have Ys : Hk (s.toNat ≤ 9223372036854775807) := ⟨by omega⟩
  have lp := numL_nine' (z := p) (by omega)
  have ls := numL_nine' (z := s) (by omega)
  have lk : (Wr.numL 6).length ≤ 9 := Wr.numL_nine (by omega)
  clear hN
  have bu : idsB u = true := by simp [partsL, chkL, vB, eC, remB] at bc; exact bc.1
  have bas : ascL 0 u = true ∧ u.length ≤ 64 := by unfold idsB at bu; simp at bu; exact ⟨bu.2, bu.1.2⟩
  have HU : Hk (∀ b ∈ u, 0 < b ∧ b ≤ 1099511627776) := ⟨fun b hb => asc_ge bas.1 b hb⟩
  have lu : (Wr.numL m ++ uL u).length ≤ 700 := by
    have h1 := uL_len u (fun b hb => (HU.out b hb).2)
    have h2 : (Wr.numL m).length ≤ 9 := Wr.numL_nine (by omega)
    rw [List.length_append]
    omega
  have lu1 : (Wr.numL m).length ≤ 9 := Wr.numL_nine (by omega)
  have lu2 : (uL u).length ≤ 700 := by rw [List.length_append] at lu; omega
  obtain ⟨NU, hNU'⟩ : ∃ NU, (Wr.numL m ++ uL u).length = NU := ⟨_, rfl⟩
  have hNU := Hk.mk hNU'
  rw [hNU'] at lu
  clear hNU'
  have HMU : Hk (u.length = m) := ⟨HNU0.out.len⟩
  clear bu bas
  have bn : 0 ≤ n ∧ n ≤ 1099511627776 := by simp [partsL, chkL, vB, eC, remB] at bc; omega
  have Zn : Hk (n = n.toNat) := ⟨by omega⟩
  have Yn : Hk (n.toNat ≤ 9223372036854775807) := ⟨by omega⟩
  have ln := numL_nine' (z := n) (by omega)
  clear bc hok
  go_enter Try.func22, Try.ntmps22
  go_upto_region 1 with (fail)
  generalize w.alloc (.cells #[.int .i64 p, .int .i64 s, .int .i64 6, .int .i64 n, .slice a m c, .int .i64 t, .int .i64 wd, .int .i64 h, .int .i64 x, .int .i64 y] 28) = VA at *
  have d0 : VA.cell? ⟨w.heap.size, 0, none⟩ = some (.int .i64 p) := HPB.out.c 0
  have d1 : VA.cell? ⟨w.heap.size, 1, none⟩ = some (.int .i64 s) := HPB.out.c 1
  have d2 : VA.cell? ⟨w.heap.size, 2, none⟩ = some (.int .i64 6) := HPB.out.c 2
  have d3 : VA.cell? ⟨w.heap.size, 3, none⟩ = some (.int .i64 n) := HPB.out.c 3
  have d4 : VA.cell? ⟨w.heap.size, 4, none⟩ = some (.slice a m c) := HPB.out.c 4
  have d5 : VA.cell? ⟨w.heap.size, 5, none⟩ = some (.int .i64 t) := HPB.out.c 5
  have d6 : VA.cell? ⟨w.heap.size, 6, none⟩ = some (.int .i64 wd) := HPB.out.c 6
  have d7 : VA.cell? ⟨w.heap.size, 7, none⟩ = some (.int .i64 h) := HPB.out.c 7
  have d8 : VA.cell? ⟨w.heap.size, 8, none⟩ = some (.int .i64 x) := HPB.out.c 8
  have d9 : VA.cell? ⟨w.heap.size, 9, none⟩ = some (.int .i64 y) := HPB.out.c 9
  have bX := HPB.out.lt
  have hsw : Hk (w.heap.size ≤ VA.heap.size) := ⟨by omega⟩
  have HNU : Hk (∀ X, Below VA.heap.size VA X → Nq X X.heap.size a m u) := ⟨fun X hX => (HNU0.out.below hX hsw.out).mono (by have := hX.size; omega)⟩
  clear HPB HNU0
  have L0V : VA.heap.size ≤ VA.heap.size := Nat.le_refl _
  apply reg_merge
  intro HG3
  apply reg_merge
  intro HG2
  apply reg_merge
  intro HG1
  refine wp_region_held_drew (S := fun Z => (∀ b o, b < VA.heap.size → Z.cell? ⟨b, o, none⟩ = VA.cell? ⟨b, o, none⟩)) (by kernel_rfl) (fun _ _ _ => rfl) (fun hHeld => ?_)
  have HB : Hk (Below VA.heap.size VA VA.drew) := ⟨(Below.refl _ _).drew⟩
  obtain ⟨W1, hWe⟩ : ∃ W1, VA.drew = W1 := ⟨_, rfl⟩
  rw [hWe] at HB hHeld ⊢
  clear hWe
  refine wpAnyH_take (i := 0) (v := ?_) rfl (by kernel_rfl) (by kernel_rfl) (by kernel_rfl) (fun _ _ _ h => h) (Or.inl ⟨by rfl, fun wX hSw => ?_⟩) (by assumption) ?_
  rotate_left
  · (try dsimp only at hSw); go_simp; try with_reducible rfl
  (try simp only [Act.put, List.getElem_toArray, List.getElem_cons_succ, List.getElem_cons_zero, List.setIfInBounds_toArray, List.set_cons_zero, List.set_cons_succ])
  refine wpAnyH_take (i := 1) (v := ?_) rfl (by kernel_rfl) (by kernel_rfl) (by kernel_rfl) (fun _ _ _ h => h) (Or.inl ⟨by rfl, fun wX hSw => ?_⟩) (by assumption) ?_
  rotate_left
  · (try dsimp only at hSw); go_simp; try with_reducible rfl
  (try simp only [Act.put, List.getElem_toArray, List.getElem_cons_succ, List.getElem_cons_zero, List.setIfInBounds_toArray, List.set_cons_zero, List.set_cons_succ])
  refine wpAnyH_take (i := 3) (v := ?_) rfl (by kernel_rfl) (by kernel_rfl) (by kernel_rfl) (fun _ _ _ h => h) (Or.inl ⟨by rfl, fun wX hSw => ?_⟩) (by assumption) ?_
  rotate_left
  · (try dsimp only at hSw); go_simp; try with_reducible rfl
  (try simp only [Act.put, List.getElem_toArray, List.getElem_cons_succ, List.getElem_cons_zero, List.setIfInBounds_toArray, List.set_cons_zero, List.set_cons_succ])
  refine wpAnyH_take (i := 4) (v := ?_) rfl (by kernel_rfl) (by kernel_rfl) (by kernel_rfl) (fun _ _ _ h => h) (Or.inl ⟨by rfl, fun wX hSw => ?_⟩) (by assumption) ?_
  rotate_left
  · (try dsimp only at hSw); go_simp; try with_reducible rfl
  (try simp only [Act.put, List.getElem_toArray, List.getElem_cons_succ, List.getElem_cons_zero, List.setIfInBounds_toArray, List.set_cons_zero, List.set_cons_succ])
  refine wpAnyH_ready (rs := [2]) (by kernel_rfl) (by simp) ?_
  refine AllReadyH.cons rfl (fun K hK => ?_) (AllReadyH.nil)
  · skip
    go_simp
    (first
  | (go_at_call 70; ((with_reducible refine (rnum_at 6 6 _ ⟨rfl⟩ ⟨by omega⟩).mono ?_); rintro e z ⟨vn, rfl, hon, hb⟩; obtain ⟨a7, c7, rfl, -, -, -⟩ := hon.by_; have HO7 := Hk.mk (hon.weak (kw_le HB.out L0V)); clear hon))
  | (go_at_call 70; ((with_reducible refine (rnum_at p p.toNat _ Zp Yp).mono ?_); rintro e z ⟨vn, rfl, hon, hb⟩; obtain ⟨a8, c8, rfl, -, -, -⟩ := hon.by_; have HO8 := Hk.mk (hon.weak (kw_le HB.out L0V)); clear hon)))
    replace HB := Hk.mk (kw_step HB.out L0V hb)
    clear hb
    refine hK.out _ _ ?_ (fun hHeld2 => ?_)
    · exact kw_s HB.out
    clear hK K hHeld
    have hHeld := hHeld2
    clear hHeld2
    (try simp only [Act.put, List.getElem_toArray, List.getElem_cons_succ, List.getElem_cons_zero, List.setIfInBounds_toArray, List.set_cons_zero, List.set_cons_succ])
    refine reg_cast (l' := #[true, true, true, true, true, false, false, false]) (by kernel_rfl) ?_
    revert hHeld
    revert HO7
    revert HB
    revert c7
    revert a7
    revert z
    exact HG1.out
  intro W1 a7 c7 HB HO7 hHeld
  refine wpAnyH_ready (rs := [5]) (by kernel_rfl) (by simp) ?_
  refine AllReadyH.cons rfl (fun K hK => ?_) (AllReadyH.nil)
  · skip
    go_simp
    (first
  | (go_at_call 70; ((with_reducible refine (rnum_at 6 6 _ ⟨rfl⟩ ⟨by omega⟩).mono ?_); rintro e z ⟨vn, rfl, hon, hb⟩; obtain ⟨a7, c7, rfl, -, -, -⟩ := hon.by_; have HO7 := Hk.mk (hon.weak (kw_le HB.out L0V)); clear hon))
  | (go_at_call 70; ((with_reducible refine (rnum_at p p.toNat _ Zp Yp).mono ?_); rintro e z ⟨vn, rfl, hon, hb⟩; obtain ⟨a8, c8, rfl, -, -, -⟩ := hon.by_; have HO8 := Hk.mk (hon.weak (kw_le HB.out L0V)); clear hon)))
    replace HO7 := Hk.mk (HO7.out.below hb)
    replace HB := Hk.mk (kw_step HB.out L0V hb)
    clear hb
    refine hK.out _ _ ?_ (fun hHeld2 => ?_)
    · exact kw_s HB.out
    clear hK K hHeld
    have hHeld := hHeld2
    clear hHeld2
    (try simp only [Act.put, List.getElem_toArray, List.getElem_cons_succ, List.getElem_cons_zero, List.setIfInBounds_toArray, List.set_cons_zero, List.set_cons_succ])
    refine reg_cast (l' := #[true, true, true, true, true, true, false, false]) (by kernel_rfl) ?_
    revert hHeld
    revert HO8
    revert HO7
    revert HB
    revert c8
    revert a8
    revert c7
    revert a7
    revert z
    exact HG2.out
  intro W1 a7 c7 a8 c8 HB HO7 HO8 hHeld
  refine wpAnyH_ready (rs := [6]) (by kernel_rfl) (by simp) ?_
  refine AllReadyH.cons rfl (fun K hK => ?_) (AllReadyH.nil)
  · skip
    (refine step_append_by _ (by rfl) (.tmp 6) (.tmp 9) (by rfl) VA.heap.size _ _ _ (by rfl) HO7.out _ _ _ _ _ (by rfl) (own_byC HO8.out) HO8.out.an23 (by omega) (kw_le HB.out L0V) ?_; intro v9 z ho5 hg5; replace HB := Hk.mk (HB.out.grown hg5 (kw_le HB.out L0V) (fun g hg => (HO7.out.lt g hg).1)); have HO := Hk.mk ho5; clear ho5 hg5)
    refine hK.out _ _ ?_ (fun hHeld2 => ?_)
    · exact kw_s HB.out
    clear hK K hHeld
    have hHeld := hHeld2
    clear hHeld2
    (try simp only [Act.put, List.getElem_toArray, List.getElem_cons_succ, List.getElem_cons_zero, List.setIfInBounds_toArray, List.set_cons_zero, List.set_cons_succ])
    clear HO7
    clear HO8
    refine wpAnyH_take (i := 7) (v := ?_) rfl (by kernel_rfl) (by kernel_rfl) (by kernel_rfl) (fun _ _ _ h => h) (Or.inl ⟨by rfl, fun wX hSw => ?_⟩) (by assumption) ?_
    rotate_left
    · (try dsimp only at hSw); go_simp; try with_reducible rfl
    (try simp only [Act.put, List.getElem_toArray, List.getElem_cons_succ, List.getElem_cons_zero, List.setIfInBounds_toArray, List.set_cons_zero, List.set_cons_succ])
    refine reg_cast (l' := #[true, true, true, true, true, true, true, true]) (by kernel_rfl) ?_
    revert hHeld
    revert HO
    revert HB
    revert v9
    revert c8
    revert a8
    revert c7
    revert a7
    revert z
    exact HG3.out
  intro W1 a7 c7 a8 c8 v9 HB HO hHeld
  refine wpAnyH_done (by kernel_rfl) ?_ _
  clear hHeld
  obtain ⟨hc, hf, hl', hn', hm'⟩ := kw_rules HB.out L0V
  go_upto_region 19 with (first | (go_at_call 70; (first | (with_reducible refine (rnum_at s s.toNat _ Zs Ys).mono ?_) | (with_reducible refine (rnum_at n n.toNat _ Zn Yn).mono ?_) | (with_reducible refine (rnum_at t t.toNat _ Zt Yt).mono ?_) | (with_reducible refine (rnum_at wd wd.toNat _ Zw Yw).mono ?_) | (with_reducible refine (rnum_at h h.toNat _ Zh Yh).mono ?_)); rintro e z ⟨vn, rfl, hon, hb⟩; obtain ⟨an, cn, rfl, -, -, -⟩ := hon.by_; have HN := Hk.mk (hon.weak (kw_le HB.out L0V)); replace HO := Hk.mk (HO.out.below hb); replace HB := Hk.mk (kw_step HB.out L0V hb); clear hon hb; clear hc hf hl' hn' hm'; obtain ⟨hc, hf, hl', hn', hm'⟩ := kw_rules HB.out L0V) | (at_builtin; go_must (refine wpList_append_by _ rfl _ _ rfl VA.heap.size _ _ _ rfl HO.out _ _ _ _ _ rfl (own_byC HN.out) HN.out.an23 (by omega) (kw_le HB.out L0V) ?_); intro v2 z ho2 hg2; replace HB := Hk.mk (HB.out.grown hg2 (kw_le HB.out L0V) (fun g hg => (HO.out.lt g hg).1)); replace HO := Hk.mk ho2; clear ho2 hg2 HN; clear hc hf hl' hn' hm'; obtain ⟨hc, hf, hl', hn', hm'⟩ := kw_rules HB.out L0V))
  generalize z = VB at *
  have HBS := HB
  clear HB
  clear hc hf hl' hn' hm'
  have L0V : VA.heap.size ≤ VA.heap.size := Nat.le_refl _
  apply reg_merge
  intro HG4
  apply reg_merge
  intro HG3
  apply reg_merge
  intro HG2
  apply reg_merge
  intro HG1
  refine wp_region_held_drew (S := fun Z => (∀ b o, b < VA.heap.size → Z.cell? ⟨b, o, none⟩ = VA.cell? ⟨b, o, none⟩)) (by kernel_rfl) (kw_s HBS.out.drew) (fun hHeld => ?_)
  have HB := Hk.mk HBS.out.drew
  have hb := (Below.refl VB.heap.size VB).drew
  replace HO := Hk.mk (HO.out.below hb)
  clear hb
  obtain ⟨W2, hWe⟩ : ∃ W2, VB.drew = W2 := ⟨_, rfl⟩
  rw [hWe] at HB hHeld HO ⊢
  clear hWe
  refine wpAnyH_take (i := 0) (v := ?_) rfl (by kernel_rfl) (by kernel_rfl) (by kernel_rfl) (fun _ _ _ h => h) (Or.inl ⟨by rfl, fun wX hSw => ?_⟩) (by assumption) ?_
  rotate_left
  · (try dsimp only at hSw); go_simp; try with_reducible rfl
  (try simp only [Act.put, List.getElem_toArray, List.getElem_cons_succ, List.getElem_cons_zero, List.setIfInBounds_toArray, List.set_cons_zero, List.set_cons_succ])
  refine wpAnyH_take (i := 1) (v := ?_) rfl (by kernel_rfl) (by kernel_rfl) (by kernel_rfl) (fun _ _ _ h => h) (Or.inl ⟨by rfl, fun wX hSw => ?_⟩) (by assumption) ?_
  rotate_left
  · (try dsimp only at hSw); go_simp; try with_reducible rfl
  (try simp only [Act.put, List.getElem_toArray, List.getElem_cons_succ, List.getElem_cons_zero, List.setIfInBounds_toArray, List.set_cons_zero, List.set_cons_succ])
  refine wpAnyH_take (i := 2) (v := ?_) rfl (by kernel_rfl) (by kernel_rfl) (by kernel_rfl) (fun _ _ _ h => h) (Or.inl ⟨by rfl, fun wX hSw => ?_⟩) (by assumption) ?_
  rotate_left
  · (try dsimp only at hSw); go_simp; try with_reducible rfl
  (try simp only [Act.put, List.getElem_toArray, List.getElem_cons_succ, List.getElem_cons_zero, List.setIfInBounds_toArray, List.set_cons_zero, List.set_cons_succ])
  refine wpAnyH_take (i := 5) (v := ?_) rfl (by kernel_rfl) (by kernel_rfl) (by kernel_rfl) (fun _ _ _ h => h) (Or.inl ⟨by rfl, fun wX hSw => ?_⟩) (by assumption) ?_
  rotate_left
  · (try dsimp only at hSw); go_simp; try with_reducible rfl
  (try simp only [Act.put, List.getElem_toArray, List.getElem_cons_succ, List.getElem_cons_zero, List.setIfInBounds_toArray, List.set_cons_zero, List.set_cons_succ])
  refine wpAnyH_take (i := 6) (v := ?_) rfl (by kernel_rfl) (by kernel_rfl) (by kernel_rfl) (fun _ _ _ h => h) (Or.inl ⟨by rfl, fun wX hSw => ?_⟩) (by assumption) ?_
  rotate_left
  · (try dsimp only at hSw); go_simp; try with_reducible rfl
  (try simp only [Act.put, List.getElem_toArray, List.getElem_cons_succ, List.getElem_cons_zero, List.setIfInBounds_toArray, List.set_cons_zero, List.set_cons_succ])
  refine wpAnyH_ready (rs := [3]) (by kernel_rfl) (by simp) ?_
  refine AllReadyH.cons rfl (fun K hK => ?_) (AllReadyH.nil)
  · skip
    go_simp
    (first
  | (go_at_call 72; ((with_reducible refine (units22_as a m c u NU _ (HNU.out _ HB.out) (by omega) HU hNU).mono ?_); rintro e z ⟨vn, rfl, hon, hb⟩; obtain ⟨a7, c7, rfl, -, -, -⟩ := hon.by_; have HN7 := Hk.mk (hon.weak (kw_le HB.out L0V)); clear hon))
  | (go_at_call 70; ((with_reducible refine (rnum_at n n.toNat _ Zn Yn).mono ?_); rintro e z ⟨vn, rfl, hon, hb⟩; obtain ⟨a8, c8, rfl, -, -, -⟩ := hon.by_; have HN8 := Hk.mk (hon.weak (kw_le HB.out L0V)); clear hon)))
    replace HO := Hk.mk (HO.out.below hb)
    replace HB := Hk.mk (kw_step HB.out L0V hb)
    clear hb
    refine hK.out _ _ ?_ (fun hHeld2 => ?_)
    · exact kw_s HB.out
    clear hK K hHeld
    have hHeld := hHeld2
    clear hHeld2
    (try simp only [Act.put, List.getElem_toArray, List.getElem_cons_succ, List.getElem_cons_zero, List.setIfInBounds_toArray, List.set_cons_zero, List.set_cons_succ])
    refine reg_cast (l' := #[true, true, true, true, false, true, true, false, false, false]) (by kernel_rfl) ?_
    revert hHeld
    revert HN7
    revert HO
    revert HB
    revert c7
    revert a7
    revert z
    exact HG1.out
  intro W2 a7 c7 HB HO HN7 hHeld
  refine wpAnyH_ready (rs := [4]) (by kernel_rfl) (by simp) ?_
  refine AllReadyH.cons rfl (fun K hK => ?_) (AllReadyH.nil)
  · skip
    (refine step_append_by _ (by rfl) (.tmp 81) (.tmp 84) (by rfl) VA.heap.size _ _ _ (by rfl) HO.out _ _ _ _ _ (by rfl) (own_byC HN7.out) HN7.out.an23 (by omega) (kw_le HB.out L0V) ?_; intro v9 z ho5 hg5; replace HB := Hk.mk (HB.out.grown hg5 (kw_le HB.out L0V) (fun g hg => (HO.out.lt g hg).1)); have HO9 := Hk.mk ho5; clear ho5 hg5)
    refine hK.out _ _ ?_ (fun hHeld2 => ?_)
    · exact kw_s HB.out
    clear hK K hHeld
    have hHeld := hHeld2
    clear hHeld2
    (try simp only [Act.put, List.getElem_toArray, List.getElem_cons_succ, List.getElem_cons_zero, List.setIfInBounds_toArray, List.set_cons_zero, List.set_cons_succ])
    clear HO
    clear HN7
    refine reg_cast (l' := #[true, true, true, true, true, true, true, false, false, false]) (by kernel_rfl) ?_
    revert hHeld
    revert HO9
    revert HB
    revert v9
    revert c7
    revert a7
    revert z
    exact HG2.out
  intro W2 a7 c7 v9 HB HO9 hHeld
  refine wpAnyH_ready (rs := [7]) (by kernel_rfl) (by simp) ?_
  refine AllReadyH.cons rfl (fun K hK => ?_) (AllReadyH.nil)
  · skip
    go_simp
    (first
  | (go_at_call 72; ((with_reducible refine (units22_as a m c u NU _ (HNU.out _ HB.out) (by omega) HU hNU).mono ?_); rintro e z ⟨vn, rfl, hon, hb⟩; obtain ⟨a7, c7, rfl, -, -, -⟩ := hon.by_; have HN7 := Hk.mk (hon.weak (kw_le HB.out L0V)); clear hon))
  | (go_at_call 70; ((with_reducible refine (rnum_at n n.toNat _ Zn Yn).mono ?_); rintro e z ⟨vn, rfl, hon, hb⟩; obtain ⟨a8, c8, rfl, -, -, -⟩ := hon.by_; have HN8 := Hk.mk (hon.weak (kw_le HB.out L0V)); clear hon)))
    replace HO9 := Hk.mk (HO9.out.below hb)
    replace HB := Hk.mk (kw_step HB.out L0V hb)
    clear hb
    refine hK.out _ _ ?_ (fun hHeld2 => ?_)
    · exact kw_s HB.out
    clear hK K hHeld
    have hHeld := hHeld2
    clear hHeld2
    (try simp only [Act.put, List.getElem_toArray, List.getElem_cons_succ, List.getElem_cons_zero, List.setIfInBounds_toArray, List.set_cons_zero, List.set_cons_succ])
    refine reg_cast (l' := #[true, true, true, true, true, true, true, true, false, false]) (by kernel_rfl) ?_
    revert hHeld
    revert HN8
    revert HO9
    revert HB
    revert c8
    revert a8
    revert v9
    revert c7
    revert a7
    revert z
    exact HG3.out
  intro W2 a7 c7 v9 a8 c8 HB HO9 HN8 hHeld
  refine wpAnyH_ready (rs := [8]) (by kernel_rfl) (by simp) ?_
  refine AllReadyH.cons rfl (fun K hK => ?_) (AllReadyH.nil)
  · skip
    (refine step_append_by _ (by rfl) (.tmp 85) (.tmp 88) (by rfl) VA.heap.size _ _ _ (by rfl) HO9.out _ _ _ _ _ (by rfl) (own_byC HN8.out) HN8.out.an23 (by omega) (kw_le HB.out L0V) ?_; intro v10 z ho5 hg5; replace HB := Hk.mk (HB.out.grown hg5 (kw_le HB.out L0V) (fun g hg => (HO9.out.lt g hg).1)); have HOF := Hk.mk ho5; clear ho5 hg5)
    refine hK.out _ _ ?_ (fun hHeld2 => ?_)
    · exact kw_s HB.out
    clear hK K hHeld
    have hHeld := hHeld2
    clear hHeld2
    (try simp only [Act.put, List.getElem_toArray, List.getElem_cons_succ, List.getElem_cons_zero, List.setIfInBounds_toArray, List.set_cons_zero, List.set_cons_succ])
    clear HO9
    clear HN8
    refine wpAnyH_take (i := 9) (v := ?_) rfl (by kernel_rfl) (by kernel_rfl) (by kernel_rfl) (fun _ _ _ h => h) (Or.inl ⟨by rfl, fun wX hSw => ?_⟩) (by assumption) ?_
    rotate_left
    · (try dsimp only at hSw); go_simp; try with_reducible rfl
    (try simp only [Act.put, List.getElem_toArray, List.getElem_cons_succ, List.getElem_cons_zero, List.setIfInBounds_toArray, List.set_cons_zero, List.set_cons_succ])
    refine reg_cast (l' := #[true, true, true, true, true, true, true, true, true, true]) (by kernel_rfl) ?_
    revert hHeld
    revert HOF
    revert HB
    revert v10
    revert c8
    revert a8
    revert v9
    revert c7
    revert a7
    revert z
    exact HG4.out
  intro W2 a7 c7 v9 a8 c8 v10 HB HOF hHeld
  refine wpAnyH_done (by kernel_rfl) ?_ _
  have HO := HOF
  clear hHeld
  obtain ⟨hc, hf, hl', hn', hm'⟩ := kw_rules HB.out L0V
  go_wp2_with fail
  go_ret
  exact ⟨_, rfl, (own_conv HO.out (by first | (simp [bytesC, partsL, wrB]; done) | (simp [bytesC, partsL, wrB, HMU.out]; done))).weak hsw.out, HW.out.trans (HB.out.mono hsw.out)⟩
theorem rbytes21_as (p s k n : Int) (a : Option Addr) (m c : Nat) (u : List Int) (t wd h x y : Int) (bs : List Int) (L : Nat) (w : World) (hN : Nq w w.heap.size a m u) (hm : m ≤ 1000) (E : Hk (okC p s k ⟨n, u, t, wd, h, x, y⟩ = true)) (hb : Hk (bytesC p s k ⟨n, u, t, wd, h, x, y⟩ = bs)) (hl : Hk (bs.length = L)) :
    Calls Try.prog 22 #[.agg #[.int .i64 p, .int .i64 s, .int .i64 k, .int .i64 n, .slice a m c, .int .i64 t, .int .i64 wd, .int .i64 h, .int .i64 x, .int .i64 y]] w fun e w' => ∃ v, e = .returned v ∧ OwnB w' w.heap.size v L bs ∧ Below w.heap.size w w' := by
  have hok := E.out
  rw [← hl.out, ← hb.out]
  have hk : 1 ≤ k ∧ k ≤ 7 := by
    by_cases h7 : k < 1 ∨ 7 < k
    · have := partsL_none h7
      unfold okC at hok
      rw [this] at hok
      simp at hok
    · omega
  have : k = 1 ∨ k = 2 ∨ k = 3 ∨ k = 4 ∨ k = 5 ∨ k = 6 ∨ k = 7 := by omega
  clear hb hl E
  rcases this with rfl | rfl | rfl | rfl | rfl | rfl | rfl
  · exact rbytes21_1 p s n a m c u t wd h x y w hN hm hok
  · exact rbytes21_2 p s n a m c u t wd h x y w hN hm hok
  · exact rbytes21_3 p s n a m c u t wd h x y w hN hm hok
  · exact rbytes21_4 p s n a m c u t wd h x y w hN hm hok
  · exact rbytes21_5 p s n a m c u t wd h x y w hN hm hok
  · exact rbytes21_6 p s n a m c u t wd h x y w hN hm hok
  · exact rbytes21_7 p s n a m c u t wd h x y w hN hm hok
end Go.Proofs.Ytejilcnldllhpaa
