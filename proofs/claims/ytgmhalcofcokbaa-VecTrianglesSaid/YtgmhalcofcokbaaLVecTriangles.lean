/- For every list, VecTriangles answers true and leaves its argument as it was: a way over a third place is not shorter, but for the rounding; who is within a way of another one has it within the same. No condition. -/
import Derived.Test.YtgmhalcofcokbaaVecp
import Derived.Test.YtgmhalcofcokbaaVecn
import Derived.Test.YtgmhalcofcokbaaKw
import Derived.Test.YtgmhalcofcokbaaBya
import Derived.Test.YtgmhalcofcokbaaReg
import Derived.Deep.QuietTactic
import Derived.BigQuiet
import Derived.Deep.RegionWith
import Derived.Deep.RegionHeld3
import Derived.Deep.DeepCutAuto
import Derived.Deep.DeepFit
import Derived.Outline
namespace Go.Proofs.Ytgmhalcofcokbaa
open Go.ChangeShapes Go.WideShapes Go.ChangeAt Go.RowKit Go.Deep
set_option linter.unusedVariables false
set_option linter.unusedSimpArgs false
theorem small2_as (x y X Y : Int) (w : World) (hx : Fx.I64 x) (hy : Fx.I64 y) (EX : Fx.Hd (x / 16 = X)) (EY : Fx.Hd (y / 16 = Y)) :
    Calls Try.prog 10 #[.agg #[.int .i64 x, .int .i64 y]] w fun e w' => e = .returned (.agg #[.int .i64 X, .int .i64 Y]) ∧ Below w.heap.size w w' := by
  obtain ⟨rfl⟩ := EX
  obtain ⟨rfl⟩ := EY
  obtain ⟨x0, x1⟩ := hx
  obtain ⟨y0, y1⟩ := hy
  go_enter Try.func10, Try.ntmps10
  go_wp2
  refine bodyPost_ret (v := .agg #[.int .i64 (x / 16), .int .i64 (y / 16)]) (by simp [results, Try.results10, go_sem]) rfl ⟨rfl, ?_⟩
  exact ((Below.refl _ _).alloc (Nat.le_refl _) _).alloc (by simp) _
theorem vsub2_as (a b c d X Y : Int) (w : World) (ha : Fx.I64 a) (hb : Fx.I64 b) (hc : Fx.I64 c) (hd : Fx.I64 d) (EX : Fx.Hd (Fx.subS a c = X)) (EY : Fx.Hd (Fx.subS b d = Y)) :
    Calls Try.prog 11 #[.agg #[.int .i64 a, .int .i64 b], .agg #[.int .i64 c, .int .i64 d]] w fun e w' => e = .returned (.agg #[.int .i64 X, .int .i64 Y]) ∧ Below w.heap.size w w' := by
  obtain ⟨rfl⟩ := EX; obtain ⟨rfl⟩ := EY; exact vsub_any a b c d w ha hb hc hd
/-- Three places of two numbers each. -/
structure T3 (w : World) (P Q R : Nat) (X Y U V S T : Int) : Prop where
  p0 : w.cell? ⟨P, 0, none⟩ = some (.int .i64 X)
  p1 : w.cell? ⟨P, 1, none⟩ = some (.int .i64 Y)
  q0 : w.cell? ⟨Q, 0, none⟩ = some (.int .i64 U)
  q1 : w.cell? ⟨Q, 1, none⟩ = some (.int .i64 V)
  r0 : w.cell? ⟨R, 0, none⟩ = some (.int .i64 S)
  r1 : w.cell? ⟨R, 1, none⟩ = some (.int .i64 T)
set_option maxRecDepth 100000 in
set_option maxHeartbeats 25600000 in
theorem vecTriangles_walk (a : Option Addr) (len cap : Nat) (w : World) (rows : Asks2 w a len cap) :
    Calls Try.prog 4 #[.slice a len cap] w fun e w' => e = .returned (.bool true) ∧ Below w.heap.size w w' := by
  obtain ⟨hl, hm, hall⟩ := rows
  have HALL := Fx.Hd.mk hall
  clear hall
  go_enter Try.func4, Try.ntmps4
  go_wp2
  go_loopw [3] (fun i  wr => ∃ (k : Nat), i = .int .i64 k ∧ k ≤ len ∧ k ≤ 30 ∧ Hk (Below w.heap.size w wr)) (fun i  _ => 30 - (intOf i).toNat)
  case atStart => exact ⟨0, rfl, by omega, by omega, ⟨Below.refl _ _⟩⟩
  case round =>
    obtain ⟨k, rfl, hk, hk2, HW⟩ := hrel
    by_cases hlt : k + 1 < len ∧ k < 30
    · obtain ⟨g1, g2⟩ := hlt
      obtain ⟨b, off, x, y, u, v, r, hab, hbl, hx, hy, hu, hv, ir, c0, c1, c2, c3, c4⟩ := HALL.out k (by omega)
      obtain ⟨b', off', s, t, _, _, _, hab', _, hs, ht, _, _, _, c5, c6, _, _, _⟩ := HALL.out (k + 1) g1
      subst hab
      obtain ⟨rfl, rfl⟩ : b' = b ∧ off' = off := by simpa [eq_comm] using hab'
      have hcw : ∀ o, wr.cell? ⟨b', o, none⟩ = w.cell? ⟨b', o, none⟩ := fun o => HW.out.cell (p := ⟨b', o, none⟩) hbl
      have d0 := (hcw _).trans c0
      have d1' := (hcw _).trans c1
      have d2' := (hcw _).trans c2
      have d3' := (hcw _).trans c3
      have d4 := (hcw _).trans c4
      have d5 := (hcw _).trans c5
      have d6 := (hcw _).trans c6
      have hbw : b' < wr.heap.size := Nat.lt_of_lt_of_le hbl HW.out.size
      clear hcw hab' c0 c1 c2 c3 c4 c5 c6
      obtain ⟨X, hX⟩ : ∃ X, x / 16 = X := ⟨_, rfl⟩
      obtain ⟨Y, hY⟩ : ∃ Y, y / 16 = Y := ⟨_, rfl⟩
      obtain ⟨U, hU⟩ : ∃ U, u / 16 = U := ⟨_, rfl⟩
      obtain ⟨V, hV⟩ : ∃ V, v / 16 = V := ⟨_, rfl⟩
      obtain ⟨S, hS⟩ : ∃ S, s / 16 = S := ⟨_, rfl⟩
      obtain ⟨T, hT⟩ : ∃ T, t / 16 = T := ⟨_, rfl⟩
      have nX : Fx.Near X := by unfold Fx.Near; unfold Fx.I64 at hx; omega
      have nY : Fx.Near Y := by unfold Fx.Near; unfold Fx.I64 at hy; omega
      have nU : Fx.Near U := by unfold Fx.Near; unfold Fx.I64 at hu; omega
      have nV : Fx.Near V := by unfold Fx.Near; unfold Fx.I64 at hv; omega
      have nS : Fx.Near S := by unfold Fx.Near; unfold Fx.I64 at hs; omega
      have nT : Fx.Near T := by unfold Fx.Near; unfold Fx.I64 at ht; omega
      have EX := Fx.Hd.mk hX
      have EY := Fx.Hd.mk hY
      have EU := Fx.Hd.mk hU
      have EV := Fx.Hd.mk hV
      have ES := Fx.Hd.mk hS
      have ET := Fx.Hd.mk hT
      clear hX hY hU hV hS hT
      have j1 : (0 : Int) ≤ (k : Int) := by omega
      have j2 : (k : Int) < (len : Int) := by omega
      have j3 : (0 : Int) ≤ (k : Int) + 1 := by omega
      have j4 : (k : Int) + 1 < (len : Int) := by omega
      have w1 : IntKind.i64.wrap ((k : Int) + 1) = (k : Int) + 1 := IntWalk.i64_in _ (by omega)
      have w2 : ((k : Int) + 1).toNat = k + 1 := by omega
      go_upto_region 4 with (fail)
      have L0V : wr.heap.size ≤ wr.heap.size := Nat.le_refl _
      apply reg_merge
      intro HG34
      apply reg_merge
      intro HG33
      apply reg_merge
      intro HG32
      apply reg_merge
      intro HG31
      apply reg_merge
      intro HG30
      apply reg_merge
      intro HG29
      apply reg_merge
      intro HG28
      apply reg_merge
      intro HG27
      apply reg_merge
      intro HG26
      apply reg_merge
      intro HG25
      apply reg_merge
      intro HG24
      apply reg_merge
      intro HG23
      apply reg_merge
      intro HG22
      apply reg_merge
      intro HG21
      apply reg_merge
      intro HG20
      apply reg_merge
      intro HG19
      apply reg_merge
      intro HG18
      apply reg_merge
      intro HG17
      apply reg_merge
      intro HG16
      apply reg_merge
      intro HG15
      apply reg_merge
      intro HG14
      apply reg_merge
      intro HG13
      apply reg_merge
      intro HG12
      apply reg_merge
      intro HG11
      apply reg_merge
      intro HG10
      apply reg_merge
      intro HG9
      apply reg_merge
      intro HG8
      apply reg_merge
      intro HG7
      apply reg_merge
      intro HG6
      apply reg_merge
      intro HG5
      apply reg_merge
      intro HG4
      apply reg_merge
      intro HG3
      apply reg_merge
      intro HG2
      apply reg_merge
      intro HG1
      refine wp_region_held_drew (S := fun Z => (∀ b o, b < wr.heap.size → Z.cell? ⟨b, o, none⟩ = wr.cell? ⟨b, o, none⟩)) (by kernel_rfl) (fun _ _ _ => rfl) (fun hHeld => ?_)
      have HB : Hk (Below wr.heap.size wr wr.drew) := ⟨(Below.refl _ _).drew⟩
      obtain ⟨W, hWe⟩ : ∃ W, wr.drew = W := ⟨_, rfl⟩
      rw [hWe] at HB hHeld ⊢
      clear hWe
      refine wpAnyH_take (i := 0) (v := ?_) rfl (by kernel_rfl) (by kernel_rfl) (by kernel_rfl) (fun _ _ _ h => h) (Or.inl ⟨by rfl, fun wX hSw => ?_⟩) (by assumption) ?_
      rotate_left
      · (try dsimp only at hSw); go_simp; try with_reducible rfl
      (try simp only [Act.put, List.getElem_toArray, List.getElem_cons_succ, List.getElem_cons_zero, List.setIfInBounds_toArray, List.set_cons_zero, List.set_cons_succ])
      refine wpAnyH_take (i := 1) (v := ?_) rfl (by kernel_rfl) (by kernel_rfl) (by kernel_rfl) (fun _ _ _ h => h) (Or.inl ⟨by rfl, fun wX hSw => ?_⟩) (by assumption) ?_
      rotate_left
      · (try dsimp only at hSw); go_simp; try with_reducible rfl
      (try simp only [Act.put, List.getElem_toArray, List.getElem_cons_succ, List.getElem_cons_zero, List.setIfInBounds_toArray, List.set_cons_zero, List.set_cons_succ])
      refine wpAnyH_take (i := 2) (v := ?_) rfl (by kernel_rfl) (by kernel_rfl) (by kernel_rfl) (fun _ _ _ h => h) (Or.inl ⟨by rfl, fun wX hSw => ?_⟩) (by assumption) ?_
      rotate_left
      · (try dsimp only at hSw); go_simp; try with_reducible rfl
      (try simp only [Act.put, List.getElem_toArray, List.getElem_cons_succ, List.getElem_cons_zero, List.setIfInBounds_toArray, List.set_cons_zero, List.set_cons_succ])
      refine wpAnyH_take (i := 3) (v := ?_) rfl (by kernel_rfl) (by kernel_rfl) (by kernel_rfl) (fun _ _ _ h => h) (Or.inl ⟨by rfl, fun wX hSw => ?_⟩) (by assumption) ?_
      rotate_left
      · (try dsimp only at hSw); go_simp; try with_reducible rfl
      (try simp only [Act.put, List.getElem_toArray, List.getElem_cons_succ, List.getElem_cons_zero, List.setIfInBounds_toArray, List.set_cons_zero, List.set_cons_succ])
      refine wpAnyH_take (i := 4) (v := ?_) rfl (by kernel_rfl) (by kernel_rfl) (by kernel_rfl) (fun _ _ _ h => h) (Or.inl ⟨by rfl, fun wX hSw => ?_⟩) (by assumption) ?_
      rotate_left
      · (try dsimp only at hSw); go_simp; try with_reducible rfl
      (try simp only [Act.put, List.getElem_toArray, List.getElem_cons_succ, List.getElem_cons_zero, List.setIfInBounds_toArray, List.set_cons_zero, List.set_cons_succ])
      refine wpAnyH_take (i := 6) (v := ?_) rfl (by kernel_rfl) (by kernel_rfl) (by kernel_rfl) (fun _ _ _ h => h) (Or.inl ⟨by rfl, fun wX hSw => ?_⟩) (by assumption) ?_
      rotate_left
      · (try dsimp only at hSw); go_simp; try with_reducible rfl
      (try simp only [Act.put, List.getElem_toArray, List.getElem_cons_succ, List.getElem_cons_zero, List.setIfInBounds_toArray, List.set_cons_zero, List.set_cons_succ])
      refine wpAnyH_take (i := 7) (v := ?_) rfl (by kernel_rfl) (by kernel_rfl) (by kernel_rfl) (fun _ _ _ h => h) (Or.inl ⟨by rfl, fun wX hSw => ?_⟩) (by assumption) ?_
      rotate_left
      · (try dsimp only at hSw); go_simp; try with_reducible rfl
      (try simp only [Act.put, List.getElem_toArray, List.getElem_cons_succ, List.getElem_cons_zero, List.setIfInBounds_toArray, List.set_cons_zero, List.set_cons_succ])
      refine wpAnyH_take (i := 8) (v := ?_) rfl (by kernel_rfl) (by kernel_rfl) (by kernel_rfl) (fun _ _ _ h => h) (Or.inl ⟨by rfl, fun wX hSw => ?_⟩) (by assumption) ?_
      rotate_left
      · (try dsimp only at hSw); go_simp; try with_reducible rfl
      (try simp only [Act.put, List.getElem_toArray, List.getElem_cons_succ, List.getElem_cons_zero, List.setIfInBounds_toArray, List.set_cons_zero, List.set_cons_succ])
      refine wpAnyH_take (i := 9) (v := ?_) rfl (by kernel_rfl) (by kernel_rfl) (by kernel_rfl) (fun _ _ _ h => h) (Or.inl ⟨by rfl, fun wX hSw => ?_⟩) (by assumption) ?_
      rotate_left
      · (try dsimp only at hSw); go_simp; try with_reducible rfl
      (try simp only [Act.put, List.getElem_toArray, List.getElem_cons_succ, List.getElem_cons_zero, List.setIfInBounds_toArray, List.set_cons_zero, List.set_cons_succ])
      refine wpAnyH_take (i := 10) (v := ?_) rfl (by kernel_rfl) (by kernel_rfl) (by kernel_rfl) (fun _ _ _ h => h) (Or.inl ⟨by rfl, fun wX hSw => ?_⟩) (by assumption) ?_
      rotate_left
      · (try dsimp only at hSw); go_simp; try with_reducible rfl
      (try simp only [Act.put, List.getElem_toArray, List.getElem_cons_succ, List.getElem_cons_zero, List.setIfInBounds_toArray, List.set_cons_zero, List.set_cons_succ])
      refine wpAnyH_take (i := 12) (v := ?_) rfl (by kernel_rfl) (by kernel_rfl) (by kernel_rfl) (fun _ _ _ h => h) (Or.inl ⟨by rfl, fun wX hSw => ?_⟩) (by assumption) ?_
      rotate_left
      · (try dsimp only at hSw); go_simp; try with_reducible rfl
      (try simp only [Act.put, List.getElem_toArray, List.getElem_cons_succ, List.getElem_cons_zero, List.setIfInBounds_toArray, List.set_cons_zero, List.set_cons_succ])
      refine wpAnyH_take (i := 13) (v := ?_) rfl (by kernel_rfl) (by kernel_rfl) (by kernel_rfl) (fun _ _ _ h => h) (Or.inl ⟨by rfl, fun wX hSw => ?_⟩) (by assumption) ?_
      rotate_left
      · (try dsimp only at hSw); go_simp; try with_reducible rfl
      (try simp only [Act.put, List.getElem_toArray, List.getElem_cons_succ, List.getElem_cons_zero, List.setIfInBounds_toArray, List.set_cons_zero, List.set_cons_succ])
      refine wpAnyH_take (i := 14) (v := ?_) rfl (by kernel_rfl) (by kernel_rfl) (by kernel_rfl) (fun _ _ _ h => h) (Or.inl ⟨by rfl, fun wX hSw => ?_⟩) (by assumption) ?_
      rotate_left
      · (try dsimp only at hSw); go_simp; try with_reducible rfl
      (try simp only [Act.put, List.getElem_toArray, List.getElem_cons_succ, List.getElem_cons_zero, List.setIfInBounds_toArray, List.set_cons_zero, List.set_cons_succ])
      refine wpAnyH_take (i := 15) (v := ?_) rfl (by kernel_rfl) (by kernel_rfl) (by kernel_rfl) (fun _ _ _ h => h) (Or.inl ⟨by rfl, fun wX hSw => ?_⟩) (by assumption) ?_
      rotate_left
      · (try dsimp only at hSw); go_simp; try with_reducible rfl
      (try simp only [Act.put, List.getElem_toArray, List.getElem_cons_succ, List.getElem_cons_zero, List.setIfInBounds_toArray, List.set_cons_zero, List.set_cons_succ])
      refine wpAnyH_take (i := 16) (v := ?_) rfl (by kernel_rfl) (by kernel_rfl) (by kernel_rfl) (fun _ _ _ h => h) (Or.inl ⟨by rfl, fun wX hSw => ?_⟩) (by assumption) ?_
      rotate_left
      · (try dsimp only at hSw); go_simp; try with_reducible rfl
      (try simp only [Act.put, List.getElem_toArray, List.getElem_cons_succ, List.getElem_cons_zero, List.setIfInBounds_toArray, List.set_cons_zero, List.set_cons_succ])
      refine wpAnyH_take (i := 17) (v := ?_) rfl (by kernel_rfl) (by kernel_rfl) (by kernel_rfl) (fun _ _ _ h => h) (Or.inl ⟨by rfl, fun wX hSw => ?_⟩) (by assumption) ?_
      rotate_left
      · (try dsimp only at hSw); go_simp; try with_reducible rfl
      (try simp only [Act.put, List.getElem_toArray, List.getElem_cons_succ, List.getElem_cons_zero, List.setIfInBounds_toArray, List.set_cons_zero, List.set_cons_succ])
      refine wpAnyH_ready (rs := [5, 19, 20, 21]) (by kernel_rfl) (by simp) ?_
      refine AllReadyH.cons rfl (fun K hK => ?_) (AllReadyH.cons rfl (fun K hK => ?_) (AllReadyH.cons rfl (fun K hK => ?_) (AllReadyH.cons rfl (fun K hK => ?_) (AllReadyH.nil))))
      · skip
        go_simp
        ((go_at_call 10; (first | (with_reducible refine (small2_as x y X Y _ hx hy EX EY).mono ?_) | (with_reducible refine (small2_as u v U V _ hu hv EU EV).mono ?_) | (with_reducible refine (small2_as s t S T _ hs ht ES ET).mono ?_)); rintro e z ⟨rfl, hb⟩))
        replace HB := Hk.mk (kw_step HB.out L0V hb)
        clear hb
        refine hK.out _ _ ?_ (fun hHeld2 => ?_)
        · exact kw_s HB.out
        clear hK K hHeld
        have hHeld := hHeld2
        clear hHeld2
        (try simp only [Act.put, List.getElem_toArray, List.getElem_cons_succ, List.getElem_cons_zero, List.setIfInBounds_toArray, List.set_cons_zero, List.set_cons_succ])
        refine reg_cast (l' := #[true, true, true, true, true, true, true, true, true, true, true, false, true, true, true, true, true, true, false, false, false, false, false, false, false]) (by kernel_rfl) ?_
        revert hHeld
        revert HB
        revert z
        exact HG1.out
      · skip
        go_simp
        have L_P := kw_le HB.out L0V
        have HP_P : Hk (Bk _ _ #[.int .i64 0, .int .i64 0]) := ⟨Bk.new W #[.int .i64 0, .int .i64 0] 24⟩
        replace HB := Hk.mk (kw_al HB.out L0V (.cells #[.int .i64 0, .int .i64 0] 24))
        refine hK.out _ _ ?_ (fun hHeld2 => ?_)
        · exact kw_s HB.out
        clear hK K hHeld
        have hHeld := hHeld2
        clear hHeld2
        (try simp only [Act.put, List.getElem_toArray, List.getElem_cons_succ, List.getElem_cons_zero, List.setIfInBounds_toArray, List.set_cons_zero, List.set_cons_succ])
        generalize W.heap.size = P at *
        generalize W.alloc (.cells #[.int .i64 0, .int .i64 0] 24) = W2 at *
        refine reg_cast (l' := #[true, true, true, true, true, false, true, true, true, true, true, false, true, true, true, true, true, true, false, true, false, false, false, false, false]) (by kernel_rfl) ?_
        revert hHeld
        revert L_P
        revert HP_P
        revert HB
        revert P
        revert W2
        exact HG2.out
      · skip
        go_simp
        have L_Q := kw_le HB.out L0V
        have HP_Q : Hk (Bk _ _ #[.int .i64 0, .int .i64 0]) := ⟨Bk.new W #[.int .i64 0, .int .i64 0] 24⟩
        replace HB := Hk.mk (kw_al HB.out L0V (.cells #[.int .i64 0, .int .i64 0] 24))
        refine hK.out _ _ ?_ (fun hHeld2 => ?_)
        · exact kw_s HB.out
        clear hK K hHeld
        have hHeld := hHeld2
        clear hHeld2
        (try simp only [Act.put, List.getElem_toArray, List.getElem_cons_succ, List.getElem_cons_zero, List.setIfInBounds_toArray, List.set_cons_zero, List.set_cons_succ])
        generalize W.heap.size = Q at *
        generalize W.alloc (.cells #[.int .i64 0, .int .i64 0] 24) = W2 at *
        refine reg_cast (l' := #[true, true, true, true, true, false, true, true, true, true, true, false, true, true, true, true, true, true, false, false, true, false, false, false, false]) (by kernel_rfl) ?_
        revert hHeld
        revert L_Q
        revert HP_Q
        revert HB
        revert Q
        revert W2
        exact HG3.out
      · skip
        go_simp
        have L_R := kw_le HB.out L0V
        have HP_R : Hk (Bk _ _ #[.int .i64 0, .int .i64 0]) := ⟨Bk.new W #[.int .i64 0, .int .i64 0] 24⟩
        replace HB := Hk.mk (kw_al HB.out L0V (.cells #[.int .i64 0, .int .i64 0] 24))
        refine hK.out _ _ ?_ (fun hHeld2 => ?_)
        · exact kw_s HB.out
        clear hK K hHeld
        have hHeld := hHeld2
        clear hHeld2
        (try simp only [Act.put, List.getElem_toArray, List.getElem_cons_succ, List.getElem_cons_zero, List.setIfInBounds_toArray, List.set_cons_zero, List.set_cons_succ])
        generalize W.heap.size = R at *
        generalize W.alloc (.cells #[.int .i64 0, .int .i64 0] 24) = W2 at *
        refine reg_cast (l' := #[true, true, true, true, true, false, true, true, true, true, true, false, true, true, true, true, true, true, false, false, false, true, false, false, false]) (by kernel_rfl) ?_
        revert hHeld
        revert L_R
        revert HP_R
        revert HB
        revert R
        revert W2
        exact HG4.out
      intro W HB hHeld
      refine wpAnyH_ready (rs := [11, 19, 20, 21]) (by kernel_rfl) (by simp) ?_
      refine AllReadyH.cons rfl (fun K hK => ?_) (AllReadyH.cons rfl (fun K hK => ?_) (AllReadyH.cons rfl (fun K hK => ?_) (AllReadyH.cons rfl (fun K hK => ?_) (AllReadyH.nil))))
      · skip
        go_simp
        ((go_at_call 10; (first | (with_reducible refine (small2_as x y X Y _ hx hy EX EY).mono ?_) | (with_reducible refine (small2_as u v U V _ hu hv EU EV).mono ?_) | (with_reducible refine (small2_as s t S T _ hs ht ES ET).mono ?_)); rintro e z ⟨rfl, hb⟩))
        replace HB := Hk.mk (kw_step HB.out L0V hb)
        clear hb
        refine hK.out _ _ ?_ (fun hHeld2 => ?_)
        · exact kw_s HB.out
        clear hK K hHeld
        have hHeld := hHeld2
        clear hHeld2
        (try simp only [Act.put, List.getElem_toArray, List.getElem_cons_succ, List.getElem_cons_zero, List.setIfInBounds_toArray, List.set_cons_zero, List.set_cons_succ])
        refine reg_cast (l' := #[true, true, true, true, true, true, true, true, true, true, true, true, true, true, true, true, true, true, false, false, false, false, false, false, false]) (by kernel_rfl) ?_
        revert hHeld
        revert HB
        revert z
        exact HG5.out
      · skip
        go_simp
        have L_P := kw_le HB.out L0V
        have HP_P : Hk (Bk _ _ #[.int .i64 0, .int .i64 0]) := ⟨Bk.new W #[.int .i64 0, .int .i64 0] 24⟩
        replace HB := Hk.mk (kw_al HB.out L0V (.cells #[.int .i64 0, .int .i64 0] 24))
        refine hK.out _ _ ?_ (fun hHeld2 => ?_)
        · exact kw_s HB.out
        clear hK K hHeld
        have hHeld := hHeld2
        clear hHeld2
        (try simp only [Act.put, List.getElem_toArray, List.getElem_cons_succ, List.getElem_cons_zero, List.setIfInBounds_toArray, List.set_cons_zero, List.set_cons_succ])
        generalize W.heap.size = P at *
        generalize W.alloc (.cells #[.int .i64 0, .int .i64 0] 24) = W2 at *
        refine reg_cast (l' := #[true, true, true, true, true, true, true, true, true, true, true, false, true, true, true, true, true, true, false, true, false, false, false, false, false]) (by kernel_rfl) ?_
        revert hHeld
        revert L_P
        revert HP_P
        revert HB
        revert P
        revert W2
        exact HG6.out
      · skip
        go_simp
        have L_Q := kw_le HB.out L0V
        have HP_Q : Hk (Bk _ _ #[.int .i64 0, .int .i64 0]) := ⟨Bk.new W #[.int .i64 0, .int .i64 0] 24⟩
        replace HB := Hk.mk (kw_al HB.out L0V (.cells #[.int .i64 0, .int .i64 0] 24))
        refine hK.out _ _ ?_ (fun hHeld2 => ?_)
        · exact kw_s HB.out
        clear hK K hHeld
        have hHeld := hHeld2
        clear hHeld2
        (try simp only [Act.put, List.getElem_toArray, List.getElem_cons_succ, List.getElem_cons_zero, List.setIfInBounds_toArray, List.set_cons_zero, List.set_cons_succ])
        generalize W.heap.size = Q at *
        generalize W.alloc (.cells #[.int .i64 0, .int .i64 0] 24) = W2 at *
        refine reg_cast (l' := #[true, true, true, true, true, true, true, true, true, true, true, false, true, true, true, true, true, true, false, false, true, false, false, false, false]) (by kernel_rfl) ?_
        revert hHeld
        revert L_Q
        revert HP_Q
        revert HB
        revert Q
        revert W2
        exact HG7.out
      · skip
        go_simp
        have L_R := kw_le HB.out L0V
        have HP_R : Hk (Bk _ _ #[.int .i64 0, .int .i64 0]) := ⟨Bk.new W #[.int .i64 0, .int .i64 0] 24⟩
        replace HB := Hk.mk (kw_al HB.out L0V (.cells #[.int .i64 0, .int .i64 0] 24))
        refine hK.out _ _ ?_ (fun hHeld2 => ?_)
        · exact kw_s HB.out
        clear hK K hHeld
        have hHeld := hHeld2
        clear hHeld2
        (try simp only [Act.put, List.getElem_toArray, List.getElem_cons_succ, List.getElem_cons_zero, List.setIfInBounds_toArray, List.set_cons_zero, List.set_cons_succ])
        generalize W.heap.size = R at *
        generalize W.alloc (.cells #[.int .i64 0, .int .i64 0] 24) = W2 at *
        refine reg_cast (l' := #[true, true, true, true, true, true, true, true, true, true, true, false, true, true, true, true, true, true, false, false, false, true, false, false, false]) (by kernel_rfl) ?_
        revert hHeld
        revert L_R
        revert HP_R
        revert HB
        revert R
        revert W2
        exact HG8.out
      intro W P HB HP_P L_P hHeld
      refine wpAnyH_ready (rs := [5, 20, 21]) (by kernel_rfl) (by simp) ?_
      refine AllReadyH.cons rfl (fun K hK => ?_) (AllReadyH.cons rfl (fun K hK => ?_) (AllReadyH.cons rfl (fun K hK => ?_) (AllReadyH.nil)))
      · skip
        go_simp
        ((go_at_call 10; (first | (with_reducible refine (small2_as x y X Y _ hx hy EX EY).mono ?_) | (with_reducible refine (small2_as u v U V _ hu hv EU EV).mono ?_) | (with_reducible refine (small2_as s t S T _ hs ht ES ET).mono ?_)); rintro e z ⟨rfl, hb⟩))
        replace HP_P := Hk.mk (HP_P.out.below hb)
        replace HB := Hk.mk (kw_step HB.out L0V hb)
        clear hb
        refine hK.out _ _ ?_ (fun hHeld2 => ?_)
        · exact kw_s HB.out
        clear hK K hHeld
        have hHeld := hHeld2
        clear hHeld2
        (try simp only [Act.put, List.getElem_toArray, List.getElem_cons_succ, List.getElem_cons_zero, List.setIfInBounds_toArray, List.set_cons_zero, List.set_cons_succ])
        refine reg_cast (l' := #[true, true, true, true, true, true, true, true, true, true, true, false, true, true, true, true, true, true, false, true, false, false, false, false, false]) (by kernel_rfl) ?_
        revert hHeld
        revert L_P
        revert HP_P
        revert HB
        revert P
        revert z
        exact HG6.out
      · skip
        go_simp
        have N_P_Q := HP_P.out.ne
        have N_Q_P := HP_P.out.ne'
        have L_Q := kw_le HB.out L0V
        replace HP_P := Hk.mk (HP_P.out.al (.cells #[.int .i64 0, .int .i64 0] 24))
        have HP_Q : Hk (Bk _ _ #[.int .i64 0, .int .i64 0]) := ⟨Bk.new W #[.int .i64 0, .int .i64 0] 24⟩
        replace HB := Hk.mk (kw_al HB.out L0V (.cells #[.int .i64 0, .int .i64 0] 24))
        refine hK.out _ _ ?_ (fun hHeld2 => ?_)
        · exact kw_s HB.out
        clear hK K hHeld
        have hHeld := hHeld2
        clear hHeld2
        (try simp only [Act.put, List.getElem_toArray, List.getElem_cons_succ, List.getElem_cons_zero, List.setIfInBounds_toArray, List.set_cons_zero, List.set_cons_succ])
        generalize W.heap.size = Q at *
        generalize W.alloc (.cells #[.int .i64 0, .int .i64 0] 24) = W2 at *
        refine reg_cast (l' := #[true, true, true, true, true, false, true, true, true, true, true, false, true, true, true, true, true, true, false, true, true, false, false, false, false]) (by kernel_rfl) ?_
        revert hHeld
        revert N_Q_P
        revert N_P_Q
        revert L_Q
        revert L_P
        revert HP_Q
        revert HP_P
        revert HB
        revert Q
        revert P
        revert W2
        exact HG9.out
      · skip
        go_simp
        have N_P_R := HP_P.out.ne
        have N_R_P := HP_P.out.ne'
        have L_R := kw_le HB.out L0V
        replace HP_P := Hk.mk (HP_P.out.al (.cells #[.int .i64 0, .int .i64 0] 24))
        have HP_R : Hk (Bk _ _ #[.int .i64 0, .int .i64 0]) := ⟨Bk.new W #[.int .i64 0, .int .i64 0] 24⟩
        replace HB := Hk.mk (kw_al HB.out L0V (.cells #[.int .i64 0, .int .i64 0] 24))
        refine hK.out _ _ ?_ (fun hHeld2 => ?_)
        · exact kw_s HB.out
        clear hK K hHeld
        have hHeld := hHeld2
        clear hHeld2
        (try simp only [Act.put, List.getElem_toArray, List.getElem_cons_succ, List.getElem_cons_zero, List.setIfInBounds_toArray, List.set_cons_zero, List.set_cons_succ])
        generalize W.heap.size = R at *
        generalize W.alloc (.cells #[.int .i64 0, .int .i64 0] 24) = W2 at *
        refine reg_cast (l' := #[true, true, true, true, true, false, true, true, true, true, true, false, true, true, true, true, true, true, false, true, false, true, false, false, false]) (by kernel_rfl) ?_
        revert hHeld
        revert N_R_P
        revert N_P_R
        revert L_R
        revert L_P
        revert HP_R
        revert HP_P
        revert HB
        revert R
        revert P
        revert W2
        exact HG10.out
      intro W Q HB HP_Q L_Q hHeld
      refine wpAnyH_ready (rs := [5, 19, 21]) (by kernel_rfl) (by simp) ?_
      refine AllReadyH.cons rfl (fun K hK => ?_) (AllReadyH.cons rfl (fun K hK => ?_) (AllReadyH.cons rfl (fun K hK => ?_) (AllReadyH.nil)))
      · skip
        go_simp
        ((go_at_call 10; (first | (with_reducible refine (small2_as x y X Y _ hx hy EX EY).mono ?_) | (with_reducible refine (small2_as u v U V _ hu hv EU EV).mono ?_) | (with_reducible refine (small2_as s t S T _ hs ht ES ET).mono ?_)); rintro e z ⟨rfl, hb⟩))
        replace HP_Q := Hk.mk (HP_Q.out.below hb)
        replace HB := Hk.mk (kw_step HB.out L0V hb)
        clear hb
        refine hK.out _ _ ?_ (fun hHeld2 => ?_)
        · exact kw_s HB.out
        clear hK K hHeld
        have hHeld := hHeld2
        clear hHeld2
        (try simp only [Act.put, List.getElem_toArray, List.getElem_cons_succ, List.getElem_cons_zero, List.setIfInBounds_toArray, List.set_cons_zero, List.set_cons_succ])
        refine reg_cast (l' := #[true, true, true, true, true, true, true, true, true, true, true, false, true, true, true, true, true, true, false, false, true, false, false, false, false]) (by kernel_rfl) ?_
        revert hHeld
        revert L_Q
        revert HP_Q
        revert HB
        revert Q
        revert z
        exact HG7.out
      · skip
        go_simp
        have N_Q_P := HP_Q.out.ne
        have N_P_Q := HP_Q.out.ne'
        have L_P := kw_le HB.out L0V
        replace HP_Q := Hk.mk (HP_Q.out.al (.cells #[.int .i64 0, .int .i64 0] 24))
        have HP_P : Hk (Bk _ _ #[.int .i64 0, .int .i64 0]) := ⟨Bk.new W #[.int .i64 0, .int .i64 0] 24⟩
        replace HB := Hk.mk (kw_al HB.out L0V (.cells #[.int .i64 0, .int .i64 0] 24))
        refine hK.out _ _ ?_ (fun hHeld2 => ?_)
        · exact kw_s HB.out
        clear hK K hHeld
        have hHeld := hHeld2
        clear hHeld2
        (try simp only [Act.put, List.getElem_toArray, List.getElem_cons_succ, List.getElem_cons_zero, List.setIfInBounds_toArray, List.set_cons_zero, List.set_cons_succ])
        generalize W.heap.size = P at *
        generalize W.alloc (.cells #[.int .i64 0, .int .i64 0] 24) = W2 at *
        refine reg_cast (l' := #[true, true, true, true, true, false, true, true, true, true, true, false, true, true, true, true, true, true, false, true, true, false, false, false, false]) (by kernel_rfl) ?_
        revert hHeld
        revert N_Q_P
        revert N_P_Q
        revert L_Q
        revert L_P
        revert HP_Q
        revert HP_P
        revert HB
        revert Q
        revert P
        revert W2
        exact HG9.out
      · skip
        go_simp
        have N_Q_R := HP_Q.out.ne
        have N_R_Q := HP_Q.out.ne'
        have L_R := kw_le HB.out L0V
        replace HP_Q := Hk.mk (HP_Q.out.al (.cells #[.int .i64 0, .int .i64 0] 24))
        have HP_R : Hk (Bk _ _ #[.int .i64 0, .int .i64 0]) := ⟨Bk.new W #[.int .i64 0, .int .i64 0] 24⟩
        replace HB := Hk.mk (kw_al HB.out L0V (.cells #[.int .i64 0, .int .i64 0] 24))
        refine hK.out _ _ ?_ (fun hHeld2 => ?_)
        · exact kw_s HB.out
        clear hK K hHeld
        have hHeld := hHeld2
        clear hHeld2
        (try simp only [Act.put, List.getElem_toArray, List.getElem_cons_succ, List.getElem_cons_zero, List.setIfInBounds_toArray, List.set_cons_zero, List.set_cons_succ])
        generalize W.heap.size = R at *
        generalize W.alloc (.cells #[.int .i64 0, .int .i64 0] 24) = W2 at *
        refine reg_cast (l' := #[true, true, true, true, true, false, true, true, true, true, true, false, true, true, true, true, true, true, false, false, true, true, false, false, false]) (by kernel_rfl) ?_
        revert hHeld
        revert N_R_Q
        revert N_Q_R
        revert L_R
        revert L_Q
        revert HP_R
        revert HP_Q
        revert HB
        revert R
        revert Q
        revert W2
        exact HG11.out
      intro W R HB HP_R L_R hHeld
      refine wpAnyH_ready (rs := [5, 19, 20]) (by kernel_rfl) (by simp) ?_
      refine AllReadyH.cons rfl (fun K hK => ?_) (AllReadyH.cons rfl (fun K hK => ?_) (AllReadyH.cons rfl (fun K hK => ?_) (AllReadyH.nil)))
      · skip
        go_simp
        ((go_at_call 10; (first | (with_reducible refine (small2_as x y X Y _ hx hy EX EY).mono ?_) | (with_reducible refine (small2_as u v U V _ hu hv EU EV).mono ?_) | (with_reducible refine (small2_as s t S T _ hs ht ES ET).mono ?_)); rintro e z ⟨rfl, hb⟩))
        replace HP_R := Hk.mk (HP_R.out.below hb)
        replace HB := Hk.mk (kw_step HB.out L0V hb)
        clear hb
        refine hK.out _ _ ?_ (fun hHeld2 => ?_)
        · exact kw_s HB.out
        clear hK K hHeld
        have hHeld := hHeld2
        clear hHeld2
        (try simp only [Act.put, List.getElem_toArray, List.getElem_cons_succ, List.getElem_cons_zero, List.setIfInBounds_toArray, List.set_cons_zero, List.set_cons_succ])
        refine reg_cast (l' := #[true, true, true, true, true, true, true, true, true, true, true, false, true, true, true, true, true, true, false, false, false, true, false, false, false]) (by kernel_rfl) ?_
        revert hHeld
        revert L_R
        revert HP_R
        revert HB
        revert R
        revert z
        exact HG8.out
      · skip
        go_simp
        have N_R_P := HP_R.out.ne
        have N_P_R := HP_R.out.ne'
        have L_P := kw_le HB.out L0V
        replace HP_R := Hk.mk (HP_R.out.al (.cells #[.int .i64 0, .int .i64 0] 24))
        have HP_P : Hk (Bk _ _ #[.int .i64 0, .int .i64 0]) := ⟨Bk.new W #[.int .i64 0, .int .i64 0] 24⟩
        replace HB := Hk.mk (kw_al HB.out L0V (.cells #[.int .i64 0, .int .i64 0] 24))
        refine hK.out _ _ ?_ (fun hHeld2 => ?_)
        · exact kw_s HB.out
        clear hK K hHeld
        have hHeld := hHeld2
        clear hHeld2
        (try simp only [Act.put, List.getElem_toArray, List.getElem_cons_succ, List.getElem_cons_zero, List.setIfInBounds_toArray, List.set_cons_zero, List.set_cons_succ])
        generalize W.heap.size = P at *
        generalize W.alloc (.cells #[.int .i64 0, .int .i64 0] 24) = W2 at *
        refine reg_cast (l' := #[true, true, true, true, true, false, true, true, true, true, true, false, true, true, true, true, true, true, false, true, false, true, false, false, false]) (by kernel_rfl) ?_
        revert hHeld
        revert N_R_P
        revert N_P_R
        revert L_R
        revert L_P
        revert HP_R
        revert HP_P
        revert HB
        revert R
        revert P
        revert W2
        exact HG10.out
      · skip
        go_simp
        have N_R_Q := HP_R.out.ne
        have N_Q_R := HP_R.out.ne'
        have L_Q := kw_le HB.out L0V
        replace HP_R := Hk.mk (HP_R.out.al (.cells #[.int .i64 0, .int .i64 0] 24))
        have HP_Q : Hk (Bk _ _ #[.int .i64 0, .int .i64 0]) := ⟨Bk.new W #[.int .i64 0, .int .i64 0] 24⟩
        replace HB := Hk.mk (kw_al HB.out L0V (.cells #[.int .i64 0, .int .i64 0] 24))
        refine hK.out _ _ ?_ (fun hHeld2 => ?_)
        · exact kw_s HB.out
        clear hK K hHeld
        have hHeld := hHeld2
        clear hHeld2
        (try simp only [Act.put, List.getElem_toArray, List.getElem_cons_succ, List.getElem_cons_zero, List.setIfInBounds_toArray, List.set_cons_zero, List.set_cons_succ])
        generalize W.heap.size = Q at *
        generalize W.alloc (.cells #[.int .i64 0, .int .i64 0] 24) = W2 at *
        refine reg_cast (l' := #[true, true, true, true, true, false, true, true, true, true, true, false, true, true, true, true, true, true, false, false, true, true, false, false, false]) (by kernel_rfl) ?_
        revert hHeld
        revert N_R_Q
        revert N_Q_R
        revert L_R
        revert L_Q
        revert HP_R
        revert HP_Q
        revert HB
        revert R
        revert Q
        revert W2
        exact HG11.out
      intro W HB hHeld
      refine wpAnyH_ready (rs := [18, 19, 20, 21]) (by kernel_rfl) (by simp) ?_
      refine AllReadyH.cons rfl (fun K hK => ?_) (AllReadyH.cons rfl (fun K hK => ?_) (AllReadyH.cons rfl (fun K hK => ?_) (AllReadyH.cons rfl (fun K hK => ?_) (AllReadyH.nil))))
      · skip
        go_simp
        ((go_at_call 10; (first | (with_reducible refine (small2_as x y X Y _ hx hy EX EY).mono ?_) | (with_reducible refine (small2_as u v U V _ hu hv EU EV).mono ?_) | (with_reducible refine (small2_as s t S T _ hs ht ES ET).mono ?_)); rintro e z ⟨rfl, hb⟩))
        replace HB := Hk.mk (kw_step HB.out L0V hb)
        clear hb
        refine hK.out _ _ ?_ (fun hHeld2 => ?_)
        · exact kw_s HB.out
        clear hK K hHeld
        have hHeld := hHeld2
        clear hHeld2
        (try simp only [Act.put, List.getElem_toArray, List.getElem_cons_succ, List.getElem_cons_zero, List.setIfInBounds_toArray, List.set_cons_zero, List.set_cons_succ])
        refine reg_cast (l' := #[true, true, true, true, true, true, true, true, true, true, true, true, true, true, true, true, true, true, true, false, false, false, false, false, false]) (by kernel_rfl) ?_
        revert hHeld
        revert HB
        revert z
        exact HG12.out
      · skip
        go_simp
        have L_P := kw_le HB.out L0V
        have HP_P : Hk (Bk _ _ #[.int .i64 0, .int .i64 0]) := ⟨Bk.new W #[.int .i64 0, .int .i64 0] 24⟩
        replace HB := Hk.mk (kw_al HB.out L0V (.cells #[.int .i64 0, .int .i64 0] 24))
        refine hK.out _ _ ?_ (fun hHeld2 => ?_)
        · exact kw_s HB.out
        clear hK K hHeld
        have hHeld := hHeld2
        clear hHeld2
        (try simp only [Act.put, List.getElem_toArray, List.getElem_cons_succ, List.getElem_cons_zero, List.setIfInBounds_toArray, List.set_cons_zero, List.set_cons_succ])
        generalize W.heap.size = P at *
        generalize W.alloc (.cells #[.int .i64 0, .int .i64 0] 24) = W2 at *
        refine reg_cast (l' := #[true, true, true, true, true, true, true, true, true, true, true, true, true, true, true, true, true, true, false, true, false, false, false, false, false]) (by kernel_rfl) ?_
        revert hHeld
        revert L_P
        revert HP_P
        revert HB
        revert P
        revert W2
        exact HG13.out
      · skip
        go_simp
        have L_Q := kw_le HB.out L0V
        have HP_Q : Hk (Bk _ _ #[.int .i64 0, .int .i64 0]) := ⟨Bk.new W #[.int .i64 0, .int .i64 0] 24⟩
        replace HB := Hk.mk (kw_al HB.out L0V (.cells #[.int .i64 0, .int .i64 0] 24))
        refine hK.out _ _ ?_ (fun hHeld2 => ?_)
        · exact kw_s HB.out
        clear hK K hHeld
        have hHeld := hHeld2
        clear hHeld2
        (try simp only [Act.put, List.getElem_toArray, List.getElem_cons_succ, List.getElem_cons_zero, List.setIfInBounds_toArray, List.set_cons_zero, List.set_cons_succ])
        generalize W.heap.size = Q at *
        generalize W.alloc (.cells #[.int .i64 0, .int .i64 0] 24) = W2 at *
        refine reg_cast (l' := #[true, true, true, true, true, true, true, true, true, true, true, true, true, true, true, true, true, true, false, false, true, false, false, false, false]) (by kernel_rfl) ?_
        revert hHeld
        revert L_Q
        revert HP_Q
        revert HB
        revert Q
        revert W2
        exact HG14.out
      · skip
        go_simp
        have L_R := kw_le HB.out L0V
        have HP_R : Hk (Bk _ _ #[.int .i64 0, .int .i64 0]) := ⟨Bk.new W #[.int .i64 0, .int .i64 0] 24⟩
        replace HB := Hk.mk (kw_al HB.out L0V (.cells #[.int .i64 0, .int .i64 0] 24))
        refine hK.out _ _ ?_ (fun hHeld2 => ?_)
        · exact kw_s HB.out
        clear hK K hHeld
        have hHeld := hHeld2
        clear hHeld2
        (try simp only [Act.put, List.getElem_toArray, List.getElem_cons_succ, List.getElem_cons_zero, List.setIfInBounds_toArray, List.set_cons_zero, List.set_cons_succ])
        generalize W.heap.size = R at *
        generalize W.alloc (.cells #[.int .i64 0, .int .i64 0] 24) = W2 at *
        refine reg_cast (l' := #[true, true, true, true, true, true, true, true, true, true, true, true, true, true, true, true, true, true, false, false, false, true, false, false, false]) (by kernel_rfl) ?_
        revert hHeld
        revert L_R
        revert HP_R
        revert HB
        revert R
        revert W2
        exact HG15.out
      intro W P HB HP_P L_P hHeld
      refine wpAnyH_ready (rs := [11, 20, 21]) (by kernel_rfl) (by simp) ?_
      refine AllReadyH.cons rfl (fun K hK => ?_) (AllReadyH.cons rfl (fun K hK => ?_) (AllReadyH.cons rfl (fun K hK => ?_) (AllReadyH.nil)))
      · skip
        go_simp
        ((go_at_call 10; (first | (with_reducible refine (small2_as x y X Y _ hx hy EX EY).mono ?_) | (with_reducible refine (small2_as u v U V _ hu hv EU EV).mono ?_) | (with_reducible refine (small2_as s t S T _ hs ht ES ET).mono ?_)); rintro e z ⟨rfl, hb⟩))
        replace HP_P := Hk.mk (HP_P.out.below hb)
        replace HB := Hk.mk (kw_step HB.out L0V hb)
        clear hb
        refine hK.out _ _ ?_ (fun hHeld2 => ?_)
        · exact kw_s HB.out
        clear hK K hHeld
        have hHeld := hHeld2
        clear hHeld2
        (try simp only [Act.put, List.getElem_toArray, List.getElem_cons_succ, List.getElem_cons_zero, List.setIfInBounds_toArray, List.set_cons_zero, List.set_cons_succ])
        refine reg_cast (l' := #[true, true, true, true, true, true, true, true, true, true, true, true, true, true, true, true, true, true, false, true, false, false, false, false, false]) (by kernel_rfl) ?_
        revert hHeld
        revert L_P
        revert HP_P
        revert HB
        revert P
        revert z
        exact HG13.out
      · skip
        go_simp
        have N_P_Q := HP_P.out.ne
        have N_Q_P := HP_P.out.ne'
        have L_Q := kw_le HB.out L0V
        replace HP_P := Hk.mk (HP_P.out.al (.cells #[.int .i64 0, .int .i64 0] 24))
        have HP_Q : Hk (Bk _ _ #[.int .i64 0, .int .i64 0]) := ⟨Bk.new W #[.int .i64 0, .int .i64 0] 24⟩
        replace HB := Hk.mk (kw_al HB.out L0V (.cells #[.int .i64 0, .int .i64 0] 24))
        refine hK.out _ _ ?_ (fun hHeld2 => ?_)
        · exact kw_s HB.out
        clear hK K hHeld
        have hHeld := hHeld2
        clear hHeld2
        (try simp only [Act.put, List.getElem_toArray, List.getElem_cons_succ, List.getElem_cons_zero, List.setIfInBounds_toArray, List.set_cons_zero, List.set_cons_succ])
        generalize W.heap.size = Q at *
        generalize W.alloc (.cells #[.int .i64 0, .int .i64 0] 24) = W2 at *
        refine reg_cast (l' := #[true, true, true, true, true, true, true, true, true, true, true, false, true, true, true, true, true, true, false, true, true, false, false, false, false]) (by kernel_rfl) ?_
        revert hHeld
        revert N_Q_P
        revert N_P_Q
        revert L_Q
        revert L_P
        revert HP_Q
        revert HP_P
        revert HB
        revert Q
        revert P
        revert W2
        exact HG16.out
      · skip
        go_simp
        have N_P_R := HP_P.out.ne
        have N_R_P := HP_P.out.ne'
        have L_R := kw_le HB.out L0V
        replace HP_P := Hk.mk (HP_P.out.al (.cells #[.int .i64 0, .int .i64 0] 24))
        have HP_R : Hk (Bk _ _ #[.int .i64 0, .int .i64 0]) := ⟨Bk.new W #[.int .i64 0, .int .i64 0] 24⟩
        replace HB := Hk.mk (kw_al HB.out L0V (.cells #[.int .i64 0, .int .i64 0] 24))
        refine hK.out _ _ ?_ (fun hHeld2 => ?_)
        · exact kw_s HB.out
        clear hK K hHeld
        have hHeld := hHeld2
        clear hHeld2
        (try simp only [Act.put, List.getElem_toArray, List.getElem_cons_succ, List.getElem_cons_zero, List.setIfInBounds_toArray, List.set_cons_zero, List.set_cons_succ])
        generalize W.heap.size = R at *
        generalize W.alloc (.cells #[.int .i64 0, .int .i64 0] 24) = W2 at *
        refine reg_cast (l' := #[true, true, true, true, true, true, true, true, true, true, true, false, true, true, true, true, true, true, false, true, false, true, false, false, false]) (by kernel_rfl) ?_
        revert hHeld
        revert N_R_P
        revert N_P_R
        revert L_R
        revert L_P
        revert HP_R
        revert HP_P
        revert HB
        revert R
        revert P
        revert W2
        exact HG17.out
      intro W Q HB HP_Q L_Q hHeld
      refine wpAnyH_ready (rs := [11, 19, 21]) (by kernel_rfl) (by simp) ?_
      refine AllReadyH.cons rfl (fun K hK => ?_) (AllReadyH.cons rfl (fun K hK => ?_) (AllReadyH.cons rfl (fun K hK => ?_) (AllReadyH.nil)))
      · skip
        go_simp
        ((go_at_call 10; (first | (with_reducible refine (small2_as x y X Y _ hx hy EX EY).mono ?_) | (with_reducible refine (small2_as u v U V _ hu hv EU EV).mono ?_) | (with_reducible refine (small2_as s t S T _ hs ht ES ET).mono ?_)); rintro e z ⟨rfl, hb⟩))
        replace HP_Q := Hk.mk (HP_Q.out.below hb)
        replace HB := Hk.mk (kw_step HB.out L0V hb)
        clear hb
        refine hK.out _ _ ?_ (fun hHeld2 => ?_)
        · exact kw_s HB.out
        clear hK K hHeld
        have hHeld := hHeld2
        clear hHeld2
        (try simp only [Act.put, List.getElem_toArray, List.getElem_cons_succ, List.getElem_cons_zero, List.setIfInBounds_toArray, List.set_cons_zero, List.set_cons_succ])
        refine reg_cast (l' := #[true, true, true, true, true, true, true, true, true, true, true, true, true, true, true, true, true, true, false, false, true, false, false, false, false]) (by kernel_rfl) ?_
        revert hHeld
        revert L_Q
        revert HP_Q
        revert HB
        revert Q
        revert z
        exact HG14.out
      · skip
        go_simp
        have N_Q_P := HP_Q.out.ne
        have N_P_Q := HP_Q.out.ne'
        have L_P := kw_le HB.out L0V
        replace HP_Q := Hk.mk (HP_Q.out.al (.cells #[.int .i64 0, .int .i64 0] 24))
        have HP_P : Hk (Bk _ _ #[.int .i64 0, .int .i64 0]) := ⟨Bk.new W #[.int .i64 0, .int .i64 0] 24⟩
        replace HB := Hk.mk (kw_al HB.out L0V (.cells #[.int .i64 0, .int .i64 0] 24))
        refine hK.out _ _ ?_ (fun hHeld2 => ?_)
        · exact kw_s HB.out
        clear hK K hHeld
        have hHeld := hHeld2
        clear hHeld2
        (try simp only [Act.put, List.getElem_toArray, List.getElem_cons_succ, List.getElem_cons_zero, List.setIfInBounds_toArray, List.set_cons_zero, List.set_cons_succ])
        generalize W.heap.size = P at *
        generalize W.alloc (.cells #[.int .i64 0, .int .i64 0] 24) = W2 at *
        refine reg_cast (l' := #[true, true, true, true, true, true, true, true, true, true, true, false, true, true, true, true, true, true, false, true, true, false, false, false, false]) (by kernel_rfl) ?_
        revert hHeld
        revert N_Q_P
        revert N_P_Q
        revert L_Q
        revert L_P
        revert HP_Q
        revert HP_P
        revert HB
        revert Q
        revert P
        revert W2
        exact HG16.out
      · skip
        go_simp
        have N_Q_R := HP_Q.out.ne
        have N_R_Q := HP_Q.out.ne'
        have L_R := kw_le HB.out L0V
        replace HP_Q := Hk.mk (HP_Q.out.al (.cells #[.int .i64 0, .int .i64 0] 24))
        have HP_R : Hk (Bk _ _ #[.int .i64 0, .int .i64 0]) := ⟨Bk.new W #[.int .i64 0, .int .i64 0] 24⟩
        replace HB := Hk.mk (kw_al HB.out L0V (.cells #[.int .i64 0, .int .i64 0] 24))
        refine hK.out _ _ ?_ (fun hHeld2 => ?_)
        · exact kw_s HB.out
        clear hK K hHeld
        have hHeld := hHeld2
        clear hHeld2
        (try simp only [Act.put, List.getElem_toArray, List.getElem_cons_succ, List.getElem_cons_zero, List.setIfInBounds_toArray, List.set_cons_zero, List.set_cons_succ])
        generalize W.heap.size = R at *
        generalize W.alloc (.cells #[.int .i64 0, .int .i64 0] 24) = W2 at *
        refine reg_cast (l' := #[true, true, true, true, true, true, true, true, true, true, true, false, true, true, true, true, true, true, false, false, true, true, false, false, false]) (by kernel_rfl) ?_
        revert hHeld
        revert N_R_Q
        revert N_Q_R
        revert L_R
        revert L_Q
        revert HP_R
        revert HP_Q
        revert HB
        revert R
        revert Q
        revert W2
        exact HG18.out
      intro W R HB HP_R L_R hHeld
      refine wpAnyH_ready (rs := [11, 19, 20]) (by kernel_rfl) (by simp) ?_
      refine AllReadyH.cons rfl (fun K hK => ?_) (AllReadyH.cons rfl (fun K hK => ?_) (AllReadyH.cons rfl (fun K hK => ?_) (AllReadyH.nil)))
      · skip
        go_simp
        ((go_at_call 10; (first | (with_reducible refine (small2_as x y X Y _ hx hy EX EY).mono ?_) | (with_reducible refine (small2_as u v U V _ hu hv EU EV).mono ?_) | (with_reducible refine (small2_as s t S T _ hs ht ES ET).mono ?_)); rintro e z ⟨rfl, hb⟩))
        replace HP_R := Hk.mk (HP_R.out.below hb)
        replace HB := Hk.mk (kw_step HB.out L0V hb)
        clear hb
        refine hK.out _ _ ?_ (fun hHeld2 => ?_)
        · exact kw_s HB.out
        clear hK K hHeld
        have hHeld := hHeld2
        clear hHeld2
        (try simp only [Act.put, List.getElem_toArray, List.getElem_cons_succ, List.getElem_cons_zero, List.setIfInBounds_toArray, List.set_cons_zero, List.set_cons_succ])
        refine reg_cast (l' := #[true, true, true, true, true, true, true, true, true, true, true, true, true, true, true, true, true, true, false, false, false, true, false, false, false]) (by kernel_rfl) ?_
        revert hHeld
        revert L_R
        revert HP_R
        revert HB
        revert R
        revert z
        exact HG15.out
      · skip
        go_simp
        have N_R_P := HP_R.out.ne
        have N_P_R := HP_R.out.ne'
        have L_P := kw_le HB.out L0V
        replace HP_R := Hk.mk (HP_R.out.al (.cells #[.int .i64 0, .int .i64 0] 24))
        have HP_P : Hk (Bk _ _ #[.int .i64 0, .int .i64 0]) := ⟨Bk.new W #[.int .i64 0, .int .i64 0] 24⟩
        replace HB := Hk.mk (kw_al HB.out L0V (.cells #[.int .i64 0, .int .i64 0] 24))
        refine hK.out _ _ ?_ (fun hHeld2 => ?_)
        · exact kw_s HB.out
        clear hK K hHeld
        have hHeld := hHeld2
        clear hHeld2
        (try simp only [Act.put, List.getElem_toArray, List.getElem_cons_succ, List.getElem_cons_zero, List.setIfInBounds_toArray, List.set_cons_zero, List.set_cons_succ])
        generalize W.heap.size = P at *
        generalize W.alloc (.cells #[.int .i64 0, .int .i64 0] 24) = W2 at *
        refine reg_cast (l' := #[true, true, true, true, true, true, true, true, true, true, true, false, true, true, true, true, true, true, false, true, false, true, false, false, false]) (by kernel_rfl) ?_
        revert hHeld
        revert N_R_P
        revert N_P_R
        revert L_R
        revert L_P
        revert HP_R
        revert HP_P
        revert HB
        revert R
        revert P
        revert W2
        exact HG17.out
      · skip
        go_simp
        have N_R_Q := HP_R.out.ne
        have N_Q_R := HP_R.out.ne'
        have L_Q := kw_le HB.out L0V
        replace HP_R := Hk.mk (HP_R.out.al (.cells #[.int .i64 0, .int .i64 0] 24))
        have HP_Q : Hk (Bk _ _ #[.int .i64 0, .int .i64 0]) := ⟨Bk.new W #[.int .i64 0, .int .i64 0] 24⟩
        replace HB := Hk.mk (kw_al HB.out L0V (.cells #[.int .i64 0, .int .i64 0] 24))
        refine hK.out _ _ ?_ (fun hHeld2 => ?_)
        · exact kw_s HB.out
        clear hK K hHeld
        have hHeld := hHeld2
        clear hHeld2
        (try simp only [Act.put, List.getElem_toArray, List.getElem_cons_succ, List.getElem_cons_zero, List.setIfInBounds_toArray, List.set_cons_zero, List.set_cons_succ])
        generalize W.heap.size = Q at *
        generalize W.alloc (.cells #[.int .i64 0, .int .i64 0] 24) = W2 at *
        refine reg_cast (l' := #[true, true, true, true, true, true, true, true, true, true, true, false, true, true, true, true, true, true, false, false, true, true, false, false, false]) (by kernel_rfl) ?_
        revert hHeld
        revert N_R_Q
        revert N_Q_R
        revert L_R
        revert L_Q
        revert HP_R
        revert HP_Q
        revert HB
        revert R
        revert Q
        revert W2
        exact HG18.out
      intro W P Q HB HP_P HP_Q L_P L_Q N_P_Q N_Q_P hHeld
      refine wpAnyH_ready (rs := [5, 21]) (by kernel_rfl) (by simp) ?_
      refine AllReadyH.cons rfl (fun K hK => ?_) (AllReadyH.cons rfl (fun K hK => ?_) (AllReadyH.nil))
      · skip
        go_simp
        ((go_at_call 10; (first | (with_reducible refine (small2_as x y X Y _ hx hy EX EY).mono ?_) | (with_reducible refine (small2_as u v U V _ hu hv EU EV).mono ?_) | (with_reducible refine (small2_as s t S T _ hs ht ES ET).mono ?_)); rintro e z ⟨rfl, hb⟩))
        replace HP_P := Hk.mk (HP_P.out.below hb)
        replace HP_Q := Hk.mk (HP_Q.out.below hb)
        replace HB := Hk.mk (kw_step HB.out L0V hb)
        clear hb
        refine hK.out _ _ ?_ (fun hHeld2 => ?_)
        · exact kw_s HB.out
        clear hK K hHeld
        have hHeld := hHeld2
        clear hHeld2
        (try simp only [Act.put, List.getElem_toArray, List.getElem_cons_succ, List.getElem_cons_zero, List.setIfInBounds_toArray, List.set_cons_zero, List.set_cons_succ])
        refine reg_cast (l' := #[true, true, true, true, true, true, true, true, true, true, true, false, true, true, true, true, true, true, false, true, true, false, false, false, false]) (by kernel_rfl) ?_
        revert hHeld
        revert N_Q_P
        revert N_P_Q
        revert L_Q
        revert L_P
        revert HP_Q
        revert HP_P
        revert HB
        revert Q
        revert P
        revert z
        exact HG16.out
      · skip
        go_simp
        have N_P_R := HP_P.out.ne
        have N_R_P := HP_P.out.ne'
        have N_Q_R := HP_Q.out.ne
        have N_R_Q := HP_Q.out.ne'
        have L_R := kw_le HB.out L0V
        replace HP_P := Hk.mk (HP_P.out.al (.cells #[.int .i64 0, .int .i64 0] 24))
        replace HP_Q := Hk.mk (HP_Q.out.al (.cells #[.int .i64 0, .int .i64 0] 24))
        have HP_R : Hk (Bk _ _ #[.int .i64 0, .int .i64 0]) := ⟨Bk.new W #[.int .i64 0, .int .i64 0] 24⟩
        replace HB := Hk.mk (kw_al HB.out L0V (.cells #[.int .i64 0, .int .i64 0] 24))
        refine hK.out _ _ ?_ (fun hHeld2 => ?_)
        · exact kw_s HB.out
        clear hK K hHeld
        have hHeld := hHeld2
        clear hHeld2
        (try simp only [Act.put, List.getElem_toArray, List.getElem_cons_succ, List.getElem_cons_zero, List.setIfInBounds_toArray, List.set_cons_zero, List.set_cons_succ])
        generalize W.heap.size = R at *
        generalize W.alloc (.cells #[.int .i64 0, .int .i64 0] 24) = W2 at *
        refine reg_cast (l' := #[true, true, true, true, true, false, true, true, true, true, true, false, true, true, true, true, true, true, false, true, true, true, false, false, false]) (by kernel_rfl) ?_
        revert hHeld
        revert N_R_Q
        revert N_R_P
        revert N_Q_R
        revert N_Q_P
        revert N_P_R
        revert N_P_Q
        revert L_R
        revert L_Q
        revert L_P
        revert HP_R
        revert HP_Q
        revert HP_P
        revert HB
        revert R
        revert Q
        revert P
        revert W2
        exact HG19.out
      intro W P R HB HP_P HP_R L_P L_R N_P_R N_R_P hHeld
      refine wpAnyH_ready (rs := [5, 20]) (by kernel_rfl) (by simp) ?_
      refine AllReadyH.cons rfl (fun K hK => ?_) (AllReadyH.cons rfl (fun K hK => ?_) (AllReadyH.nil))
      · skip
        go_simp
        ((go_at_call 10; (first | (with_reducible refine (small2_as x y X Y _ hx hy EX EY).mono ?_) | (with_reducible refine (small2_as u v U V _ hu hv EU EV).mono ?_) | (with_reducible refine (small2_as s t S T _ hs ht ES ET).mono ?_)); rintro e z ⟨rfl, hb⟩))
        replace HP_P := Hk.mk (HP_P.out.below hb)
        replace HP_R := Hk.mk (HP_R.out.below hb)
        replace HB := Hk.mk (kw_step HB.out L0V hb)
        clear hb
        refine hK.out _ _ ?_ (fun hHeld2 => ?_)
        · exact kw_s HB.out
        clear hK K hHeld
        have hHeld := hHeld2
        clear hHeld2
        (try simp only [Act.put, List.getElem_toArray, List.getElem_cons_succ, List.getElem_cons_zero, List.setIfInBounds_toArray, List.set_cons_zero, List.set_cons_succ])
        refine reg_cast (l' := #[true, true, true, true, true, true, true, true, true, true, true, false, true, true, true, true, true, true, false, true, false, true, false, false, false]) (by kernel_rfl) ?_
        revert hHeld
        revert N_R_P
        revert N_P_R
        revert L_R
        revert L_P
        revert HP_R
        revert HP_P
        revert HB
        revert R
        revert P
        revert z
        exact HG17.out
      · skip
        go_simp
        have N_P_Q := HP_P.out.ne
        have N_Q_P := HP_P.out.ne'
        have N_R_Q := HP_R.out.ne
        have N_Q_R := HP_R.out.ne'
        have L_Q := kw_le HB.out L0V
        replace HP_P := Hk.mk (HP_P.out.al (.cells #[.int .i64 0, .int .i64 0] 24))
        replace HP_R := Hk.mk (HP_R.out.al (.cells #[.int .i64 0, .int .i64 0] 24))
        have HP_Q : Hk (Bk _ _ #[.int .i64 0, .int .i64 0]) := ⟨Bk.new W #[.int .i64 0, .int .i64 0] 24⟩
        replace HB := Hk.mk (kw_al HB.out L0V (.cells #[.int .i64 0, .int .i64 0] 24))
        refine hK.out _ _ ?_ (fun hHeld2 => ?_)
        · exact kw_s HB.out
        clear hK K hHeld
        have hHeld := hHeld2
        clear hHeld2
        (try simp only [Act.put, List.getElem_toArray, List.getElem_cons_succ, List.getElem_cons_zero, List.setIfInBounds_toArray, List.set_cons_zero, List.set_cons_succ])
        generalize W.heap.size = Q at *
        generalize W.alloc (.cells #[.int .i64 0, .int .i64 0] 24) = W2 at *
        refine reg_cast (l' := #[true, true, true, true, true, false, true, true, true, true, true, false, true, true, true, true, true, true, false, true, true, true, false, false, false]) (by kernel_rfl) ?_
        revert hHeld
        revert N_R_Q
        revert N_R_P
        revert N_Q_R
        revert N_Q_P
        revert N_P_R
        revert N_P_Q
        revert L_R
        revert L_Q
        revert L_P
        revert HP_R
        revert HP_Q
        revert HP_P
        revert HB
        revert R
        revert Q
        revert P
        revert W2
        exact HG19.out
      intro W Q R HB HP_Q HP_R L_Q L_R N_Q_R N_R_Q hHeld
      refine wpAnyH_ready (rs := [5, 19]) (by kernel_rfl) (by simp) ?_
      refine AllReadyH.cons rfl (fun K hK => ?_) (AllReadyH.cons rfl (fun K hK => ?_) (AllReadyH.nil))
      · skip
        go_simp
        ((go_at_call 10; (first | (with_reducible refine (small2_as x y X Y _ hx hy EX EY).mono ?_) | (with_reducible refine (small2_as u v U V _ hu hv EU EV).mono ?_) | (with_reducible refine (small2_as s t S T _ hs ht ES ET).mono ?_)); rintro e z ⟨rfl, hb⟩))
        replace HP_Q := Hk.mk (HP_Q.out.below hb)
        replace HP_R := Hk.mk (HP_R.out.below hb)
        replace HB := Hk.mk (kw_step HB.out L0V hb)
        clear hb
        refine hK.out _ _ ?_ (fun hHeld2 => ?_)
        · exact kw_s HB.out
        clear hK K hHeld
        have hHeld := hHeld2
        clear hHeld2
        (try simp only [Act.put, List.getElem_toArray, List.getElem_cons_succ, List.getElem_cons_zero, List.setIfInBounds_toArray, List.set_cons_zero, List.set_cons_succ])
        refine reg_cast (l' := #[true, true, true, true, true, true, true, true, true, true, true, false, true, true, true, true, true, true, false, false, true, true, false, false, false]) (by kernel_rfl) ?_
        revert hHeld
        revert N_R_Q
        revert N_Q_R
        revert L_R
        revert L_Q
        revert HP_R
        revert HP_Q
        revert HB
        revert R
        revert Q
        revert z
        exact HG18.out
      · skip
        go_simp
        have N_Q_P := HP_Q.out.ne
        have N_P_Q := HP_Q.out.ne'
        have N_R_P := HP_R.out.ne
        have N_P_R := HP_R.out.ne'
        have L_P := kw_le HB.out L0V
        replace HP_Q := Hk.mk (HP_Q.out.al (.cells #[.int .i64 0, .int .i64 0] 24))
        replace HP_R := Hk.mk (HP_R.out.al (.cells #[.int .i64 0, .int .i64 0] 24))
        have HP_P : Hk (Bk _ _ #[.int .i64 0, .int .i64 0]) := ⟨Bk.new W #[.int .i64 0, .int .i64 0] 24⟩
        replace HB := Hk.mk (kw_al HB.out L0V (.cells #[.int .i64 0, .int .i64 0] 24))
        refine hK.out _ _ ?_ (fun hHeld2 => ?_)
        · exact kw_s HB.out
        clear hK K hHeld
        have hHeld := hHeld2
        clear hHeld2
        (try simp only [Act.put, List.getElem_toArray, List.getElem_cons_succ, List.getElem_cons_zero, List.setIfInBounds_toArray, List.set_cons_zero, List.set_cons_succ])
        generalize W.heap.size = P at *
        generalize W.alloc (.cells #[.int .i64 0, .int .i64 0] 24) = W2 at *
        refine reg_cast (l' := #[true, true, true, true, true, false, true, true, true, true, true, false, true, true, true, true, true, true, false, true, true, true, false, false, false]) (by kernel_rfl) ?_
        revert hHeld
        revert N_R_Q
        revert N_R_P
        revert N_Q_R
        revert N_Q_P
        revert N_P_R
        revert N_P_Q
        revert L_R
        revert L_Q
        revert L_P
        revert HP_R
        revert HP_Q
        revert HP_P
        revert HB
        revert R
        revert Q
        revert P
        revert W2
        exact HG19.out
      intro W HB hHeld
      refine wpAnyH_ready (rs := [19, 20, 21]) (by kernel_rfl) (by simp) ?_
      refine AllReadyH.cons rfl (fun K hK => ?_) (AllReadyH.cons rfl (fun K hK => ?_) (AllReadyH.cons rfl (fun K hK => ?_) (AllReadyH.nil)))
      · skip
        go_simp
        have L_P := kw_le HB.out L0V
        have HP_P : Hk (Bk _ _ #[.int .i64 0, .int .i64 0]) := ⟨Bk.new W #[.int .i64 0, .int .i64 0] 24⟩
        replace HB := Hk.mk (kw_al HB.out L0V (.cells #[.int .i64 0, .int .i64 0] 24))
        refine hK.out _ _ ?_ (fun hHeld2 => ?_)
        · exact kw_s HB.out
        clear hK K hHeld
        have hHeld := hHeld2
        clear hHeld2
        (try simp only [Act.put, List.getElem_toArray, List.getElem_cons_succ, List.getElem_cons_zero, List.setIfInBounds_toArray, List.set_cons_zero, List.set_cons_succ])
        generalize W.heap.size = P at *
        generalize W.alloc (.cells #[.int .i64 0, .int .i64 0] 24) = W2 at *
        refine reg_cast (l' := #[true, true, true, true, true, true, true, true, true, true, true, true, true, true, true, true, true, true, true, true, false, false, false, false, false]) (by kernel_rfl) ?_
        revert hHeld
        revert L_P
        revert HP_P
        revert HB
        revert P
        revert W2
        exact HG20.out
      · skip
        go_simp
        have L_Q := kw_le HB.out L0V
        have HP_Q : Hk (Bk _ _ #[.int .i64 0, .int .i64 0]) := ⟨Bk.new W #[.int .i64 0, .int .i64 0] 24⟩
        replace HB := Hk.mk (kw_al HB.out L0V (.cells #[.int .i64 0, .int .i64 0] 24))
        refine hK.out _ _ ?_ (fun hHeld2 => ?_)
        · exact kw_s HB.out
        clear hK K hHeld
        have hHeld := hHeld2
        clear hHeld2
        (try simp only [Act.put, List.getElem_toArray, List.getElem_cons_succ, List.getElem_cons_zero, List.setIfInBounds_toArray, List.set_cons_zero, List.set_cons_succ])
        generalize W.heap.size = Q at *
        generalize W.alloc (.cells #[.int .i64 0, .int .i64 0] 24) = W2 at *
        refine reg_cast (l' := #[true, true, true, true, true, true, true, true, true, true, true, true, true, true, true, true, true, true, true, false, true, false, false, false, false]) (by kernel_rfl) ?_
        revert hHeld
        revert L_Q
        revert HP_Q
        revert HB
        revert Q
        revert W2
        exact HG21.out
      · skip
        go_simp
        have L_R := kw_le HB.out L0V
        have HP_R : Hk (Bk _ _ #[.int .i64 0, .int .i64 0]) := ⟨Bk.new W #[.int .i64 0, .int .i64 0] 24⟩
        replace HB := Hk.mk (kw_al HB.out L0V (.cells #[.int .i64 0, .int .i64 0] 24))
        refine hK.out _ _ ?_ (fun hHeld2 => ?_)
        · exact kw_s HB.out
        clear hK K hHeld
        have hHeld := hHeld2
        clear hHeld2
        (try simp only [Act.put, List.getElem_toArray, List.getElem_cons_succ, List.getElem_cons_zero, List.setIfInBounds_toArray, List.set_cons_zero, List.set_cons_succ])
        generalize W.heap.size = R at *
        generalize W.alloc (.cells #[.int .i64 0, .int .i64 0] 24) = W2 at *
        refine reg_cast (l' := #[true, true, true, true, true, true, true, true, true, true, true, true, true, true, true, true, true, true, true, false, false, true, false, false, false]) (by kernel_rfl) ?_
        revert hHeld
        revert L_R
        revert HP_R
        revert HB
        revert R
        revert W2
        exact HG22.out
      intro W P HB HP_P L_P hHeld
      refine wpAnyH_ready (rs := [18, 20, 21]) (by kernel_rfl) (by simp) ?_
      refine AllReadyH.cons rfl (fun K hK => ?_) (AllReadyH.cons rfl (fun K hK => ?_) (AllReadyH.cons rfl (fun K hK => ?_) (AllReadyH.nil)))
      · skip
        go_simp
        ((go_at_call 10; (first | (with_reducible refine (small2_as x y X Y _ hx hy EX EY).mono ?_) | (with_reducible refine (small2_as u v U V _ hu hv EU EV).mono ?_) | (with_reducible refine (small2_as s t S T _ hs ht ES ET).mono ?_)); rintro e z ⟨rfl, hb⟩))
        replace HP_P := Hk.mk (HP_P.out.below hb)
        replace HB := Hk.mk (kw_step HB.out L0V hb)
        clear hb
        refine hK.out _ _ ?_ (fun hHeld2 => ?_)
        · exact kw_s HB.out
        clear hK K hHeld
        have hHeld := hHeld2
        clear hHeld2
        (try simp only [Act.put, List.getElem_toArray, List.getElem_cons_succ, List.getElem_cons_zero, List.setIfInBounds_toArray, List.set_cons_zero, List.set_cons_succ])
        refine reg_cast (l' := #[true, true, true, true, true, true, true, true, true, true, true, true, true, true, true, true, true, true, true, true, false, false, false, false, false]) (by kernel_rfl) ?_
        revert hHeld
        revert L_P
        revert HP_P
        revert HB
        revert P
        revert z
        exact HG20.out
      · skip
        go_simp
        have N_P_Q := HP_P.out.ne
        have N_Q_P := HP_P.out.ne'
        have L_Q := kw_le HB.out L0V
        replace HP_P := Hk.mk (HP_P.out.al (.cells #[.int .i64 0, .int .i64 0] 24))
        have HP_Q : Hk (Bk _ _ #[.int .i64 0, .int .i64 0]) := ⟨Bk.new W #[.int .i64 0, .int .i64 0] 24⟩
        replace HB := Hk.mk (kw_al HB.out L0V (.cells #[.int .i64 0, .int .i64 0] 24))
        refine hK.out _ _ ?_ (fun hHeld2 => ?_)
        · exact kw_s HB.out
        clear hK K hHeld
        have hHeld := hHeld2
        clear hHeld2
        (try simp only [Act.put, List.getElem_toArray, List.getElem_cons_succ, List.getElem_cons_zero, List.setIfInBounds_toArray, List.set_cons_zero, List.set_cons_succ])
        generalize W.heap.size = Q at *
        generalize W.alloc (.cells #[.int .i64 0, .int .i64 0] 24) = W2 at *
        refine reg_cast (l' := #[true, true, true, true, true, true, true, true, true, true, true, true, true, true, true, true, true, true, false, true, true, false, false, false, false]) (by kernel_rfl) ?_
        revert hHeld
        revert N_Q_P
        revert N_P_Q
        revert L_Q
        revert L_P
        revert HP_Q
        revert HP_P
        revert HB
        revert Q
        revert P
        revert W2
        exact HG23.out
      · skip
        go_simp
        have N_P_R := HP_P.out.ne
        have N_R_P := HP_P.out.ne'
        have L_R := kw_le HB.out L0V
        replace HP_P := Hk.mk (HP_P.out.al (.cells #[.int .i64 0, .int .i64 0] 24))
        have HP_R : Hk (Bk _ _ #[.int .i64 0, .int .i64 0]) := ⟨Bk.new W #[.int .i64 0, .int .i64 0] 24⟩
        replace HB := Hk.mk (kw_al HB.out L0V (.cells #[.int .i64 0, .int .i64 0] 24))
        refine hK.out _ _ ?_ (fun hHeld2 => ?_)
        · exact kw_s HB.out
        clear hK K hHeld
        have hHeld := hHeld2
        clear hHeld2
        (try simp only [Act.put, List.getElem_toArray, List.getElem_cons_succ, List.getElem_cons_zero, List.setIfInBounds_toArray, List.set_cons_zero, List.set_cons_succ])
        generalize W.heap.size = R at *
        generalize W.alloc (.cells #[.int .i64 0, .int .i64 0] 24) = W2 at *
        refine reg_cast (l' := #[true, true, true, true, true, true, true, true, true, true, true, true, true, true, true, true, true, true, false, true, false, true, false, false, false]) (by kernel_rfl) ?_
        revert hHeld
        revert N_R_P
        revert N_P_R
        revert L_R
        revert L_P
        revert HP_R
        revert HP_P
        revert HB
        revert R
        revert P
        revert W2
        exact HG24.out
      intro W Q HB HP_Q L_Q hHeld
      refine wpAnyH_ready (rs := [18, 19, 21]) (by kernel_rfl) (by simp) ?_
      refine AllReadyH.cons rfl (fun K hK => ?_) (AllReadyH.cons rfl (fun K hK => ?_) (AllReadyH.cons rfl (fun K hK => ?_) (AllReadyH.nil)))
      · skip
        go_simp
        ((go_at_call 10; (first | (with_reducible refine (small2_as x y X Y _ hx hy EX EY).mono ?_) | (with_reducible refine (small2_as u v U V _ hu hv EU EV).mono ?_) | (with_reducible refine (small2_as s t S T _ hs ht ES ET).mono ?_)); rintro e z ⟨rfl, hb⟩))
        replace HP_Q := Hk.mk (HP_Q.out.below hb)
        replace HB := Hk.mk (kw_step HB.out L0V hb)
        clear hb
        refine hK.out _ _ ?_ (fun hHeld2 => ?_)
        · exact kw_s HB.out
        clear hK K hHeld
        have hHeld := hHeld2
        clear hHeld2
        (try simp only [Act.put, List.getElem_toArray, List.getElem_cons_succ, List.getElem_cons_zero, List.setIfInBounds_toArray, List.set_cons_zero, List.set_cons_succ])
        refine reg_cast (l' := #[true, true, true, true, true, true, true, true, true, true, true, true, true, true, true, true, true, true, true, false, true, false, false, false, false]) (by kernel_rfl) ?_
        revert hHeld
        revert L_Q
        revert HP_Q
        revert HB
        revert Q
        revert z
        exact HG21.out
      · skip
        go_simp
        have N_Q_P := HP_Q.out.ne
        have N_P_Q := HP_Q.out.ne'
        have L_P := kw_le HB.out L0V
        replace HP_Q := Hk.mk (HP_Q.out.al (.cells #[.int .i64 0, .int .i64 0] 24))
        have HP_P : Hk (Bk _ _ #[.int .i64 0, .int .i64 0]) := ⟨Bk.new W #[.int .i64 0, .int .i64 0] 24⟩
        replace HB := Hk.mk (kw_al HB.out L0V (.cells #[.int .i64 0, .int .i64 0] 24))
        refine hK.out _ _ ?_ (fun hHeld2 => ?_)
        · exact kw_s HB.out
        clear hK K hHeld
        have hHeld := hHeld2
        clear hHeld2
        (try simp only [Act.put, List.getElem_toArray, List.getElem_cons_succ, List.getElem_cons_zero, List.setIfInBounds_toArray, List.set_cons_zero, List.set_cons_succ])
        generalize W.heap.size = P at *
        generalize W.alloc (.cells #[.int .i64 0, .int .i64 0] 24) = W2 at *
        refine reg_cast (l' := #[true, true, true, true, true, true, true, true, true, true, true, true, true, true, true, true, true, true, false, true, true, false, false, false, false]) (by kernel_rfl) ?_
        revert hHeld
        revert N_Q_P
        revert N_P_Q
        revert L_Q
        revert L_P
        revert HP_Q
        revert HP_P
        revert HB
        revert Q
        revert P
        revert W2
        exact HG23.out
      · skip
        go_simp
        have N_Q_R := HP_Q.out.ne
        have N_R_Q := HP_Q.out.ne'
        have L_R := kw_le HB.out L0V
        replace HP_Q := Hk.mk (HP_Q.out.al (.cells #[.int .i64 0, .int .i64 0] 24))
        have HP_R : Hk (Bk _ _ #[.int .i64 0, .int .i64 0]) := ⟨Bk.new W #[.int .i64 0, .int .i64 0] 24⟩
        replace HB := Hk.mk (kw_al HB.out L0V (.cells #[.int .i64 0, .int .i64 0] 24))
        refine hK.out _ _ ?_ (fun hHeld2 => ?_)
        · exact kw_s HB.out
        clear hK K hHeld
        have hHeld := hHeld2
        clear hHeld2
        (try simp only [Act.put, List.getElem_toArray, List.getElem_cons_succ, List.getElem_cons_zero, List.setIfInBounds_toArray, List.set_cons_zero, List.set_cons_succ])
        generalize W.heap.size = R at *
        generalize W.alloc (.cells #[.int .i64 0, .int .i64 0] 24) = W2 at *
        refine reg_cast (l' := #[true, true, true, true, true, true, true, true, true, true, true, true, true, true, true, true, true, true, false, false, true, true, false, false, false]) (by kernel_rfl) ?_
        revert hHeld
        revert N_R_Q
        revert N_Q_R
        revert L_R
        revert L_Q
        revert HP_R
        revert HP_Q
        revert HB
        revert R
        revert Q
        revert W2
        exact HG25.out
      intro W R HB HP_R L_R hHeld
      refine wpAnyH_ready (rs := [18, 19, 20]) (by kernel_rfl) (by simp) ?_
      refine AllReadyH.cons rfl (fun K hK => ?_) (AllReadyH.cons rfl (fun K hK => ?_) (AllReadyH.cons rfl (fun K hK => ?_) (AllReadyH.nil)))
      · skip
        go_simp
        ((go_at_call 10; (first | (with_reducible refine (small2_as x y X Y _ hx hy EX EY).mono ?_) | (with_reducible refine (small2_as u v U V _ hu hv EU EV).mono ?_) | (with_reducible refine (small2_as s t S T _ hs ht ES ET).mono ?_)); rintro e z ⟨rfl, hb⟩))
        replace HP_R := Hk.mk (HP_R.out.below hb)
        replace HB := Hk.mk (kw_step HB.out L0V hb)
        clear hb
        refine hK.out _ _ ?_ (fun hHeld2 => ?_)
        · exact kw_s HB.out
        clear hK K hHeld
        have hHeld := hHeld2
        clear hHeld2
        (try simp only [Act.put, List.getElem_toArray, List.getElem_cons_succ, List.getElem_cons_zero, List.setIfInBounds_toArray, List.set_cons_zero, List.set_cons_succ])
        refine reg_cast (l' := #[true, true, true, true, true, true, true, true, true, true, true, true, true, true, true, true, true, true, true, false, false, true, false, false, false]) (by kernel_rfl) ?_
        revert hHeld
        revert L_R
        revert HP_R
        revert HB
        revert R
        revert z
        exact HG22.out
      · skip
        go_simp
        have N_R_P := HP_R.out.ne
        have N_P_R := HP_R.out.ne'
        have L_P := kw_le HB.out L0V
        replace HP_R := Hk.mk (HP_R.out.al (.cells #[.int .i64 0, .int .i64 0] 24))
        have HP_P : Hk (Bk _ _ #[.int .i64 0, .int .i64 0]) := ⟨Bk.new W #[.int .i64 0, .int .i64 0] 24⟩
        replace HB := Hk.mk (kw_al HB.out L0V (.cells #[.int .i64 0, .int .i64 0] 24))
        refine hK.out _ _ ?_ (fun hHeld2 => ?_)
        · exact kw_s HB.out
        clear hK K hHeld
        have hHeld := hHeld2
        clear hHeld2
        (try simp only [Act.put, List.getElem_toArray, List.getElem_cons_succ, List.getElem_cons_zero, List.setIfInBounds_toArray, List.set_cons_zero, List.set_cons_succ])
        generalize W.heap.size = P at *
        generalize W.alloc (.cells #[.int .i64 0, .int .i64 0] 24) = W2 at *
        refine reg_cast (l' := #[true, true, true, true, true, true, true, true, true, true, true, true, true, true, true, true, true, true, false, true, false, true, false, false, false]) (by kernel_rfl) ?_
        revert hHeld
        revert N_R_P
        revert N_P_R
        revert L_R
        revert L_P
        revert HP_R
        revert HP_P
        revert HB
        revert R
        revert P
        revert W2
        exact HG24.out
      · skip
        go_simp
        have N_R_Q := HP_R.out.ne
        have N_Q_R := HP_R.out.ne'
        have L_Q := kw_le HB.out L0V
        replace HP_R := Hk.mk (HP_R.out.al (.cells #[.int .i64 0, .int .i64 0] 24))
        have HP_Q : Hk (Bk _ _ #[.int .i64 0, .int .i64 0]) := ⟨Bk.new W #[.int .i64 0, .int .i64 0] 24⟩
        replace HB := Hk.mk (kw_al HB.out L0V (.cells #[.int .i64 0, .int .i64 0] 24))
        refine hK.out _ _ ?_ (fun hHeld2 => ?_)
        · exact kw_s HB.out
        clear hK K hHeld
        have hHeld := hHeld2
        clear hHeld2
        (try simp only [Act.put, List.getElem_toArray, List.getElem_cons_succ, List.getElem_cons_zero, List.setIfInBounds_toArray, List.set_cons_zero, List.set_cons_succ])
        generalize W.heap.size = Q at *
        generalize W.alloc (.cells #[.int .i64 0, .int .i64 0] 24) = W2 at *
        refine reg_cast (l' := #[true, true, true, true, true, true, true, true, true, true, true, true, true, true, true, true, true, true, false, false, true, true, false, false, false]) (by kernel_rfl) ?_
        revert hHeld
        revert N_R_Q
        revert N_Q_R
        revert L_R
        revert L_Q
        revert HP_R
        revert HP_Q
        revert HB
        revert R
        revert Q
        revert W2
        exact HG25.out
      intro W P Q HB HP_P HP_Q L_P L_Q N_P_Q N_Q_P hHeld
      refine wpAnyH_ready (rs := [11, 21]) (by kernel_rfl) (by simp) ?_
      refine AllReadyH.cons rfl (fun K hK => ?_) (AllReadyH.cons rfl (fun K hK => ?_) (AllReadyH.nil))
      · skip
        go_simp
        ((go_at_call 10; (first | (with_reducible refine (small2_as x y X Y _ hx hy EX EY).mono ?_) | (with_reducible refine (small2_as u v U V _ hu hv EU EV).mono ?_) | (with_reducible refine (small2_as s t S T _ hs ht ES ET).mono ?_)); rintro e z ⟨rfl, hb⟩))
        replace HP_P := Hk.mk (HP_P.out.below hb)
        replace HP_Q := Hk.mk (HP_Q.out.below hb)
        replace HB := Hk.mk (kw_step HB.out L0V hb)
        clear hb
        refine hK.out _ _ ?_ (fun hHeld2 => ?_)
        · exact kw_s HB.out
        clear hK K hHeld
        have hHeld := hHeld2
        clear hHeld2
        (try simp only [Act.put, List.getElem_toArray, List.getElem_cons_succ, List.getElem_cons_zero, List.setIfInBounds_toArray, List.set_cons_zero, List.set_cons_succ])
        refine reg_cast (l' := #[true, true, true, true, true, true, true, true, true, true, true, true, true, true, true, true, true, true, false, true, true, false, false, false, false]) (by kernel_rfl) ?_
        revert hHeld
        revert N_Q_P
        revert N_P_Q
        revert L_Q
        revert L_P
        revert HP_Q
        revert HP_P
        revert HB
        revert Q
        revert P
        revert z
        exact HG23.out
      · skip
        go_simp
        have N_P_R := HP_P.out.ne
        have N_R_P := HP_P.out.ne'
        have N_Q_R := HP_Q.out.ne
        have N_R_Q := HP_Q.out.ne'
        have L_R := kw_le HB.out L0V
        replace HP_P := Hk.mk (HP_P.out.al (.cells #[.int .i64 0, .int .i64 0] 24))
        replace HP_Q := Hk.mk (HP_Q.out.al (.cells #[.int .i64 0, .int .i64 0] 24))
        have HP_R : Hk (Bk _ _ #[.int .i64 0, .int .i64 0]) := ⟨Bk.new W #[.int .i64 0, .int .i64 0] 24⟩
        replace HB := Hk.mk (kw_al HB.out L0V (.cells #[.int .i64 0, .int .i64 0] 24))
        refine hK.out _ _ ?_ (fun hHeld2 => ?_)
        · exact kw_s HB.out
        clear hK K hHeld
        have hHeld := hHeld2
        clear hHeld2
        (try simp only [Act.put, List.getElem_toArray, List.getElem_cons_succ, List.getElem_cons_zero, List.setIfInBounds_toArray, List.set_cons_zero, List.set_cons_succ])
        generalize W.heap.size = R at *
        generalize W.alloc (.cells #[.int .i64 0, .int .i64 0] 24) = W2 at *
        refine reg_cast (l' := #[true, true, true, true, true, true, true, true, true, true, true, false, true, true, true, true, true, true, false, true, true, true, false, false, false]) (by kernel_rfl) ?_
        revert hHeld
        revert N_R_Q
        revert N_R_P
        revert N_Q_R
        revert N_Q_P
        revert N_P_R
        revert N_P_Q
        revert L_R
        revert L_Q
        revert L_P
        revert HP_R
        revert HP_Q
        revert HP_P
        revert HB
        revert R
        revert Q
        revert P
        revert W2
        exact HG26.out
      intro W P R HB HP_P HP_R L_P L_R N_P_R N_R_P hHeld
      refine wpAnyH_ready (rs := [11, 20]) (by kernel_rfl) (by simp) ?_
      refine AllReadyH.cons rfl (fun K hK => ?_) (AllReadyH.cons rfl (fun K hK => ?_) (AllReadyH.nil))
      · skip
        go_simp
        ((go_at_call 10; (first | (with_reducible refine (small2_as x y X Y _ hx hy EX EY).mono ?_) | (with_reducible refine (small2_as u v U V _ hu hv EU EV).mono ?_) | (with_reducible refine (small2_as s t S T _ hs ht ES ET).mono ?_)); rintro e z ⟨rfl, hb⟩))
        replace HP_P := Hk.mk (HP_P.out.below hb)
        replace HP_R := Hk.mk (HP_R.out.below hb)
        replace HB := Hk.mk (kw_step HB.out L0V hb)
        clear hb
        refine hK.out _ _ ?_ (fun hHeld2 => ?_)
        · exact kw_s HB.out
        clear hK K hHeld
        have hHeld := hHeld2
        clear hHeld2
        (try simp only [Act.put, List.getElem_toArray, List.getElem_cons_succ, List.getElem_cons_zero, List.setIfInBounds_toArray, List.set_cons_zero, List.set_cons_succ])
        refine reg_cast (l' := #[true, true, true, true, true, true, true, true, true, true, true, true, true, true, true, true, true, true, false, true, false, true, false, false, false]) (by kernel_rfl) ?_
        revert hHeld
        revert N_R_P
        revert N_P_R
        revert L_R
        revert L_P
        revert HP_R
        revert HP_P
        revert HB
        revert R
        revert P
        revert z
        exact HG24.out
      · skip
        go_simp
        have N_P_Q := HP_P.out.ne
        have N_Q_P := HP_P.out.ne'
        have N_R_Q := HP_R.out.ne
        have N_Q_R := HP_R.out.ne'
        have L_Q := kw_le HB.out L0V
        replace HP_P := Hk.mk (HP_P.out.al (.cells #[.int .i64 0, .int .i64 0] 24))
        replace HP_R := Hk.mk (HP_R.out.al (.cells #[.int .i64 0, .int .i64 0] 24))
        have HP_Q : Hk (Bk _ _ #[.int .i64 0, .int .i64 0]) := ⟨Bk.new W #[.int .i64 0, .int .i64 0] 24⟩
        replace HB := Hk.mk (kw_al HB.out L0V (.cells #[.int .i64 0, .int .i64 0] 24))
        refine hK.out _ _ ?_ (fun hHeld2 => ?_)
        · exact kw_s HB.out
        clear hK K hHeld
        have hHeld := hHeld2
        clear hHeld2
        (try simp only [Act.put, List.getElem_toArray, List.getElem_cons_succ, List.getElem_cons_zero, List.setIfInBounds_toArray, List.set_cons_zero, List.set_cons_succ])
        generalize W.heap.size = Q at *
        generalize W.alloc (.cells #[.int .i64 0, .int .i64 0] 24) = W2 at *
        refine reg_cast (l' := #[true, true, true, true, true, true, true, true, true, true, true, false, true, true, true, true, true, true, false, true, true, true, false, false, false]) (by kernel_rfl) ?_
        revert hHeld
        revert N_R_Q
        revert N_R_P
        revert N_Q_R
        revert N_Q_P
        revert N_P_R
        revert N_P_Q
        revert L_R
        revert L_Q
        revert L_P
        revert HP_R
        revert HP_Q
        revert HP_P
        revert HB
        revert R
        revert Q
        revert P
        revert W2
        exact HG26.out
      intro W Q R HB HP_Q HP_R L_Q L_R N_Q_R N_R_Q hHeld
      refine wpAnyH_ready (rs := [11, 19]) (by kernel_rfl) (by simp) ?_
      refine AllReadyH.cons rfl (fun K hK => ?_) (AllReadyH.cons rfl (fun K hK => ?_) (AllReadyH.nil))
      · skip
        go_simp
        ((go_at_call 10; (first | (with_reducible refine (small2_as x y X Y _ hx hy EX EY).mono ?_) | (with_reducible refine (small2_as u v U V _ hu hv EU EV).mono ?_) | (with_reducible refine (small2_as s t S T _ hs ht ES ET).mono ?_)); rintro e z ⟨rfl, hb⟩))
        replace HP_Q := Hk.mk (HP_Q.out.below hb)
        replace HP_R := Hk.mk (HP_R.out.below hb)
        replace HB := Hk.mk (kw_step HB.out L0V hb)
        clear hb
        refine hK.out _ _ ?_ (fun hHeld2 => ?_)
        · exact kw_s HB.out
        clear hK K hHeld
        have hHeld := hHeld2
        clear hHeld2
        (try simp only [Act.put, List.getElem_toArray, List.getElem_cons_succ, List.getElem_cons_zero, List.setIfInBounds_toArray, List.set_cons_zero, List.set_cons_succ])
        refine reg_cast (l' := #[true, true, true, true, true, true, true, true, true, true, true, true, true, true, true, true, true, true, false, false, true, true, false, false, false]) (by kernel_rfl) ?_
        revert hHeld
        revert N_R_Q
        revert N_Q_R
        revert L_R
        revert L_Q
        revert HP_R
        revert HP_Q
        revert HB
        revert R
        revert Q
        revert z
        exact HG25.out
      · skip
        go_simp
        have N_Q_P := HP_Q.out.ne
        have N_P_Q := HP_Q.out.ne'
        have N_R_P := HP_R.out.ne
        have N_P_R := HP_R.out.ne'
        have L_P := kw_le HB.out L0V
        replace HP_Q := Hk.mk (HP_Q.out.al (.cells #[.int .i64 0, .int .i64 0] 24))
        replace HP_R := Hk.mk (HP_R.out.al (.cells #[.int .i64 0, .int .i64 0] 24))
        have HP_P : Hk (Bk _ _ #[.int .i64 0, .int .i64 0]) := ⟨Bk.new W #[.int .i64 0, .int .i64 0] 24⟩
        replace HB := Hk.mk (kw_al HB.out L0V (.cells #[.int .i64 0, .int .i64 0] 24))
        refine hK.out _ _ ?_ (fun hHeld2 => ?_)
        · exact kw_s HB.out
        clear hK K hHeld
        have hHeld := hHeld2
        clear hHeld2
        (try simp only [Act.put, List.getElem_toArray, List.getElem_cons_succ, List.getElem_cons_zero, List.setIfInBounds_toArray, List.set_cons_zero, List.set_cons_succ])
        generalize W.heap.size = P at *
        generalize W.alloc (.cells #[.int .i64 0, .int .i64 0] 24) = W2 at *
        refine reg_cast (l' := #[true, true, true, true, true, true, true, true, true, true, true, false, true, true, true, true, true, true, false, true, true, true, false, false, false]) (by kernel_rfl) ?_
        revert hHeld
        revert N_R_Q
        revert N_R_P
        revert N_Q_R
        revert N_Q_P
        revert N_P_R
        revert N_P_Q
        revert L_R
        revert L_Q
        revert L_P
        revert HP_R
        revert HP_Q
        revert HP_P
        revert HB
        revert R
        revert Q
        revert P
        revert W2
        exact HG26.out
      intro W P Q R HB HP_P HP_Q HP_R L_P L_Q L_R N_P_Q N_P_R N_Q_P N_Q_R N_R_P N_R_Q hHeld
      refine wpAnyH_ready (rs := [5]) (by kernel_rfl) (by simp) ?_
      refine AllReadyH.cons rfl (fun K hK => ?_) (AllReadyH.nil)
      · skip
        go_simp
        ((go_at_call 10; (first | (with_reducible refine (small2_as x y X Y _ hx hy EX EY).mono ?_) | (with_reducible refine (small2_as u v U V _ hu hv EU EV).mono ?_) | (with_reducible refine (small2_as s t S T _ hs ht ES ET).mono ?_)); rintro e z ⟨rfl, hb⟩))
        replace HP_P := Hk.mk (HP_P.out.below hb)
        replace HP_Q := Hk.mk (HP_Q.out.below hb)
        replace HP_R := Hk.mk (HP_R.out.below hb)
        replace HB := Hk.mk (kw_step HB.out L0V hb)
        clear hb
        refine hK.out _ _ ?_ (fun hHeld2 => ?_)
        · exact kw_s HB.out
        clear hK K hHeld
        have hHeld := hHeld2
        clear hHeld2
        (try simp only [Act.put, List.getElem_toArray, List.getElem_cons_succ, List.getElem_cons_zero, List.setIfInBounds_toArray, List.set_cons_zero, List.set_cons_succ])
        refine reg_cast (l' := #[true, true, true, true, true, true, true, true, true, true, true, false, true, true, true, true, true, true, false, true, true, true, false, false, false]) (by kernel_rfl) ?_
        revert hHeld
        revert N_R_Q
        revert N_R_P
        revert N_Q_R
        revert N_Q_P
        revert N_P_R
        revert N_P_Q
        revert L_R
        revert L_Q
        revert L_P
        revert HP_R
        revert HP_Q
        revert HP_P
        revert HB
        revert R
        revert Q
        revert P
        revert z
        exact HG26.out
      intro W P HB HP_P L_P hHeld
      refine wpAnyH_ready (rs := [20, 21]) (by kernel_rfl) (by simp) ?_
      refine AllReadyH.cons rfl (fun K hK => ?_) (AllReadyH.cons rfl (fun K hK => ?_) (AllReadyH.nil))
      · skip
        go_simp
        have N_P_Q := HP_P.out.ne
        have N_Q_P := HP_P.out.ne'
        have L_Q := kw_le HB.out L0V
        replace HP_P := Hk.mk (HP_P.out.al (.cells #[.int .i64 0, .int .i64 0] 24))
        have HP_Q : Hk (Bk _ _ #[.int .i64 0, .int .i64 0]) := ⟨Bk.new W #[.int .i64 0, .int .i64 0] 24⟩
        replace HB := Hk.mk (kw_al HB.out L0V (.cells #[.int .i64 0, .int .i64 0] 24))
        refine hK.out _ _ ?_ (fun hHeld2 => ?_)
        · exact kw_s HB.out
        clear hK K hHeld
        have hHeld := hHeld2
        clear hHeld2
        (try simp only [Act.put, List.getElem_toArray, List.getElem_cons_succ, List.getElem_cons_zero, List.setIfInBounds_toArray, List.set_cons_zero, List.set_cons_succ])
        generalize W.heap.size = Q at *
        generalize W.alloc (.cells #[.int .i64 0, .int .i64 0] 24) = W2 at *
        refine reg_cast (l' := #[true, true, true, true, true, true, true, true, true, true, true, true, true, true, true, true, true, true, true, true, true, false, false, false, false]) (by kernel_rfl) ?_
        revert hHeld
        revert N_Q_P
        revert N_P_Q
        revert L_Q
        revert L_P
        revert HP_Q
        revert HP_P
        revert HB
        revert Q
        revert P
        revert W2
        exact HG27.out
      · skip
        go_simp
        have N_P_R := HP_P.out.ne
        have N_R_P := HP_P.out.ne'
        have L_R := kw_le HB.out L0V
        replace HP_P := Hk.mk (HP_P.out.al (.cells #[.int .i64 0, .int .i64 0] 24))
        have HP_R : Hk (Bk _ _ #[.int .i64 0, .int .i64 0]) := ⟨Bk.new W #[.int .i64 0, .int .i64 0] 24⟩
        replace HB := Hk.mk (kw_al HB.out L0V (.cells #[.int .i64 0, .int .i64 0] 24))
        refine hK.out _ _ ?_ (fun hHeld2 => ?_)
        · exact kw_s HB.out
        clear hK K hHeld
        have hHeld := hHeld2
        clear hHeld2
        (try simp only [Act.put, List.getElem_toArray, List.getElem_cons_succ, List.getElem_cons_zero, List.setIfInBounds_toArray, List.set_cons_zero, List.set_cons_succ])
        generalize W.heap.size = R at *
        generalize W.alloc (.cells #[.int .i64 0, .int .i64 0] 24) = W2 at *
        refine reg_cast (l' := #[true, true, true, true, true, true, true, true, true, true, true, true, true, true, true, true, true, true, true, true, false, true, false, false, false]) (by kernel_rfl) ?_
        revert hHeld
        revert N_R_P
        revert N_P_R
        revert L_R
        revert L_P
        revert HP_R
        revert HP_P
        revert HB
        revert R
        revert P
        revert W2
        exact HG28.out
      intro W Q HB HP_Q L_Q hHeld
      refine wpAnyH_ready (rs := [19, 21]) (by kernel_rfl) (by simp) ?_
      refine AllReadyH.cons rfl (fun K hK => ?_) (AllReadyH.cons rfl (fun K hK => ?_) (AllReadyH.nil))
      · skip
        go_simp
        have N_Q_P := HP_Q.out.ne
        have N_P_Q := HP_Q.out.ne'
        have L_P := kw_le HB.out L0V
        replace HP_Q := Hk.mk (HP_Q.out.al (.cells #[.int .i64 0, .int .i64 0] 24))
        have HP_P : Hk (Bk _ _ #[.int .i64 0, .int .i64 0]) := ⟨Bk.new W #[.int .i64 0, .int .i64 0] 24⟩
        replace HB := Hk.mk (kw_al HB.out L0V (.cells #[.int .i64 0, .int .i64 0] 24))
        refine hK.out _ _ ?_ (fun hHeld2 => ?_)
        · exact kw_s HB.out
        clear hK K hHeld
        have hHeld := hHeld2
        clear hHeld2
        (try simp only [Act.put, List.getElem_toArray, List.getElem_cons_succ, List.getElem_cons_zero, List.setIfInBounds_toArray, List.set_cons_zero, List.set_cons_succ])
        generalize W.heap.size = P at *
        generalize W.alloc (.cells #[.int .i64 0, .int .i64 0] 24) = W2 at *
        refine reg_cast (l' := #[true, true, true, true, true, true, true, true, true, true, true, true, true, true, true, true, true, true, true, true, true, false, false, false, false]) (by kernel_rfl) ?_
        revert hHeld
        revert N_Q_P
        revert N_P_Q
        revert L_Q
        revert L_P
        revert HP_Q
        revert HP_P
        revert HB
        revert Q
        revert P
        revert W2
        exact HG27.out
      · skip
        go_simp
        have N_Q_R := HP_Q.out.ne
        have N_R_Q := HP_Q.out.ne'
        have L_R := kw_le HB.out L0V
        replace HP_Q := Hk.mk (HP_Q.out.al (.cells #[.int .i64 0, .int .i64 0] 24))
        have HP_R : Hk (Bk _ _ #[.int .i64 0, .int .i64 0]) := ⟨Bk.new W #[.int .i64 0, .int .i64 0] 24⟩
        replace HB := Hk.mk (kw_al HB.out L0V (.cells #[.int .i64 0, .int .i64 0] 24))
        refine hK.out _ _ ?_ (fun hHeld2 => ?_)
        · exact kw_s HB.out
        clear hK K hHeld
        have hHeld := hHeld2
        clear hHeld2
        (try simp only [Act.put, List.getElem_toArray, List.getElem_cons_succ, List.getElem_cons_zero, List.setIfInBounds_toArray, List.set_cons_zero, List.set_cons_succ])
        generalize W.heap.size = R at *
        generalize W.alloc (.cells #[.int .i64 0, .int .i64 0] 24) = W2 at *
        refine reg_cast (l' := #[true, true, true, true, true, true, true, true, true, true, true, true, true, true, true, true, true, true, true, false, true, true, false, false, false]) (by kernel_rfl) ?_
        revert hHeld
        revert N_R_Q
        revert N_Q_R
        revert L_R
        revert L_Q
        revert HP_R
        revert HP_Q
        revert HB
        revert R
        revert Q
        revert W2
        exact HG29.out
      intro W R HB HP_R L_R hHeld
      refine wpAnyH_ready (rs := [19, 20]) (by kernel_rfl) (by simp) ?_
      refine AllReadyH.cons rfl (fun K hK => ?_) (AllReadyH.cons rfl (fun K hK => ?_) (AllReadyH.nil))
      · skip
        go_simp
        have N_R_P := HP_R.out.ne
        have N_P_R := HP_R.out.ne'
        have L_P := kw_le HB.out L0V
        replace HP_R := Hk.mk (HP_R.out.al (.cells #[.int .i64 0, .int .i64 0] 24))
        have HP_P : Hk (Bk _ _ #[.int .i64 0, .int .i64 0]) := ⟨Bk.new W #[.int .i64 0, .int .i64 0] 24⟩
        replace HB := Hk.mk (kw_al HB.out L0V (.cells #[.int .i64 0, .int .i64 0] 24))
        refine hK.out _ _ ?_ (fun hHeld2 => ?_)
        · exact kw_s HB.out
        clear hK K hHeld
        have hHeld := hHeld2
        clear hHeld2
        (try simp only [Act.put, List.getElem_toArray, List.getElem_cons_succ, List.getElem_cons_zero, List.setIfInBounds_toArray, List.set_cons_zero, List.set_cons_succ])
        generalize W.heap.size = P at *
        generalize W.alloc (.cells #[.int .i64 0, .int .i64 0] 24) = W2 at *
        refine reg_cast (l' := #[true, true, true, true, true, true, true, true, true, true, true, true, true, true, true, true, true, true, true, true, false, true, false, false, false]) (by kernel_rfl) ?_
        revert hHeld
        revert N_R_P
        revert N_P_R
        revert L_R
        revert L_P
        revert HP_R
        revert HP_P
        revert HB
        revert R
        revert P
        revert W2
        exact HG28.out
      · skip
        go_simp
        have N_R_Q := HP_R.out.ne
        have N_Q_R := HP_R.out.ne'
        have L_Q := kw_le HB.out L0V
        replace HP_R := Hk.mk (HP_R.out.al (.cells #[.int .i64 0, .int .i64 0] 24))
        have HP_Q : Hk (Bk _ _ #[.int .i64 0, .int .i64 0]) := ⟨Bk.new W #[.int .i64 0, .int .i64 0] 24⟩
        replace HB := Hk.mk (kw_al HB.out L0V (.cells #[.int .i64 0, .int .i64 0] 24))
        refine hK.out _ _ ?_ (fun hHeld2 => ?_)
        · exact kw_s HB.out
        clear hK K hHeld
        have hHeld := hHeld2
        clear hHeld2
        (try simp only [Act.put, List.getElem_toArray, List.getElem_cons_succ, List.getElem_cons_zero, List.setIfInBounds_toArray, List.set_cons_zero, List.set_cons_succ])
        generalize W.heap.size = Q at *
        generalize W.alloc (.cells #[.int .i64 0, .int .i64 0] 24) = W2 at *
        refine reg_cast (l' := #[true, true, true, true, true, true, true, true, true, true, true, true, true, true, true, true, true, true, true, false, true, true, false, false, false]) (by kernel_rfl) ?_
        revert hHeld
        revert N_R_Q
        revert N_Q_R
        revert L_R
        revert L_Q
        revert HP_R
        revert HP_Q
        revert HB
        revert R
        revert Q
        revert W2
        exact HG29.out
      intro W P Q HB HP_P HP_Q L_P L_Q N_P_Q N_Q_P hHeld
      refine wpAnyH_ready (rs := [18, 21]) (by kernel_rfl) (by simp) ?_
      refine AllReadyH.cons rfl (fun K hK => ?_) (AllReadyH.cons rfl (fun K hK => ?_) (AllReadyH.nil))
      · skip
        go_simp
        ((go_at_call 10; (first | (with_reducible refine (small2_as x y X Y _ hx hy EX EY).mono ?_) | (with_reducible refine (small2_as u v U V _ hu hv EU EV).mono ?_) | (with_reducible refine (small2_as s t S T _ hs ht ES ET).mono ?_)); rintro e z ⟨rfl, hb⟩))
        replace HP_P := Hk.mk (HP_P.out.below hb)
        replace HP_Q := Hk.mk (HP_Q.out.below hb)
        replace HB := Hk.mk (kw_step HB.out L0V hb)
        clear hb
        refine hK.out _ _ ?_ (fun hHeld2 => ?_)
        · exact kw_s HB.out
        clear hK K hHeld
        have hHeld := hHeld2
        clear hHeld2
        (try simp only [Act.put, List.getElem_toArray, List.getElem_cons_succ, List.getElem_cons_zero, List.setIfInBounds_toArray, List.set_cons_zero, List.set_cons_succ])
        refine reg_cast (l' := #[true, true, true, true, true, true, true, true, true, true, true, true, true, true, true, true, true, true, true, true, true, false, false, false, false]) (by kernel_rfl) ?_
        revert hHeld
        revert N_Q_P
        revert N_P_Q
        revert L_Q
        revert L_P
        revert HP_Q
        revert HP_P
        revert HB
        revert Q
        revert P
        revert z
        exact HG27.out
      · skip
        go_simp
        have N_P_R := HP_P.out.ne
        have N_R_P := HP_P.out.ne'
        have N_Q_R := HP_Q.out.ne
        have N_R_Q := HP_Q.out.ne'
        have L_R := kw_le HB.out L0V
        replace HP_P := Hk.mk (HP_P.out.al (.cells #[.int .i64 0, .int .i64 0] 24))
        replace HP_Q := Hk.mk (HP_Q.out.al (.cells #[.int .i64 0, .int .i64 0] 24))
        have HP_R : Hk (Bk _ _ #[.int .i64 0, .int .i64 0]) := ⟨Bk.new W #[.int .i64 0, .int .i64 0] 24⟩
        replace HB := Hk.mk (kw_al HB.out L0V (.cells #[.int .i64 0, .int .i64 0] 24))
        refine hK.out _ _ ?_ (fun hHeld2 => ?_)
        · exact kw_s HB.out
        clear hK K hHeld
        have hHeld := hHeld2
        clear hHeld2
        (try simp only [Act.put, List.getElem_toArray, List.getElem_cons_succ, List.getElem_cons_zero, List.setIfInBounds_toArray, List.set_cons_zero, List.set_cons_succ])
        generalize W.heap.size = R at *
        generalize W.alloc (.cells #[.int .i64 0, .int .i64 0] 24) = W2 at *
        refine reg_cast (l' := #[true, true, true, true, true, true, true, true, true, true, true, true, true, true, true, true, true, true, false, true, true, true, false, false, false]) (by kernel_rfl) ?_
        revert hHeld
        revert N_R_Q
        revert N_R_P
        revert N_Q_R
        revert N_Q_P
        revert N_P_R
        revert N_P_Q
        revert L_R
        revert L_Q
        revert L_P
        revert HP_R
        revert HP_Q
        revert HP_P
        revert HB
        revert R
        revert Q
        revert P
        revert W2
        exact HG30.out
      intro W P R HB HP_P HP_R L_P L_R N_P_R N_R_P hHeld
      refine wpAnyH_ready (rs := [18, 20]) (by kernel_rfl) (by simp) ?_
      refine AllReadyH.cons rfl (fun K hK => ?_) (AllReadyH.cons rfl (fun K hK => ?_) (AllReadyH.nil))
      · skip
        go_simp
        ((go_at_call 10; (first | (with_reducible refine (small2_as x y X Y _ hx hy EX EY).mono ?_) | (with_reducible refine (small2_as u v U V _ hu hv EU EV).mono ?_) | (with_reducible refine (small2_as s t S T _ hs ht ES ET).mono ?_)); rintro e z ⟨rfl, hb⟩))
        replace HP_P := Hk.mk (HP_P.out.below hb)
        replace HP_R := Hk.mk (HP_R.out.below hb)
        replace HB := Hk.mk (kw_step HB.out L0V hb)
        clear hb
        refine hK.out _ _ ?_ (fun hHeld2 => ?_)
        · exact kw_s HB.out
        clear hK K hHeld
        have hHeld := hHeld2
        clear hHeld2
        (try simp only [Act.put, List.getElem_toArray, List.getElem_cons_succ, List.getElem_cons_zero, List.setIfInBounds_toArray, List.set_cons_zero, List.set_cons_succ])
        refine reg_cast (l' := #[true, true, true, true, true, true, true, true, true, true, true, true, true, true, true, true, true, true, true, true, false, true, false, false, false]) (by kernel_rfl) ?_
        revert hHeld
        revert N_R_P
        revert N_P_R
        revert L_R
        revert L_P
        revert HP_R
        revert HP_P
        revert HB
        revert R
        revert P
        revert z
        exact HG28.out
      · skip
        go_simp
        have N_P_Q := HP_P.out.ne
        have N_Q_P := HP_P.out.ne'
        have N_R_Q := HP_R.out.ne
        have N_Q_R := HP_R.out.ne'
        have L_Q := kw_le HB.out L0V
        replace HP_P := Hk.mk (HP_P.out.al (.cells #[.int .i64 0, .int .i64 0] 24))
        replace HP_R := Hk.mk (HP_R.out.al (.cells #[.int .i64 0, .int .i64 0] 24))
        have HP_Q : Hk (Bk _ _ #[.int .i64 0, .int .i64 0]) := ⟨Bk.new W #[.int .i64 0, .int .i64 0] 24⟩
        replace HB := Hk.mk (kw_al HB.out L0V (.cells #[.int .i64 0, .int .i64 0] 24))
        refine hK.out _ _ ?_ (fun hHeld2 => ?_)
        · exact kw_s HB.out
        clear hK K hHeld
        have hHeld := hHeld2
        clear hHeld2
        (try simp only [Act.put, List.getElem_toArray, List.getElem_cons_succ, List.getElem_cons_zero, List.setIfInBounds_toArray, List.set_cons_zero, List.set_cons_succ])
        generalize W.heap.size = Q at *
        generalize W.alloc (.cells #[.int .i64 0, .int .i64 0] 24) = W2 at *
        refine reg_cast (l' := #[true, true, true, true, true, true, true, true, true, true, true, true, true, true, true, true, true, true, false, true, true, true, false, false, false]) (by kernel_rfl) ?_
        revert hHeld
        revert N_R_Q
        revert N_R_P
        revert N_Q_R
        revert N_Q_P
        revert N_P_R
        revert N_P_Q
        revert L_R
        revert L_Q
        revert L_P
        revert HP_R
        revert HP_Q
        revert HP_P
        revert HB
        revert R
        revert Q
        revert P
        revert W2
        exact HG30.out
      intro W Q R HB HP_Q HP_R L_Q L_R N_Q_R N_R_Q hHeld
      refine wpAnyH_ready (rs := [18, 19]) (by kernel_rfl) (by simp) ?_
      refine AllReadyH.cons rfl (fun K hK => ?_) (AllReadyH.cons rfl (fun K hK => ?_) (AllReadyH.nil))
      · skip
        go_simp
        ((go_at_call 10; (first | (with_reducible refine (small2_as x y X Y _ hx hy EX EY).mono ?_) | (with_reducible refine (small2_as u v U V _ hu hv EU EV).mono ?_) | (with_reducible refine (small2_as s t S T _ hs ht ES ET).mono ?_)); rintro e z ⟨rfl, hb⟩))
        replace HP_Q := Hk.mk (HP_Q.out.below hb)
        replace HP_R := Hk.mk (HP_R.out.below hb)
        replace HB := Hk.mk (kw_step HB.out L0V hb)
        clear hb
        refine hK.out _ _ ?_ (fun hHeld2 => ?_)
        · exact kw_s HB.out
        clear hK K hHeld
        have hHeld := hHeld2
        clear hHeld2
        (try simp only [Act.put, List.getElem_toArray, List.getElem_cons_succ, List.getElem_cons_zero, List.setIfInBounds_toArray, List.set_cons_zero, List.set_cons_succ])
        refine reg_cast (l' := #[true, true, true, true, true, true, true, true, true, true, true, true, true, true, true, true, true, true, true, false, true, true, false, false, false]) (by kernel_rfl) ?_
        revert hHeld
        revert N_R_Q
        revert N_Q_R
        revert L_R
        revert L_Q
        revert HP_R
        revert HP_Q
        revert HB
        revert R
        revert Q
        revert z
        exact HG29.out
      · skip
        go_simp
        have N_Q_P := HP_Q.out.ne
        have N_P_Q := HP_Q.out.ne'
        have N_R_P := HP_R.out.ne
        have N_P_R := HP_R.out.ne'
        have L_P := kw_le HB.out L0V
        replace HP_Q := Hk.mk (HP_Q.out.al (.cells #[.int .i64 0, .int .i64 0] 24))
        replace HP_R := Hk.mk (HP_R.out.al (.cells #[.int .i64 0, .int .i64 0] 24))
        have HP_P : Hk (Bk _ _ #[.int .i64 0, .int .i64 0]) := ⟨Bk.new W #[.int .i64 0, .int .i64 0] 24⟩
        replace HB := Hk.mk (kw_al HB.out L0V (.cells #[.int .i64 0, .int .i64 0] 24))
        refine hK.out _ _ ?_ (fun hHeld2 => ?_)
        · exact kw_s HB.out
        clear hK K hHeld
        have hHeld := hHeld2
        clear hHeld2
        (try simp only [Act.put, List.getElem_toArray, List.getElem_cons_succ, List.getElem_cons_zero, List.setIfInBounds_toArray, List.set_cons_zero, List.set_cons_succ])
        generalize W.heap.size = P at *
        generalize W.alloc (.cells #[.int .i64 0, .int .i64 0] 24) = W2 at *
        refine reg_cast (l' := #[true, true, true, true, true, true, true, true, true, true, true, true, true, true, true, true, true, true, false, true, true, true, false, false, false]) (by kernel_rfl) ?_
        revert hHeld
        revert N_R_Q
        revert N_R_P
        revert N_Q_R
        revert N_Q_P
        revert N_P_R
        revert N_P_Q
        revert L_R
        revert L_Q
        revert L_P
        revert HP_R
        revert HP_Q
        revert HP_P
        revert HB
        revert R
        revert Q
        revert P
        revert W2
        exact HG30.out
      intro W P Q R HB HP_P HP_Q HP_R L_P L_Q L_R N_P_Q N_P_R N_Q_P N_Q_R N_R_P N_R_Q hHeld
      refine wpAnyH_ready (rs := [11]) (by kernel_rfl) (by simp) ?_
      refine AllReadyH.cons rfl (fun K hK => ?_) (AllReadyH.nil)
      · skip
        go_simp
        ((go_at_call 10; (first | (with_reducible refine (small2_as x y X Y _ hx hy EX EY).mono ?_) | (with_reducible refine (small2_as u v U V _ hu hv EU EV).mono ?_) | (with_reducible refine (small2_as s t S T _ hs ht ES ET).mono ?_)); rintro e z ⟨rfl, hb⟩))
        replace HP_P := Hk.mk (HP_P.out.below hb)
        replace HP_Q := Hk.mk (HP_Q.out.below hb)
        replace HP_R := Hk.mk (HP_R.out.below hb)
        replace HB := Hk.mk (kw_step HB.out L0V hb)
        clear hb
        refine hK.out _ _ ?_ (fun hHeld2 => ?_)
        · exact kw_s HB.out
        clear hK K hHeld
        have hHeld := hHeld2
        clear hHeld2
        (try simp only [Act.put, List.getElem_toArray, List.getElem_cons_succ, List.getElem_cons_zero, List.setIfInBounds_toArray, List.set_cons_zero, List.set_cons_succ])
        refine reg_cast (l' := #[true, true, true, true, true, true, true, true, true, true, true, true, true, true, true, true, true, true, false, true, true, true, false, false, false]) (by kernel_rfl) ?_
        revert hHeld
        revert N_R_Q
        revert N_R_P
        revert N_Q_R
        revert N_Q_P
        revert N_P_R
        revert N_P_Q
        revert L_R
        revert L_Q
        revert L_P
        revert HP_R
        revert HP_Q
        revert HP_P
        revert HB
        revert R
        revert Q
        revert P
        revert z
        exact HG30.out
      intro W P Q HB HP_P HP_Q L_P L_Q N_P_Q N_Q_P hHeld
      refine wpAnyH_ready (rs := [21]) (by kernel_rfl) (by simp) ?_
      refine AllReadyH.cons rfl (fun K hK => ?_) (AllReadyH.nil)
      · skip
        go_simp
        have N_P_R := HP_P.out.ne
        have N_R_P := HP_P.out.ne'
        have N_Q_R := HP_Q.out.ne
        have N_R_Q := HP_Q.out.ne'
        have L_R := kw_le HB.out L0V
        replace HP_P := Hk.mk (HP_P.out.al (.cells #[.int .i64 0, .int .i64 0] 24))
        replace HP_Q := Hk.mk (HP_Q.out.al (.cells #[.int .i64 0, .int .i64 0] 24))
        have HP_R : Hk (Bk _ _ #[.int .i64 0, .int .i64 0]) := ⟨Bk.new W #[.int .i64 0, .int .i64 0] 24⟩
        replace HB := Hk.mk (kw_al HB.out L0V (.cells #[.int .i64 0, .int .i64 0] 24))
        refine hK.out _ _ ?_ (fun hHeld2 => ?_)
        · exact kw_s HB.out
        clear hK K hHeld
        have hHeld := hHeld2
        clear hHeld2
        (try simp only [Act.put, List.getElem_toArray, List.getElem_cons_succ, List.getElem_cons_zero, List.setIfInBounds_toArray, List.set_cons_zero, List.set_cons_succ])
        generalize W.heap.size = R at *
        generalize W.alloc (.cells #[.int .i64 0, .int .i64 0] 24) = W2 at *
        refine reg_cast (l' := #[true, true, true, true, true, true, true, true, true, true, true, true, true, true, true, true, true, true, true, true, true, true, false, false, false]) (by kernel_rfl) ?_
        revert hHeld
        revert N_R_Q
        revert N_R_P
        revert N_Q_R
        revert N_Q_P
        revert N_P_R
        revert N_P_Q
        revert L_R
        revert L_Q
        revert L_P
        revert HP_R
        revert HP_Q
        revert HP_P
        revert HB
        revert R
        revert Q
        revert P
        revert W2
        exact HG31.out
      intro W P R HB HP_P HP_R L_P L_R N_P_R N_R_P hHeld
      refine wpAnyH_ready (rs := [20]) (by kernel_rfl) (by simp) ?_
      refine AllReadyH.cons rfl (fun K hK => ?_) (AllReadyH.nil)
      · skip
        go_simp
        have N_P_Q := HP_P.out.ne
        have N_Q_P := HP_P.out.ne'
        have N_R_Q := HP_R.out.ne
        have N_Q_R := HP_R.out.ne'
        have L_Q := kw_le HB.out L0V
        replace HP_P := Hk.mk (HP_P.out.al (.cells #[.int .i64 0, .int .i64 0] 24))
        replace HP_R := Hk.mk (HP_R.out.al (.cells #[.int .i64 0, .int .i64 0] 24))
        have HP_Q : Hk (Bk _ _ #[.int .i64 0, .int .i64 0]) := ⟨Bk.new W #[.int .i64 0, .int .i64 0] 24⟩
        replace HB := Hk.mk (kw_al HB.out L0V (.cells #[.int .i64 0, .int .i64 0] 24))
        refine hK.out _ _ ?_ (fun hHeld2 => ?_)
        · exact kw_s HB.out
        clear hK K hHeld
        have hHeld := hHeld2
        clear hHeld2
        (try simp only [Act.put, List.getElem_toArray, List.getElem_cons_succ, List.getElem_cons_zero, List.setIfInBounds_toArray, List.set_cons_zero, List.set_cons_succ])
        generalize W.heap.size = Q at *
        generalize W.alloc (.cells #[.int .i64 0, .int .i64 0] 24) = W2 at *
        refine reg_cast (l' := #[true, true, true, true, true, true, true, true, true, true, true, true, true, true, true, true, true, true, true, true, true, true, false, false, false]) (by kernel_rfl) ?_
        revert hHeld
        revert N_R_Q
        revert N_R_P
        revert N_Q_R
        revert N_Q_P
        revert N_P_R
        revert N_P_Q
        revert L_R
        revert L_Q
        revert L_P
        revert HP_R
        revert HP_Q
        revert HP_P
        revert HB
        revert R
        revert Q
        revert P
        revert W2
        exact HG31.out
      intro W Q R HB HP_Q HP_R L_Q L_R N_Q_R N_R_Q hHeld
      refine wpAnyH_ready (rs := [19]) (by kernel_rfl) (by simp) ?_
      refine AllReadyH.cons rfl (fun K hK => ?_) (AllReadyH.nil)
      · skip
        go_simp
        have N_Q_P := HP_Q.out.ne
        have N_P_Q := HP_Q.out.ne'
        have N_R_P := HP_R.out.ne
        have N_P_R := HP_R.out.ne'
        have L_P := kw_le HB.out L0V
        replace HP_Q := Hk.mk (HP_Q.out.al (.cells #[.int .i64 0, .int .i64 0] 24))
        replace HP_R := Hk.mk (HP_R.out.al (.cells #[.int .i64 0, .int .i64 0] 24))
        have HP_P : Hk (Bk _ _ #[.int .i64 0, .int .i64 0]) := ⟨Bk.new W #[.int .i64 0, .int .i64 0] 24⟩
        replace HB := Hk.mk (kw_al HB.out L0V (.cells #[.int .i64 0, .int .i64 0] 24))
        refine hK.out _ _ ?_ (fun hHeld2 => ?_)
        · exact kw_s HB.out
        clear hK K hHeld
        have hHeld := hHeld2
        clear hHeld2
        (try simp only [Act.put, List.getElem_toArray, List.getElem_cons_succ, List.getElem_cons_zero, List.setIfInBounds_toArray, List.set_cons_zero, List.set_cons_succ])
        generalize W.heap.size = P at *
        generalize W.alloc (.cells #[.int .i64 0, .int .i64 0] 24) = W2 at *
        refine reg_cast (l' := #[true, true, true, true, true, true, true, true, true, true, true, true, true, true, true, true, true, true, true, true, true, true, false, false, false]) (by kernel_rfl) ?_
        revert hHeld
        revert N_R_Q
        revert N_R_P
        revert N_Q_R
        revert N_Q_P
        revert N_P_R
        revert N_P_Q
        revert L_R
        revert L_Q
        revert L_P
        revert HP_R
        revert HP_Q
        revert HP_P
        revert HB
        revert R
        revert Q
        revert P
        revert W2
        exact HG31.out
      intro W P Q R HB HP_P HP_Q HP_R L_P L_Q L_R N_P_Q N_P_R N_Q_P N_Q_R N_R_P N_R_Q hHeld
      refine wpAnyH_ready (rs := [18]) (by kernel_rfl) (by simp) ?_
      refine AllReadyH.cons rfl (fun K hK => ?_) (AllReadyH.nil)
      · skip
        go_simp
        ((go_at_call 10; (first | (with_reducible refine (small2_as x y X Y _ hx hy EX EY).mono ?_) | (with_reducible refine (small2_as u v U V _ hu hv EU EV).mono ?_) | (with_reducible refine (small2_as s t S T _ hs ht ES ET).mono ?_)); rintro e z ⟨rfl, hb⟩))
        replace HP_P := Hk.mk (HP_P.out.below hb)
        replace HP_Q := Hk.mk (HP_Q.out.below hb)
        replace HP_R := Hk.mk (HP_R.out.below hb)
        replace HB := Hk.mk (kw_step HB.out L0V hb)
        clear hb
        refine hK.out _ _ ?_ (fun hHeld2 => ?_)
        · exact kw_s HB.out
        clear hK K hHeld
        have hHeld := hHeld2
        clear hHeld2
        (try simp only [Act.put, List.getElem_toArray, List.getElem_cons_succ, List.getElem_cons_zero, List.setIfInBounds_toArray, List.set_cons_zero, List.set_cons_succ])
        refine reg_cast (l' := #[true, true, true, true, true, true, true, true, true, true, true, true, true, true, true, true, true, true, true, true, true, true, false, false, false]) (by kernel_rfl) ?_
        revert hHeld
        revert N_R_Q
        revert N_R_P
        revert N_Q_R
        revert N_Q_P
        revert N_P_R
        revert N_P_Q
        revert L_R
        revert L_Q
        revert L_P
        revert HP_R
        revert HP_Q
        revert HP_P
        revert HB
        revert R
        revert Q
        revert P
        revert z
        exact HG31.out
      intro W P Q R HB HP_P HP_Q HP_R L_P L_Q L_R N_P_Q N_P_R N_Q_P N_Q_R N_R_P N_R_Q hHeld
      refine wpAnyH_ready (rs := [22]) (by kernel_rfl) (by simp) ?_
      refine AllReadyH.cons rfl (fun K hK => ?_) (AllReadyH.nil)
      · skip
        have st_c0 : W.cell? ⟨P, 0, none⟩ = some (.int .i64 0) := HP_P.out.c 0
        have st_f0 : W.frozen? ⟨P, 0, none⟩ = false := HP_P.out.f 0
        have st_c1 : W.cell? ⟨P, 1, none⟩ = some (.int .i64 0) := HP_P.out.c 1
        have st_f1 : W.frozen? ⟨P, 1, none⟩ = false := HP_P.out.f 1
        go_simp
        clear st_c0 st_f0
        clear st_c1 st_f1
        replace HP_P : Hk (Bk _ P #[.int .i64 X, .int .i64 Y]) := ⟨(Bk.set ((Bk.set (HP_P.out) 0 (.int .i64 X))) 1 (.int .i64 Y))⟩
        replace HP_Q := Hk.mk (Bk.oth ((Bk.oth (HP_Q.out) N_Q_P 0 (.int .i64 X))) N_Q_P 1 (.int .i64 Y))
        replace HP_R := Hk.mk (Bk.oth ((Bk.oth (HP_R.out) N_R_P 0 (.int .i64 X))) N_R_P 1 (.int .i64 Y))
        replace HB := Hk.mk (Below.setCell (p := ⟨P, 1, none⟩) ((Below.setCell (p := ⟨P, 0, none⟩) (HB.out) L_P (.int .i64 X))) L_P (.int .i64 Y))
        refine hK.out _ _ ?_ (fun hHeld2 => ?_)
        · exact kw_s HB.out
        clear hK K hHeld
        have hHeld := hHeld2
        clear hHeld2
        (try simp only [Act.put, List.getElem_toArray, List.getElem_cons_succ, List.getElem_cons_zero, List.setIfInBounds_toArray, List.set_cons_zero, List.set_cons_succ])
        generalize (World.setCell (World.setCell W ⟨P, 0, none⟩ (.int .i64 X)) ⟨P, 1, none⟩ (.int .i64 Y)) = W2 at *
        refine reg_cast (l' := #[true, true, true, true, true, true, true, true, true, true, true, true, true, true, true, true, true, true, true, true, true, true, true, false, false]) (by kernel_rfl) ?_
        revert hHeld
        revert N_R_Q
        revert N_R_P
        revert N_Q_R
        revert N_Q_P
        revert N_P_R
        revert N_P_Q
        revert L_R
        revert L_Q
        revert L_P
        revert HP_R
        revert HP_Q
        revert HP_P
        revert HB
        revert R
        revert Q
        revert P
        revert W2
        exact HG32.out
      intro W P Q R HB HP_P HP_Q HP_R L_P L_Q L_R N_P_Q N_P_R N_Q_P N_Q_R N_R_P N_R_Q hHeld
      refine wpAnyH_ready (rs := [23]) (by kernel_rfl) (by simp) ?_
      refine AllReadyH.cons rfl (fun K hK => ?_) (AllReadyH.nil)
      · skip
        have st_c0 : W.cell? ⟨Q, 0, none⟩ = some (.int .i64 0) := HP_Q.out.c 0
        have st_f0 : W.frozen? ⟨Q, 0, none⟩ = false := HP_Q.out.f 0
        have st_c1 : W.cell? ⟨Q, 1, none⟩ = some (.int .i64 0) := HP_Q.out.c 1
        have st_f1 : W.frozen? ⟨Q, 1, none⟩ = false := HP_Q.out.f 1
        go_simp
        clear st_c0 st_f0
        clear st_c1 st_f1
        replace HP_P := Hk.mk (Bk.oth ((Bk.oth (HP_P.out) N_P_Q 0 (.int .i64 U))) N_P_Q 1 (.int .i64 V))
        replace HP_Q : Hk (Bk _ Q #[.int .i64 U, .int .i64 V]) := ⟨(Bk.set ((Bk.set (HP_Q.out) 0 (.int .i64 U))) 1 (.int .i64 V))⟩
        replace HP_R := Hk.mk (Bk.oth ((Bk.oth (HP_R.out) N_R_Q 0 (.int .i64 U))) N_R_Q 1 (.int .i64 V))
        replace HB := Hk.mk (Below.setCell (p := ⟨Q, 1, none⟩) ((Below.setCell (p := ⟨Q, 0, none⟩) (HB.out) L_Q (.int .i64 U))) L_Q (.int .i64 V))
        refine hK.out _ _ ?_ (fun hHeld2 => ?_)
        · exact kw_s HB.out
        clear hK K hHeld
        have hHeld := hHeld2
        clear hHeld2
        (try simp only [Act.put, List.getElem_toArray, List.getElem_cons_succ, List.getElem_cons_zero, List.setIfInBounds_toArray, List.set_cons_zero, List.set_cons_succ])
        generalize (World.setCell (World.setCell W ⟨Q, 0, none⟩ (.int .i64 U)) ⟨Q, 1, none⟩ (.int .i64 V)) = W2 at *
        refine reg_cast (l' := #[true, true, true, true, true, true, true, true, true, true, true, true, true, true, true, true, true, true, true, true, true, true, true, true, false]) (by kernel_rfl) ?_
        revert hHeld
        revert N_R_Q
        revert N_R_P
        revert N_Q_R
        revert N_Q_P
        revert N_P_R
        revert N_P_Q
        revert L_R
        revert L_Q
        revert L_P
        revert HP_R
        revert HP_Q
        revert HP_P
        revert HB
        revert R
        revert Q
        revert P
        revert W2
        exact HG33.out
      intro W P Q R HB HP_P HP_Q HP_R L_P L_Q L_R N_P_Q N_P_R N_Q_P N_Q_R N_R_P N_R_Q hHeld
      refine wpAnyH_ready (rs := [24]) (by kernel_rfl) (by simp) ?_
      refine AllReadyH.cons rfl (fun K hK => ?_) (AllReadyH.nil)
      · skip
        have st_c0 : W.cell? ⟨R, 0, none⟩ = some (.int .i64 0) := HP_R.out.c 0
        have st_f0 : W.frozen? ⟨R, 0, none⟩ = false := HP_R.out.f 0
        have st_c1 : W.cell? ⟨R, 1, none⟩ = some (.int .i64 0) := HP_R.out.c 1
        have st_f1 : W.frozen? ⟨R, 1, none⟩ = false := HP_R.out.f 1
        go_simp
        clear st_c0 st_f0
        clear st_c1 st_f1
        replace HP_P := Hk.mk (Bk.oth ((Bk.oth (HP_P.out) N_P_R 0 (.int .i64 S))) N_P_R 1 (.int .i64 T))
        replace HP_Q := Hk.mk (Bk.oth ((Bk.oth (HP_Q.out) N_Q_R 0 (.int .i64 S))) N_Q_R 1 (.int .i64 T))
        replace HP_R : Hk (Bk _ R #[.int .i64 S, .int .i64 T]) := ⟨(Bk.set ((Bk.set (HP_R.out) 0 (.int .i64 S))) 1 (.int .i64 T))⟩
        replace HB := Hk.mk (Below.setCell (p := ⟨R, 1, none⟩) ((Below.setCell (p := ⟨R, 0, none⟩) (HB.out) L_R (.int .i64 S))) L_R (.int .i64 T))
        refine hK.out _ _ ?_ (fun hHeld2 => ?_)
        · exact kw_s HB.out
        clear hK K hHeld
        have hHeld := hHeld2
        clear hHeld2
        (try simp only [Act.put, List.getElem_toArray, List.getElem_cons_succ, List.getElem_cons_zero, List.setIfInBounds_toArray, List.set_cons_zero, List.set_cons_succ])
        generalize (World.setCell (World.setCell W ⟨R, 0, none⟩ (.int .i64 S)) ⟨R, 1, none⟩ (.int .i64 T)) = W2 at *
        refine reg_cast (l' := #[true, true, true, true, true, true, true, true, true, true, true, true, true, true, true, true, true, true, true, true, true, true, true, true, true]) (by kernel_rfl) ?_
        revert hHeld
        revert N_R_Q
        revert N_R_P
        revert N_Q_R
        revert N_Q_P
        revert N_P_R
        revert N_P_Q
        revert L_R
        revert L_Q
        revert L_P
        revert HP_R
        revert HP_Q
        revert HP_P
        revert HB
        revert R
        revert Q
        revert P
        revert W2
        exact HG34.out
      intro W P Q R HB HP_P HP_Q HP_R L_P L_Q L_R N_P_Q N_P_R N_Q_P N_Q_R N_R_P N_R_Q hHeld
      refine wpAnyH_done (by kernel_rfl) ?_ _
      have e0 : W.cell? ⟨P, 0, none⟩ = some (.int .i64 X) := HP_P.out.c 0
      have e1 : W.cell? ⟨P, 1, none⟩ = some (.int .i64 Y) := HP_P.out.c 1
      have e2 : W.cell? ⟨Q, 0, none⟩ = some (.int .i64 U) := HP_Q.out.c 0
      have e3 : W.cell? ⟨Q, 1, none⟩ = some (.int .i64 V) := HP_Q.out.c 1
      have e4 : W.cell? ⟨R, 0, none⟩ = some (.int .i64 S) := HP_R.out.c 0
      have e5 : W.cell? ⟨R, 1, none⟩ = some (.int .i64 T) := HP_R.out.c 1
      have bP := HP_P.out.lt
      have bQ := HP_Q.out.lt
      have bR := HP_R.out.lt
      have e6 := (kw_s HB.out _ (off' + k * 5 + 4) hbw).trans d4
      have bW : b' < W.heap.size := Nat.lt_of_lt_of_le hbw HB.out.size
      have HW2 := Hk.mk (kw_step HW.out (Nat.le_refl _) HB.out)
      clear d0 d1' d2' d3' d4 d5 d6 HB HP_P HP_Q HP_R hHeld HW N_P_Q N_P_R N_Q_P N_Q_R N_R_P N_R_Q L_P L_Q L_R w1 w2 EX EY EU EV ES ET hbw
      have iX := nX.i64
      have iY := nY.i64
      have iU := nU.i64
      have iV := nV.i64
      have iS := nS.i64
      have iT := nT.i64
      have tri := Fx.near_triangle nX nY nU nV nS nT
      obtain ⟨bd1, bd2⟩ := Fx.near_lens nX nY nU nV
      obtain ⟨bd3, bd4⟩ := Fx.near_lens nX nY nS nT
      obtain ⟨bd5, bd6⟩ := Fx.near_lens nS nT nU nV
      have swp := Fx.within_swap (r := r) nX nY nU nV
      have win : 0 < r → Fx.withinS X Y U V r = decide (Fx.lenS (Fx.subS X U) (Fx.subS Y V) < r) := fun h => Fx.within_len nX nY nU nV h
      have j1 := Fx.sub_i64 X U
      have j2 := Fx.sub_i64 Y V
      have j3 := Fx.sub_i64 X S
      have j4 := Fx.sub_i64 Y T
      have j5 := Fx.sub_i64 S U
      have j6 := Fx.sub_i64 T V
      obtain ⟨d1, q1⟩ : ∃ d, Fx.subS X U = d := ⟨_, rfl⟩
      obtain ⟨f1, q2⟩ : ∃ d, Fx.subS Y V = d := ⟨_, rfl⟩
      obtain ⟨d2, q3⟩ : ∃ d, Fx.subS X S = d := ⟨_, rfl⟩
      obtain ⟨f2, q4⟩ : ∃ d, Fx.subS Y T = d := ⟨_, rfl⟩
      obtain ⟨d3, q5⟩ : ∃ d, Fx.subS S U = d := ⟨_, rfl⟩
      obtain ⟨f3, q6⟩ : ∃ d, Fx.subS T V = d := ⟨_, rfl⟩
      rw [q1] at j1 tri bd1 bd2 win
      rw [q2] at j2 tri bd1 bd2 win
      rw [q3] at j3 tri bd3 bd4
      rw [q4] at j4 tri bd3 bd4
      rw [q5] at j5 tri bd5 bd6
      rw [q6] at j6 tri bd5 bd6
      obtain ⟨l1, q7⟩ : ∃ d, Fx.lenS d1 f1 = d := ⟨_, rfl⟩
      obtain ⟨l2, q8⟩ : ∃ d, Fx.lenS d2 f2 = d := ⟨_, rfl⟩
      obtain ⟨l3, q9⟩ : ∃ d, Fx.lenS d3 f3 = d := ⟨_, rfl⟩
      rw [q7] at tri bd1 bd2 win
      rw [q8] at tri bd3 bd4
      rw [q9] at tri bd5 bd6
      replace q1 := Fx.Hd.mk q1
      replace q2 := Fx.Hd.mk q2
      replace q3 := Fx.Hd.mk q3
      replace q4 := Fx.Hd.mk q4
      replace q5 := Fx.Hd.mk q5
      replace q6 := Fx.Hd.mk q6
      replace q7 := Fx.Hd.mk q7
      replace q8 := Fx.Hd.mk q8
      replace q9 := Fx.Hd.mk q9
      have WIN := Hk.mk win
      have SWP := Hk.mk swp
      clear win swp nX nY nU nV nS nT
      have HB : Hk (Below W.heap.size W W) := ⟨Below.refl _ _⟩
      obtain ⟨hc, hf, hl', hn', hm'⟩ := kw_rules HB.out (Nat.le_refl _)
      go_upto_region 5 with (fail)
      refine wp_region_held_drew (S := (fun Z => (∀ b o, b < W.heap.size → Z.cell? ⟨b, o, none⟩ = W.cell? ⟨b, o, none⟩) ∧ Below W.heap.size W Z)) (by kernel_rfl) ?_ (fun hHeld => ?_)
      · exact kw_S (kw_drew HB.out)
      refine wpAnyH_take (i := 0) (v := ?_) rfl (by kernel_rfl) (by kernel_rfl) (by kernel_rfl) (fun _ _ _ h => h) (Or.inl ⟨by rfl, fun wX hSw => ?_⟩) (by assumption) ?_
      rotate_left
      · (try dsimp only at hSw); go_simp; try with_reducible rfl
      (try simp only [Act.put, List.getElem_toArray, List.getElem_cons_succ, List.getElem_cons_zero, List.setIfInBounds_toArray, List.set_cons_zero, List.set_cons_succ])
      refine wpAnyH_take (i := 1) (v := ?_) rfl (by kernel_rfl) (by kernel_rfl) (by kernel_rfl) (fun _ _ _ h => h) (Or.inl ⟨by rfl, fun wX hSw => ?_⟩) (by assumption) ?_
      rotate_left
      · (try dsimp only at hSw); go_simp; try with_reducible rfl
      (try simp only [Act.put, List.getElem_toArray, List.getElem_cons_succ, List.getElem_cons_zero, List.setIfInBounds_toArray, List.set_cons_zero, List.set_cons_succ])
      refine wpAnyH_take (i := 4) (v := ?_) rfl (by kernel_rfl) (by kernel_rfl) (by kernel_rfl) (fun _ _ _ h => h) (Or.inl ⟨by rfl, fun wX hSw => ?_⟩) (by assumption) ?_
      rotate_left
      · (try dsimp only at hSw); go_simp; try with_reducible rfl
      (try simp only [Act.put, List.getElem_toArray, List.getElem_cons_succ, List.getElem_cons_zero, List.setIfInBounds_toArray, List.set_cons_zero, List.set_cons_succ])
      refine wpAnyH_take (i := 5) (v := ?_) rfl (by kernel_rfl) (by kernel_rfl) (by kernel_rfl) (fun _ _ _ h => h) (Or.inl ⟨by rfl, fun wX hSw => ?_⟩) (by assumption) ?_
      rotate_left
      · (try dsimp only at hSw); go_simp; try with_reducible rfl
      (try simp only [Act.put, List.getElem_toArray, List.getElem_cons_succ, List.getElem_cons_zero, List.setIfInBounds_toArray, List.set_cons_zero, List.set_cons_succ])
      refine wpAnyH_take (i := 8) (v := ?_) rfl (by kernel_rfl) (by kernel_rfl) (by kernel_rfl) (fun _ _ _ h => h) (Or.inl ⟨by rfl, fun wX hSw => ?_⟩) (by assumption) ?_
      rotate_left
      · (try dsimp only at hSw); go_simp; try with_reducible rfl
      (try simp only [Act.put, List.getElem_toArray, List.getElem_cons_succ, List.getElem_cons_zero, List.setIfInBounds_toArray, List.set_cons_zero, List.set_cons_succ])
      refine wpAnyH_take (i := 9) (v := ?_) rfl (by kernel_rfl) (by kernel_rfl) (by kernel_rfl) (fun _ _ _ h => h) (Or.inl ⟨by rfl, fun wX hSw => ?_⟩) (by assumption) ?_
      rotate_left
      · (try dsimp only at hSw); go_simp; try with_reducible rfl
      (try simp only [Act.put, List.getElem_toArray, List.getElem_cons_succ, List.getElem_cons_zero, List.setIfInBounds_toArray, List.set_cons_zero, List.set_cons_succ])
      refine wpAnyH_ready (rs := [2]) (by kernel_rfl) (by simp) ?_
      refine AllReadyH.cons rfl (fun K hK => ?_) (AllReadyH.nil)
      go_simp
      (first
      | (go_at_call 11; (first | (with_reducible refine (vsub2_as X Y U V d1 f1 _ iX iY iU iV q1 q2).mono ?_) | (with_reducible refine (vsub2_as X Y S T d2 f2 _ iX iY iS iT q3 q4).mono ?_) | (with_reducible refine (vsub2_as S T U V d3 f3 _ iS iT iU iV q5 q6).mono ?_)); rintro e z ⟨rfl, hb⟩; have hB2 : Hk (Below W.heap.size W z) := ⟨by first | exact kw_step HB.out (Nat.le_refl _) hb | exact kw_step HB.out.drew (Nat.le_refl _) hb⟩; clear hb; replace HB := hB2; clear hB2; clear hc hf hl' hn' hm'; obtain ⟨hc, hf, hl', hn', hm'⟩ := kw_rules HB.out (Nat.le_refl _))
      | (go_at_call 8; (first | (with_reducible refine (len_as d1 f1 l1 _ j1 j2 q7).mono ?_) | (with_reducible refine (len_as d2 f2 l2 _ j3 j4 q8).mono ?_) | (with_reducible refine (len_as d3 f3 l3 _ j5 j6 q9).mono ?_)); rintro e z ⟨rfl, hb⟩; have hB2 : Hk (Below W.heap.size W z) := ⟨by first | exact kw_step HB.out (Nat.le_refl _) hb | exact kw_step HB.out.drew (Nat.le_refl _) hb⟩; clear hb; replace HB := hB2; clear hB2; clear hc hf hl' hn' hm'; obtain ⟨hc, hf, hl', hn', hm'⟩ := kw_rules HB.out (Nat.le_refl _)))
      refine hK.out _ _ ?_ (fun hHeld => ?_)
      · exact kw_S HB.out
      clear hK K
      (try simp only [Act.put, List.getElem_toArray, List.getElem_cons_succ, List.getElem_cons_zero, List.setIfInBounds_toArray, List.set_cons_zero, List.set_cons_succ])
      refine wpAnyH_ready (rs := [3]) (by kernel_rfl) (by simp) ?_
      refine AllReadyH.cons rfl (fun K hK => ?_) (AllReadyH.nil)
      go_simp
      (first
      | (go_at_call 11; (first | (with_reducible refine (vsub2_as X Y U V d1 f1 _ iX iY iU iV q1 q2).mono ?_) | (with_reducible refine (vsub2_as X Y S T d2 f2 _ iX iY iS iT q3 q4).mono ?_) | (with_reducible refine (vsub2_as S T U V d3 f3 _ iS iT iU iV q5 q6).mono ?_)); rintro e z ⟨rfl, hb⟩; have hB2 : Hk (Below W.heap.size W z) := ⟨by first | exact kw_step HB.out (Nat.le_refl _) hb | exact kw_step HB.out.drew (Nat.le_refl _) hb⟩; clear hb; replace HB := hB2; clear hB2; clear hc hf hl' hn' hm'; obtain ⟨hc, hf, hl', hn', hm'⟩ := kw_rules HB.out (Nat.le_refl _))
      | (go_at_call 8; (first | (with_reducible refine (len_as d1 f1 l1 _ j1 j2 q7).mono ?_) | (with_reducible refine (len_as d2 f2 l2 _ j3 j4 q8).mono ?_) | (with_reducible refine (len_as d3 f3 l3 _ j5 j6 q9).mono ?_)); rintro e z ⟨rfl, hb⟩; have hB2 : Hk (Below W.heap.size W z) := ⟨by first | exact kw_step HB.out (Nat.le_refl _) hb | exact kw_step HB.out.drew (Nat.le_refl _) hb⟩; clear hb; replace HB := hB2; clear hB2; clear hc hf hl' hn' hm'; obtain ⟨hc, hf, hl', hn', hm'⟩ := kw_rules HB.out (Nat.le_refl _)))
      refine hK.out _ _ ?_ (fun hHeld => ?_)
      · exact kw_S HB.out
      clear hK K
      (try simp only [Act.put, List.getElem_toArray, List.getElem_cons_succ, List.getElem_cons_zero, List.setIfInBounds_toArray, List.set_cons_zero, List.set_cons_succ])
      refine wpAnyH_ready (rs := [6]) (by kernel_rfl) (by simp) ?_
      refine AllReadyH.cons rfl (fun K hK => ?_) (AllReadyH.nil)
      go_simp
      (first
      | (go_at_call 11; (first | (with_reducible refine (vsub2_as X Y U V d1 f1 _ iX iY iU iV q1 q2).mono ?_) | (with_reducible refine (vsub2_as X Y S T d2 f2 _ iX iY iS iT q3 q4).mono ?_) | (with_reducible refine (vsub2_as S T U V d3 f3 _ iS iT iU iV q5 q6).mono ?_)); rintro e z ⟨rfl, hb⟩; have hB2 : Hk (Below W.heap.size W z) := ⟨by first | exact kw_step HB.out (Nat.le_refl _) hb | exact kw_step HB.out.drew (Nat.le_refl _) hb⟩; clear hb; replace HB := hB2; clear hB2; clear hc hf hl' hn' hm'; obtain ⟨hc, hf, hl', hn', hm'⟩ := kw_rules HB.out (Nat.le_refl _))
      | (go_at_call 8; (first | (with_reducible refine (len_as d1 f1 l1 _ j1 j2 q7).mono ?_) | (with_reducible refine (len_as d2 f2 l2 _ j3 j4 q8).mono ?_) | (with_reducible refine (len_as d3 f3 l3 _ j5 j6 q9).mono ?_)); rintro e z ⟨rfl, hb⟩; have hB2 : Hk (Below W.heap.size W z) := ⟨by first | exact kw_step HB.out (Nat.le_refl _) hb | exact kw_step HB.out.drew (Nat.le_refl _) hb⟩; clear hb; replace HB := hB2; clear hB2; clear hc hf hl' hn' hm'; obtain ⟨hc, hf, hl', hn', hm'⟩ := kw_rules HB.out (Nat.le_refl _)))
      refine hK.out _ _ ?_ (fun hHeld => ?_)
      · exact kw_S HB.out
      clear hK K
      (try simp only [Act.put, List.getElem_toArray, List.getElem_cons_succ, List.getElem_cons_zero, List.setIfInBounds_toArray, List.set_cons_zero, List.set_cons_succ])
      refine wpAnyH_ready (rs := [7]) (by kernel_rfl) (by simp) ?_
      refine AllReadyH.cons rfl (fun K hK => ?_) (AllReadyH.nil)
      go_simp
      (first
      | (go_at_call 11; (first | (with_reducible refine (vsub2_as X Y U V d1 f1 _ iX iY iU iV q1 q2).mono ?_) | (with_reducible refine (vsub2_as X Y S T d2 f2 _ iX iY iS iT q3 q4).mono ?_) | (with_reducible refine (vsub2_as S T U V d3 f3 _ iS iT iU iV q5 q6).mono ?_)); rintro e z ⟨rfl, hb⟩; have hB2 : Hk (Below W.heap.size W z) := ⟨by first | exact kw_step HB.out (Nat.le_refl _) hb | exact kw_step HB.out.drew (Nat.le_refl _) hb⟩; clear hb; replace HB := hB2; clear hB2; clear hc hf hl' hn' hm'; obtain ⟨hc, hf, hl', hn', hm'⟩ := kw_rules HB.out (Nat.le_refl _))
      | (go_at_call 8; (first | (with_reducible refine (len_as d1 f1 l1 _ j1 j2 q7).mono ?_) | (with_reducible refine (len_as d2 f2 l2 _ j3 j4 q8).mono ?_) | (with_reducible refine (len_as d3 f3 l3 _ j5 j6 q9).mono ?_)); rintro e z ⟨rfl, hb⟩; have hB2 : Hk (Below W.heap.size W z) := ⟨by first | exact kw_step HB.out (Nat.le_refl _) hb | exact kw_step HB.out.drew (Nat.le_refl _) hb⟩; clear hb; replace HB := hB2; clear hB2; clear hc hf hl' hn' hm'; obtain ⟨hc, hf, hl', hn', hm'⟩ := kw_rules HB.out (Nat.le_refl _)))
      refine hK.out _ _ ?_ (fun hHeld => ?_)
      · exact kw_S HB.out
      clear hK K
      (try simp only [Act.put, List.getElem_toArray, List.getElem_cons_succ, List.getElem_cons_zero, List.setIfInBounds_toArray, List.set_cons_zero, List.set_cons_succ])
      refine wpAnyH_ready (rs := [10]) (by kernel_rfl) (by simp) ?_
      refine AllReadyH.cons rfl (fun K hK => ?_) (AllReadyH.nil)
      go_simp
      (first
      | (go_at_call 11; (first | (with_reducible refine (vsub2_as X Y U V d1 f1 _ iX iY iU iV q1 q2).mono ?_) | (with_reducible refine (vsub2_as X Y S T d2 f2 _ iX iY iS iT q3 q4).mono ?_) | (with_reducible refine (vsub2_as S T U V d3 f3 _ iS iT iU iV q5 q6).mono ?_)); rintro e z ⟨rfl, hb⟩; have hB2 : Hk (Below W.heap.size W z) := ⟨by first | exact kw_step HB.out (Nat.le_refl _) hb | exact kw_step HB.out.drew (Nat.le_refl _) hb⟩; clear hb; replace HB := hB2; clear hB2; clear hc hf hl' hn' hm'; obtain ⟨hc, hf, hl', hn', hm'⟩ := kw_rules HB.out (Nat.le_refl _))
      | (go_at_call 8; (first | (with_reducible refine (len_as d1 f1 l1 _ j1 j2 q7).mono ?_) | (with_reducible refine (len_as d2 f2 l2 _ j3 j4 q8).mono ?_) | (with_reducible refine (len_as d3 f3 l3 _ j5 j6 q9).mono ?_)); rintro e z ⟨rfl, hb⟩; have hB2 : Hk (Below W.heap.size W z) := ⟨by first | exact kw_step HB.out (Nat.le_refl _) hb | exact kw_step HB.out.drew (Nat.le_refl _) hb⟩; clear hb; replace HB := hB2; clear hB2; clear hc hf hl' hn' hm'; obtain ⟨hc, hf, hl', hn', hm'⟩ := kw_rules HB.out (Nat.le_refl _)))
      refine hK.out _ _ ?_ (fun hHeld => ?_)
      · exact kw_S HB.out
      clear hK K
      (try simp only [Act.put, List.getElem_toArray, List.getElem_cons_succ, List.getElem_cons_zero, List.setIfInBounds_toArray, List.set_cons_zero, List.set_cons_succ])
      refine wpAnyH_ready (rs := [11]) (by kernel_rfl) (by simp) ?_
      refine AllReadyH.cons rfl (fun K hK => ?_) (AllReadyH.nil)
      go_simp
      (first
      | (go_at_call 11; (first | (with_reducible refine (vsub2_as X Y U V d1 f1 _ iX iY iU iV q1 q2).mono ?_) | (with_reducible refine (vsub2_as X Y S T d2 f2 _ iX iY iS iT q3 q4).mono ?_) | (with_reducible refine (vsub2_as S T U V d3 f3 _ iS iT iU iV q5 q6).mono ?_)); rintro e z ⟨rfl, hb⟩; have hB2 : Hk (Below W.heap.size W z) := ⟨by first | exact kw_step HB.out (Nat.le_refl _) hb | exact kw_step HB.out.drew (Nat.le_refl _) hb⟩; clear hb; replace HB := hB2; clear hB2; clear hc hf hl' hn' hm'; obtain ⟨hc, hf, hl', hn', hm'⟩ := kw_rules HB.out (Nat.le_refl _))
      | (go_at_call 8; (first | (with_reducible refine (len_as d1 f1 l1 _ j1 j2 q7).mono ?_) | (with_reducible refine (len_as d2 f2 l2 _ j3 j4 q8).mono ?_) | (with_reducible refine (len_as d3 f3 l3 _ j5 j6 q9).mono ?_)); rintro e z ⟨rfl, hb⟩; have hB2 : Hk (Below W.heap.size W z) := ⟨by first | exact kw_step HB.out (Nat.le_refl _) hb | exact kw_step HB.out.drew (Nat.le_refl _) hb⟩; clear hb; replace HB := hB2; clear hB2; clear hc hf hl' hn' hm'; obtain ⟨hc, hf, hl', hn', hm'⟩ := kw_rules HB.out (Nat.le_refl _)))
      refine hK.out _ _ ?_ (fun hHeld => ?_)
      · exact kw_S HB.out
      clear hK K
      (try simp only [Act.put, List.getElem_toArray, List.getElem_cons_succ, List.getElem_cons_zero, List.setIfInBounds_toArray, List.set_cons_zero, List.set_cons_succ])
      refine wpAnyH_take (i := 12) (v := ?_) rfl (by kernel_rfl) (by kernel_rfl) (by kernel_rfl) (fun _ _ _ h => h) (Or.inl ⟨by rfl, fun wX hSw => ?_⟩) (by assumption) ?_
      rotate_left
      · (try dsimp only at hSw); go_simp; try with_reducible rfl
      (try simp only [Act.put, List.getElem_toArray, List.getElem_cons_succ, List.getElem_cons_zero, List.setIfInBounds_toArray, List.set_cons_zero, List.set_cons_succ])
      refine wpAnyH_take (i := 13) (v := ?_) rfl (by kernel_rfl) (by kernel_rfl) (by kernel_rfl) (fun _ _ _ h => h) (Or.inl ⟨by rfl, fun wX hSw => ?_⟩) (by assumption) ?_
      rotate_left
      · (try dsimp only at hSw); go_simp; try with_reducible rfl
      (try simp only [Act.put, List.getElem_toArray, List.getElem_cons_succ, List.getElem_cons_zero, List.setIfInBounds_toArray, List.set_cons_zero, List.set_cons_succ])
      refine wpAnyH_take (i := 14) (v := ?_) rfl (by kernel_rfl) (by kernel_rfl) (by kernel_rfl) (fun _ _ _ h => h) (Or.inl ⟨by rfl, fun wX hSw => ?_⟩) (by assumption) ?_
      rotate_left
      · (try dsimp only at hSw); go_simp; try with_reducible rfl
      (try simp only [Act.put, List.getElem_toArray, List.getElem_cons_succ, List.getElem_cons_zero, List.setIfInBounds_toArray, List.set_cons_zero, List.set_cons_succ])
      refine wpAnyH_done (by kernel_rfl) ?_ _
      go_upto_region 9 with (fail)
      by_cases hr : 0 < r
      · by_cases hx1 : l1 < r
        · have G1 : Fx.Hd (Fx.withinS X Y U V r = true) := ⟨by rw [WIN.out hr]; simpa using hx1⟩
          have G2 : Fx.Hd (Fx.withinS U V X Y r = true) := ⟨by rw [SWP.out]; exact G1.out⟩
          have dr : decide (0 < r) = true := by simpa using hr
          have dl : decide (l1 < r) = true := by simpa using hx1
          clear tri bd1 bd2 bd3 bd4 bd5 bd6
          as_aux_lemma => (
            refine wp_region_held_drew (S := (fun Z => (∀ b o, b < W.heap.size → Z.cell? ⟨b, o, none⟩ = W.cell? ⟨b, o, none⟩) ∧ Below W.heap.size W Z)) (by kernel_rfl) ?_ (fun hHeld => ?_)
            · exact kw_S (kw_drew HB.out)
            refine wpAnyH_take (i := 0) (v := ?_) rfl (by kernel_rfl) (by kernel_rfl) (by kernel_rfl) (fun _ _ _ h => h) (Or.inl ⟨by rfl, fun wX hSw => ?_⟩) (by assumption) ?_
            rotate_left
            · (try dsimp only at hSw); go_simp; try with_reducible rfl
            (try simp only [Act.put, List.getElem_toArray, List.getElem_cons_succ, List.getElem_cons_zero, List.setIfInBounds_toArray, List.set_cons_zero, List.set_cons_succ])
            refine wpAnyH_take (i := 1) (v := ?_) rfl (by kernel_rfl) (by kernel_rfl) (by kernel_rfl) (fun _ _ _ h => h) (Or.inl ⟨by rfl, fun wX hSw => ?_⟩) (by assumption) ?_
            rotate_left
            · (try dsimp only at hSw); go_simp; try with_reducible rfl
            (try simp only [Act.put, List.getElem_toArray, List.getElem_cons_succ, List.getElem_cons_zero, List.setIfInBounds_toArray, List.set_cons_zero, List.set_cons_succ])
            refine wpAnyH_take (i := 2) (v := ?_) rfl (by kernel_rfl) (by kernel_rfl) (by kernel_rfl) (fun _ _ _ h => h) (Or.inl ⟨by rfl, fun wX hSw => ?_⟩) (by assumption) ?_
            rotate_left
            · (try dsimp only at hSw); go_simp; try with_reducible rfl
            (try simp only [Act.put, List.getElem_toArray, List.getElem_cons_succ, List.getElem_cons_zero, List.setIfInBounds_toArray, List.set_cons_zero, List.set_cons_succ])
            refine wpAnyH_take (i := 4) (v := ?_) rfl (by kernel_rfl) (by kernel_rfl) (by kernel_rfl) (fun _ _ _ h => h) (Or.inl ⟨by rfl, fun wX hSw => ?_⟩) (by assumption) ?_
            rotate_left
            · (try dsimp only at hSw); go_simp; try with_reducible rfl
            (try simp only [Act.put, List.getElem_toArray, List.getElem_cons_succ, List.getElem_cons_zero, List.setIfInBounds_toArray, List.set_cons_zero, List.set_cons_succ])
            refine wpAnyH_take (i := 5) (v := ?_) rfl (by kernel_rfl) (by kernel_rfl) (by kernel_rfl) (fun _ _ _ h => h) (Or.inl ⟨by rfl, fun wX hSw => ?_⟩) (by assumption) ?_
            rotate_left
            · (try dsimp only at hSw); go_simp; try with_reducible rfl
            (try simp only [Act.put, List.getElem_toArray, List.getElem_cons_succ, List.getElem_cons_zero, List.setIfInBounds_toArray, List.set_cons_zero, List.set_cons_succ])
            refine wpAnyH_take (i := 6) (v := ?_) rfl (by kernel_rfl) (by kernel_rfl) (by kernel_rfl) (fun _ _ _ h => h) (Or.inl ⟨by rfl, fun wX hSw => ?_⟩) (by assumption) ?_
            rotate_left
            · (try dsimp only at hSw); go_simp; try with_reducible rfl
            (try simp only [Act.put, List.getElem_toArray, List.getElem_cons_succ, List.getElem_cons_zero, List.setIfInBounds_toArray, List.set_cons_zero, List.set_cons_succ])
            refine wpAnyH_ready (rs := [3]) (by kernel_rfl) (by simp) ?_
            refine AllReadyH.cons rfl (fun K hK => ?_) (AllReadyH.nil)
            go_simp
            (first
            | (go_at_call 12; (first | (with_reducible refine (within_as X Y U V r true _ iX iY iU iV ir G1).mono ?_) | (with_reducible refine (within_as U V X Y r true _ iU iV iX iY ir G2).mono ?_)); rintro e z ⟨rfl, hb⟩; have hB2 : Hk (Below W.heap.size W z) := ⟨by first | exact kw_step HB.out (Nat.le_refl _) hb | exact kw_step HB.out.drew (Nat.le_refl _) hb⟩; clear hb; replace HB := hB2; clear hB2; clear hc hf hl' hn' hm'; obtain ⟨hc, hf, hl', hn', hm'⟩ := kw_rules HB.out (Nat.le_refl _)))
            refine hK.out _ _ ?_ (fun hHeld => ?_)
            · exact kw_S HB.out
            clear hK K
            (try simp only [Act.put, List.getElem_toArray, List.getElem_cons_succ, List.getElem_cons_zero, List.setIfInBounds_toArray, List.set_cons_zero, List.set_cons_succ])
            refine wpAnyH_ready (rs := [7]) (by kernel_rfl) (by simp) ?_
            refine AllReadyH.cons rfl (fun K hK => ?_) (AllReadyH.nil)
            go_simp
            (first
            | (go_at_call 12; (first | (with_reducible refine (within_as X Y U V r true _ iX iY iU iV ir G1).mono ?_) | (with_reducible refine (within_as U V X Y r true _ iU iV iX iY ir G2).mono ?_)); rintro e z ⟨rfl, hb⟩; have hB2 : Hk (Below W.heap.size W z) := ⟨by first | exact kw_step HB.out (Nat.le_refl _) hb | exact kw_step HB.out.drew (Nat.le_refl _) hb⟩; clear hb; replace HB := hB2; clear hB2; clear hc hf hl' hn' hm'; obtain ⟨hc, hf, hl', hn', hm'⟩ := kw_rules HB.out (Nat.le_refl _)))
            refine hK.out _ _ ?_ (fun hHeld => ?_)
            · exact kw_S HB.out
            clear hK K
            (try simp only [Act.put, List.getElem_toArray, List.getElem_cons_succ, List.getElem_cons_zero, List.setIfInBounds_toArray, List.set_cons_zero, List.set_cons_succ])
            refine wpAnyH_take (i := 8) (v := ?_) rfl (by kernel_rfl) (by kernel_rfl) (by kernel_rfl) (fun _ _ _ h => h) (Or.inl ⟨by rfl, fun wX hSw => ?_⟩) (by assumption) ?_
            rotate_left
            · (try dsimp only at hSw); go_simp; try with_reducible rfl
            (try simp only [Act.put, List.getElem_toArray, List.getElem_cons_succ, List.getElem_cons_zero, List.setIfInBounds_toArray, List.set_cons_zero, List.set_cons_succ])
            refine wpAnyH_take (i := 9) (v := ?_) rfl (by kernel_rfl) (by kernel_rfl) (by kernel_rfl) (fun _ _ _ h => h) (Or.inl ⟨by rfl, fun wX hSw => ?_⟩) (by assumption) ?_
            rotate_left
            · (try dsimp only at hSw); go_simp; try with_reducible rfl
            (try simp only [Act.put, List.getElem_toArray, List.getElem_cons_succ, List.getElem_cons_zero, List.setIfInBounds_toArray, List.set_cons_zero, List.set_cons_succ])
            refine wpAnyH_take (i := 10) (v := ?_) rfl (by kernel_rfl) (by kernel_rfl) (by kernel_rfl) (fun _ _ _ h => h) (Or.inl ⟨by rfl, fun wX hSw => ?_⟩) (by assumption) ?_
            rotate_left
            · (try dsimp only at hSw); go_simp; try with_reducible rfl
            (try simp only [Act.put, List.getElem_toArray, List.getElem_cons_succ, List.getElem_cons_zero, List.setIfInBounds_toArray, List.set_cons_zero, List.set_cons_succ])
            refine wpAnyH_take (i := 11) (v := ?_) rfl (by kernel_rfl) (by kernel_rfl) (by kernel_rfl) (fun _ _ _ h => h) (Or.inl ⟨by rfl, fun wX hSw => ?_⟩) (by assumption) ?_
            rotate_left
            · (try dsimp only at hSw); go_simp; try with_reducible rfl
            (try simp only [Act.put, List.getElem_toArray, List.getElem_cons_succ, List.getElem_cons_zero, List.setIfInBounds_toArray, List.set_cons_zero, List.set_cons_succ])
            refine wpAnyH_take (i := 12) (v := ?_) rfl (by kernel_rfl) (by kernel_rfl) (by kernel_rfl) (fun _ _ _ h => h) (Or.inl ⟨by rfl, fun wX hSw => ?_⟩) (by assumption) ?_
            rotate_left
            · (try dsimp only at hSw); go_simp; try with_reducible rfl
            (try simp only [Act.put, List.getElem_toArray, List.getElem_cons_succ, List.getElem_cons_zero, List.setIfInBounds_toArray, List.set_cons_zero, List.set_cons_succ])
            refine wpAnyH_take (i := 13) (v := ?_) rfl (by kernel_rfl) (by kernel_rfl) (by kernel_rfl) (fun _ _ _ h => h) (Or.inl ⟨by rfl, fun wX hSw => ?_⟩) (by assumption) ?_
            rotate_left
            · (try dsimp only at hSw); go_simp; try with_reducible rfl
            (try simp only [Act.put, List.getElem_toArray, List.getElem_cons_succ, List.getElem_cons_zero, List.setIfInBounds_toArray, List.set_cons_zero, List.set_cons_succ])
            refine wpAnyH_take (i := 14) (v := ?_) rfl (by kernel_rfl) (by kernel_rfl) (by kernel_rfl) (fun _ _ _ h => h) (Or.inl ⟨by rfl, fun wX hSw => ?_⟩) (by assumption) ?_
            rotate_left
            · (try dsimp only at hSw); go_simp; try with_reducible rfl
            (try simp only [Act.put, List.getElem_toArray, List.getElem_cons_succ, List.getElem_cons_zero, List.setIfInBounds_toArray, List.set_cons_zero, List.set_cons_succ])
            refine wpAnyH_take (i := 15) (v := ?_) rfl (by kernel_rfl) (by kernel_rfl) (by kernel_rfl) (fun _ _ _ h => h) (Or.inl ⟨by rfl, fun wX hSw => ?_⟩) (by assumption) ?_
            rotate_left
            · (try dsimp only at hSw); go_simp; try with_reducible rfl
            (try simp only [Act.put, List.getElem_toArray, List.getElem_cons_succ, List.getElem_cons_zero, List.setIfInBounds_toArray, List.set_cons_zero, List.set_cons_succ])
            refine wpAnyH_take (i := 17) (v := ?_) rfl (by kernel_rfl) (by kernel_rfl) (by kernel_rfl) (fun _ _ _ h => h) (Or.inl ⟨by rfl, fun wX hSw => ?_⟩) (by assumption) ?_
            rotate_left
            · (try dsimp only at hSw); go_simp; try with_reducible rfl
            (try simp only [Act.put, List.getElem_toArray, List.getElem_cons_succ, List.getElem_cons_zero, List.setIfInBounds_toArray, List.set_cons_zero, List.set_cons_succ])
            refine wpAnyH_take (i := 18) (v := ?_) rfl (by kernel_rfl) (by kernel_rfl) (by kernel_rfl) (fun _ _ _ h => h) (Or.inl ⟨by rfl, fun wX hSw => ?_⟩) (by assumption) ?_
            rotate_left
            · (try dsimp only at hSw); go_simp; try with_reducible rfl
            (try simp only [Act.put, List.getElem_toArray, List.getElem_cons_succ, List.getElem_cons_zero, List.setIfInBounds_toArray, List.set_cons_zero, List.set_cons_succ])
            refine wpAnyH_take (i := 19) (v := ?_) rfl (by kernel_rfl) (by kernel_rfl) (by kernel_rfl) (fun _ _ _ h => h) (Or.inl ⟨by rfl, fun wX hSw => ?_⟩) (by assumption) ?_
            rotate_left
            · (try dsimp only at hSw); go_simp; try with_reducible rfl
            (try simp only [Act.put, List.getElem_toArray, List.getElem_cons_succ, List.getElem_cons_zero, List.setIfInBounds_toArray, List.set_cons_zero, List.set_cons_succ])
            refine wpAnyH_ready (rs := [16]) (by kernel_rfl) (by simp) ?_
            refine AllReadyH.cons rfl (fun K hK => ?_) (AllReadyH.nil)
            go_simp
            (first
            | (go_at_call 12; (first | (with_reducible refine (within_as X Y U V r true _ iX iY iU iV ir G1).mono ?_) | (with_reducible refine (within_as U V X Y r true _ iU iV iX iY ir G2).mono ?_)); rintro e z ⟨rfl, hb⟩; have hB2 : Hk (Below W.heap.size W z) := ⟨by first | exact kw_step HB.out (Nat.le_refl _) hb | exact kw_step HB.out.drew (Nat.le_refl _) hb⟩; clear hb; replace HB := hB2; clear hB2; clear hc hf hl' hn' hm'; obtain ⟨hc, hf, hl', hn', hm'⟩ := kw_rules HB.out (Nat.le_refl _)))
            refine hK.out _ _ ?_ (fun hHeld => ?_)
            · exact kw_S HB.out
            clear hK K
            (try simp only [Act.put, List.getElem_toArray, List.getElem_cons_succ, List.getElem_cons_zero, List.setIfInBounds_toArray, List.set_cons_zero, List.set_cons_succ])
            refine wpAnyH_take (i := 20) (v := ?_) rfl (by kernel_rfl) (by kernel_rfl) (by kernel_rfl) (fun _ _ _ h => h) (Or.inl ⟨by rfl, fun wX hSw => ?_⟩) (by assumption) ?_
            rotate_left
            · (try dsimp only at hSw); go_simp; try with_reducible rfl
            (try simp only [Act.put, List.getElem_toArray, List.getElem_cons_succ, List.getElem_cons_zero, List.setIfInBounds_toArray, List.set_cons_zero, List.set_cons_succ])
            refine wpAnyH_take (i := 21) (v := ?_) rfl (by kernel_rfl) (by kernel_rfl) (by kernel_rfl) (fun _ _ _ h => h) (Or.inl ⟨by rfl, fun wX hSw => ?_⟩) (by assumption) ?_
            rotate_left
            · (try dsimp only at hSw); go_simp; try with_reducible rfl
            (try simp only [Act.put, List.getElem_toArray, List.getElem_cons_succ, List.getElem_cons_zero, List.setIfInBounds_toArray, List.set_cons_zero, List.set_cons_succ])
            refine wpAnyH_take (i := 22) (v := ?_) rfl (by kernel_rfl) (by kernel_rfl) (by kernel_rfl) (fun _ _ _ h => h) (Or.inl ⟨by rfl, fun wX hSw => ?_⟩) (by assumption) ?_
            rotate_left
            · (try dsimp only at hSw); go_simp; try with_reducible rfl
            (try simp only [Act.put, List.getElem_toArray, List.getElem_cons_succ, List.getElem_cons_zero, List.setIfInBounds_toArray, List.set_cons_zero, List.set_cons_succ])
            refine wpAnyH_done (by kernel_rfl) ?_ _
            go_wp2_with fail
            exact ⟨⟨k + 1, by go_num, by omega, by omega, ⟨kw_step HW2.out (Nat.le_refl _) HB.out⟩⟩, by simp [intOf]; omega⟩)
        · have G1 : Fx.Hd (Fx.withinS X Y U V r = false) := ⟨by rw [WIN.out hr]; simpa using hx1⟩
          have G2 : Fx.Hd (Fx.withinS U V X Y r = false) := ⟨by rw [SWP.out]; exact G1.out⟩
          have dr : decide (0 < r) = true := by simpa using hr
          have dl : decide (l1 < r) = false := by simpa using hx1
          clear tri bd1 bd2 bd3 bd4 bd5 bd6
          as_aux_lemma => (
            refine wp_region_held_drew (S := (fun Z => (∀ b o, b < W.heap.size → Z.cell? ⟨b, o, none⟩ = W.cell? ⟨b, o, none⟩) ∧ Below W.heap.size W Z)) (by kernel_rfl) ?_ (fun hHeld => ?_)
            · exact kw_S (kw_drew HB.out)
            refine wpAnyH_take (i := 0) (v := ?_) rfl (by kernel_rfl) (by kernel_rfl) (by kernel_rfl) (fun _ _ _ h => h) (Or.inl ⟨by rfl, fun wX hSw => ?_⟩) (by assumption) ?_
            rotate_left
            · (try dsimp only at hSw); go_simp; try with_reducible rfl
            (try simp only [Act.put, List.getElem_toArray, List.getElem_cons_succ, List.getElem_cons_zero, List.setIfInBounds_toArray, List.set_cons_zero, List.set_cons_succ])
            refine wpAnyH_take (i := 1) (v := ?_) rfl (by kernel_rfl) (by kernel_rfl) (by kernel_rfl) (fun _ _ _ h => h) (Or.inl ⟨by rfl, fun wX hSw => ?_⟩) (by assumption) ?_
            rotate_left
            · (try dsimp only at hSw); go_simp; try with_reducible rfl
            (try simp only [Act.put, List.getElem_toArray, List.getElem_cons_succ, List.getElem_cons_zero, List.setIfInBounds_toArray, List.set_cons_zero, List.set_cons_succ])
            refine wpAnyH_take (i := 2) (v := ?_) rfl (by kernel_rfl) (by kernel_rfl) (by kernel_rfl) (fun _ _ _ h => h) (Or.inl ⟨by rfl, fun wX hSw => ?_⟩) (by assumption) ?_
            rotate_left
            · (try dsimp only at hSw); go_simp; try with_reducible rfl
            (try simp only [Act.put, List.getElem_toArray, List.getElem_cons_succ, List.getElem_cons_zero, List.setIfInBounds_toArray, List.set_cons_zero, List.set_cons_succ])
            refine wpAnyH_take (i := 4) (v := ?_) rfl (by kernel_rfl) (by kernel_rfl) (by kernel_rfl) (fun _ _ _ h => h) (Or.inl ⟨by rfl, fun wX hSw => ?_⟩) (by assumption) ?_
            rotate_left
            · (try dsimp only at hSw); go_simp; try with_reducible rfl
            (try simp only [Act.put, List.getElem_toArray, List.getElem_cons_succ, List.getElem_cons_zero, List.setIfInBounds_toArray, List.set_cons_zero, List.set_cons_succ])
            refine wpAnyH_take (i := 5) (v := ?_) rfl (by kernel_rfl) (by kernel_rfl) (by kernel_rfl) (fun _ _ _ h => h) (Or.inl ⟨by rfl, fun wX hSw => ?_⟩) (by assumption) ?_
            rotate_left
            · (try dsimp only at hSw); go_simp; try with_reducible rfl
            (try simp only [Act.put, List.getElem_toArray, List.getElem_cons_succ, List.getElem_cons_zero, List.setIfInBounds_toArray, List.set_cons_zero, List.set_cons_succ])
            refine wpAnyH_take (i := 6) (v := ?_) rfl (by kernel_rfl) (by kernel_rfl) (by kernel_rfl) (fun _ _ _ h => h) (Or.inl ⟨by rfl, fun wX hSw => ?_⟩) (by assumption) ?_
            rotate_left
            · (try dsimp only at hSw); go_simp; try with_reducible rfl
            (try simp only [Act.put, List.getElem_toArray, List.getElem_cons_succ, List.getElem_cons_zero, List.setIfInBounds_toArray, List.set_cons_zero, List.set_cons_succ])
            refine wpAnyH_ready (rs := [3]) (by kernel_rfl) (by simp) ?_
            refine AllReadyH.cons rfl (fun K hK => ?_) (AllReadyH.nil)
            go_simp
            (first
            | (go_at_call 12; (first | (with_reducible refine (within_as X Y U V r false _ iX iY iU iV ir G1).mono ?_) | (with_reducible refine (within_as U V X Y r false _ iU iV iX iY ir G2).mono ?_)); rintro e z ⟨rfl, hb⟩; have hB2 : Hk (Below W.heap.size W z) := ⟨by first | exact kw_step HB.out (Nat.le_refl _) hb | exact kw_step HB.out.drew (Nat.le_refl _) hb⟩; clear hb; replace HB := hB2; clear hB2; clear hc hf hl' hn' hm'; obtain ⟨hc, hf, hl', hn', hm'⟩ := kw_rules HB.out (Nat.le_refl _)))
            refine hK.out _ _ ?_ (fun hHeld => ?_)
            · exact kw_S HB.out
            clear hK K
            (try simp only [Act.put, List.getElem_toArray, List.getElem_cons_succ, List.getElem_cons_zero, List.setIfInBounds_toArray, List.set_cons_zero, List.set_cons_succ])
            refine wpAnyH_ready (rs := [7]) (by kernel_rfl) (by simp) ?_
            refine AllReadyH.cons rfl (fun K hK => ?_) (AllReadyH.nil)
            go_simp
            (first
            | (go_at_call 12; (first | (with_reducible refine (within_as X Y U V r false _ iX iY iU iV ir G1).mono ?_) | (with_reducible refine (within_as U V X Y r false _ iU iV iX iY ir G2).mono ?_)); rintro e z ⟨rfl, hb⟩; have hB2 : Hk (Below W.heap.size W z) := ⟨by first | exact kw_step HB.out (Nat.le_refl _) hb | exact kw_step HB.out.drew (Nat.le_refl _) hb⟩; clear hb; replace HB := hB2; clear hB2; clear hc hf hl' hn' hm'; obtain ⟨hc, hf, hl', hn', hm'⟩ := kw_rules HB.out (Nat.le_refl _)))
            refine hK.out _ _ ?_ (fun hHeld => ?_)
            · exact kw_S HB.out
            clear hK K
            (try simp only [Act.put, List.getElem_toArray, List.getElem_cons_succ, List.getElem_cons_zero, List.setIfInBounds_toArray, List.set_cons_zero, List.set_cons_succ])
            refine wpAnyH_take (i := 8) (v := ?_) rfl (by kernel_rfl) (by kernel_rfl) (by kernel_rfl) (fun _ _ _ h => h) (Or.inl ⟨by rfl, fun wX hSw => ?_⟩) (by assumption) ?_
            rotate_left
            · (try dsimp only at hSw); go_simp; try with_reducible rfl
            (try simp only [Act.put, List.getElem_toArray, List.getElem_cons_succ, List.getElem_cons_zero, List.setIfInBounds_toArray, List.set_cons_zero, List.set_cons_succ])
            refine wpAnyH_take (i := 9) (v := ?_) rfl (by kernel_rfl) (by kernel_rfl) (by kernel_rfl) (fun _ _ _ h => h) (Or.inl ⟨by rfl, fun wX hSw => ?_⟩) (by assumption) ?_
            rotate_left
            · (try dsimp only at hSw); go_simp; try with_reducible rfl
            (try simp only [Act.put, List.getElem_toArray, List.getElem_cons_succ, List.getElem_cons_zero, List.setIfInBounds_toArray, List.set_cons_zero, List.set_cons_succ])
            refine wpAnyH_take (i := 10) (v := ?_) rfl (by kernel_rfl) (by kernel_rfl) (by kernel_rfl) (fun _ _ _ h => h) (Or.inl ⟨by rfl, fun wX hSw => ?_⟩) (by assumption) ?_
            rotate_left
            · (try dsimp only at hSw); go_simp; try with_reducible rfl
            (try simp only [Act.put, List.getElem_toArray, List.getElem_cons_succ, List.getElem_cons_zero, List.setIfInBounds_toArray, List.set_cons_zero, List.set_cons_succ])
            refine wpAnyH_take (i := 11) (v := ?_) rfl (by kernel_rfl) (by kernel_rfl) (by kernel_rfl) (fun _ _ _ h => h) (Or.inl ⟨by rfl, fun wX hSw => ?_⟩) (by assumption) ?_
            rotate_left
            · (try dsimp only at hSw); go_simp; try with_reducible rfl
            (try simp only [Act.put, List.getElem_toArray, List.getElem_cons_succ, List.getElem_cons_zero, List.setIfInBounds_toArray, List.set_cons_zero, List.set_cons_succ])
            refine wpAnyH_take (i := 12) (v := ?_) rfl (by kernel_rfl) (by kernel_rfl) (by kernel_rfl) (fun _ _ _ h => h) (Or.inl ⟨by rfl, fun wX hSw => ?_⟩) (by assumption) ?_
            rotate_left
            · (try dsimp only at hSw); go_simp; try with_reducible rfl
            (try simp only [Act.put, List.getElem_toArray, List.getElem_cons_succ, List.getElem_cons_zero, List.setIfInBounds_toArray, List.set_cons_zero, List.set_cons_succ])
            refine wpAnyH_take (i := 13) (v := ?_) rfl (by kernel_rfl) (by kernel_rfl) (by kernel_rfl) (fun _ _ _ h => h) (Or.inl ⟨by rfl, fun wX hSw => ?_⟩) (by assumption) ?_
            rotate_left
            · (try dsimp only at hSw); go_simp; try with_reducible rfl
            (try simp only [Act.put, List.getElem_toArray, List.getElem_cons_succ, List.getElem_cons_zero, List.setIfInBounds_toArray, List.set_cons_zero, List.set_cons_succ])
            refine wpAnyH_take (i := 14) (v := ?_) rfl (by kernel_rfl) (by kernel_rfl) (by kernel_rfl) (fun _ _ _ h => h) (Or.inl ⟨by rfl, fun wX hSw => ?_⟩) (by assumption) ?_
            rotate_left
            · (try dsimp only at hSw); go_simp; try with_reducible rfl
            (try simp only [Act.put, List.getElem_toArray, List.getElem_cons_succ, List.getElem_cons_zero, List.setIfInBounds_toArray, List.set_cons_zero, List.set_cons_succ])
            refine wpAnyH_take (i := 15) (v := ?_) rfl (by kernel_rfl) (by kernel_rfl) (by kernel_rfl) (fun _ _ _ h => h) (Or.inl ⟨by rfl, fun wX hSw => ?_⟩) (by assumption) ?_
            rotate_left
            · (try dsimp only at hSw); go_simp; try with_reducible rfl
            (try simp only [Act.put, List.getElem_toArray, List.getElem_cons_succ, List.getElem_cons_zero, List.setIfInBounds_toArray, List.set_cons_zero, List.set_cons_succ])
            refine wpAnyH_take (i := 17) (v := ?_) rfl (by kernel_rfl) (by kernel_rfl) (by kernel_rfl) (fun _ _ _ h => h) (Or.inl ⟨by rfl, fun wX hSw => ?_⟩) (by assumption) ?_
            rotate_left
            · (try dsimp only at hSw); go_simp; try with_reducible rfl
            (try simp only [Act.put, List.getElem_toArray, List.getElem_cons_succ, List.getElem_cons_zero, List.setIfInBounds_toArray, List.set_cons_zero, List.set_cons_succ])
            refine wpAnyH_take (i := 18) (v := ?_) rfl (by kernel_rfl) (by kernel_rfl) (by kernel_rfl) (fun _ _ _ h => h) (Or.inl ⟨by rfl, fun wX hSw => ?_⟩) (by assumption) ?_
            rotate_left
            · (try dsimp only at hSw); go_simp; try with_reducible rfl
            (try simp only [Act.put, List.getElem_toArray, List.getElem_cons_succ, List.getElem_cons_zero, List.setIfInBounds_toArray, List.set_cons_zero, List.set_cons_succ])
            refine wpAnyH_take (i := 19) (v := ?_) rfl (by kernel_rfl) (by kernel_rfl) (by kernel_rfl) (fun _ _ _ h => h) (Or.inl ⟨by rfl, fun wX hSw => ?_⟩) (by assumption) ?_
            rotate_left
            · (try dsimp only at hSw); go_simp; try with_reducible rfl
            (try simp only [Act.put, List.getElem_toArray, List.getElem_cons_succ, List.getElem_cons_zero, List.setIfInBounds_toArray, List.set_cons_zero, List.set_cons_succ])
            refine wpAnyH_ready (rs := [16]) (by kernel_rfl) (by simp) ?_
            refine AllReadyH.cons rfl (fun K hK => ?_) (AllReadyH.nil)
            go_simp
            (first
            | (go_at_call 12; (first | (with_reducible refine (within_as X Y U V r false _ iX iY iU iV ir G1).mono ?_) | (with_reducible refine (within_as U V X Y r false _ iU iV iX iY ir G2).mono ?_)); rintro e z ⟨rfl, hb⟩; have hB2 : Hk (Below W.heap.size W z) := ⟨by first | exact kw_step HB.out (Nat.le_refl _) hb | exact kw_step HB.out.drew (Nat.le_refl _) hb⟩; clear hb; replace HB := hB2; clear hB2; clear hc hf hl' hn' hm'; obtain ⟨hc, hf, hl', hn', hm'⟩ := kw_rules HB.out (Nat.le_refl _)))
            refine hK.out _ _ ?_ (fun hHeld => ?_)
            · exact kw_S HB.out
            clear hK K
            (try simp only [Act.put, List.getElem_toArray, List.getElem_cons_succ, List.getElem_cons_zero, List.setIfInBounds_toArray, List.set_cons_zero, List.set_cons_succ])
            refine wpAnyH_take (i := 20) (v := ?_) rfl (by kernel_rfl) (by kernel_rfl) (by kernel_rfl) (fun _ _ _ h => h) (Or.inl ⟨by rfl, fun wX hSw => ?_⟩) (by assumption) ?_
            rotate_left
            · (try dsimp only at hSw); go_simp; try with_reducible rfl
            (try simp only [Act.put, List.getElem_toArray, List.getElem_cons_succ, List.getElem_cons_zero, List.setIfInBounds_toArray, List.set_cons_zero, List.set_cons_succ])
            refine wpAnyH_take (i := 21) (v := ?_) rfl (by kernel_rfl) (by kernel_rfl) (by kernel_rfl) (fun _ _ _ h => h) (Or.inl ⟨by rfl, fun wX hSw => ?_⟩) (by assumption) ?_
            rotate_left
            · (try dsimp only at hSw); go_simp; try with_reducible rfl
            (try simp only [Act.put, List.getElem_toArray, List.getElem_cons_succ, List.getElem_cons_zero, List.setIfInBounds_toArray, List.set_cons_zero, List.set_cons_succ])
            refine wpAnyH_take (i := 22) (v := ?_) rfl (by kernel_rfl) (by kernel_rfl) (by kernel_rfl) (fun _ _ _ h => h) (Or.inl ⟨by rfl, fun wX hSw => ?_⟩) (by assumption) ?_
            rotate_left
            · (try dsimp only at hSw); go_simp; try with_reducible rfl
            (try simp only [Act.put, List.getElem_toArray, List.getElem_cons_succ, List.getElem_cons_zero, List.setIfInBounds_toArray, List.set_cons_zero, List.set_cons_succ])
            refine wpAnyH_done (by kernel_rfl) ?_ _
            go_wp2_with fail
            exact ⟨⟨k + 1, by go_num, by omega, by omega, ⟨kw_step HW2.out (Nat.le_refl _) HB.out⟩⟩, by simp [intOf]; omega⟩)
      · have dr : decide (0 < r) = false := by simpa using hr
        cases hg : Fx.withinS X Y U V r
        · have G1 : Fx.Hd (Fx.withinS X Y U V r = false) := ⟨hg⟩
          have G2 : Fx.Hd (Fx.withinS U V X Y r = false) := ⟨by rw [SWP.out]; exact hg⟩
          clear hg tri bd1 bd2 bd3 bd4 bd5 bd6
          as_aux_lemma => (
            refine wp_region_held_drew (S := (fun Z => (∀ b o, b < W.heap.size → Z.cell? ⟨b, o, none⟩ = W.cell? ⟨b, o, none⟩) ∧ Below W.heap.size W Z)) (by kernel_rfl) ?_ (fun hHeld => ?_)
            · exact kw_S (kw_drew HB.out)
            refine wpAnyH_take (i := 0) (v := ?_) rfl (by kernel_rfl) (by kernel_rfl) (by kernel_rfl) (fun _ _ _ h => h) (Or.inl ⟨by rfl, fun wX hSw => ?_⟩) (by assumption) ?_
            rotate_left
            · (try dsimp only at hSw); go_simp; try with_reducible rfl
            (try simp only [Act.put, List.getElem_toArray, List.getElem_cons_succ, List.getElem_cons_zero, List.setIfInBounds_toArray, List.set_cons_zero, List.set_cons_succ])
            refine wpAnyH_take (i := 1) (v := ?_) rfl (by kernel_rfl) (by kernel_rfl) (by kernel_rfl) (fun _ _ _ h => h) (Or.inl ⟨by rfl, fun wX hSw => ?_⟩) (by assumption) ?_
            rotate_left
            · (try dsimp only at hSw); go_simp; try with_reducible rfl
            (try simp only [Act.put, List.getElem_toArray, List.getElem_cons_succ, List.getElem_cons_zero, List.setIfInBounds_toArray, List.set_cons_zero, List.set_cons_succ])
            refine wpAnyH_take (i := 2) (v := ?_) rfl (by kernel_rfl) (by kernel_rfl) (by kernel_rfl) (fun _ _ _ h => h) (Or.inl ⟨by rfl, fun wX hSw => ?_⟩) (by assumption) ?_
            rotate_left
            · (try dsimp only at hSw); go_simp; try with_reducible rfl
            (try simp only [Act.put, List.getElem_toArray, List.getElem_cons_succ, List.getElem_cons_zero, List.setIfInBounds_toArray, List.set_cons_zero, List.set_cons_succ])
            refine wpAnyH_take (i := 4) (v := ?_) rfl (by kernel_rfl) (by kernel_rfl) (by kernel_rfl) (fun _ _ _ h => h) (Or.inl ⟨by rfl, fun wX hSw => ?_⟩) (by assumption) ?_
            rotate_left
            · (try dsimp only at hSw); go_simp; try with_reducible rfl
            (try simp only [Act.put, List.getElem_toArray, List.getElem_cons_succ, List.getElem_cons_zero, List.setIfInBounds_toArray, List.set_cons_zero, List.set_cons_succ])
            refine wpAnyH_take (i := 5) (v := ?_) rfl (by kernel_rfl) (by kernel_rfl) (by kernel_rfl) (fun _ _ _ h => h) (Or.inl ⟨by rfl, fun wX hSw => ?_⟩) (by assumption) ?_
            rotate_left
            · (try dsimp only at hSw); go_simp; try with_reducible rfl
            (try simp only [Act.put, List.getElem_toArray, List.getElem_cons_succ, List.getElem_cons_zero, List.setIfInBounds_toArray, List.set_cons_zero, List.set_cons_succ])
            refine wpAnyH_take (i := 6) (v := ?_) rfl (by kernel_rfl) (by kernel_rfl) (by kernel_rfl) (fun _ _ _ h => h) (Or.inl ⟨by rfl, fun wX hSw => ?_⟩) (by assumption) ?_
            rotate_left
            · (try dsimp only at hSw); go_simp; try with_reducible rfl
            (try simp only [Act.put, List.getElem_toArray, List.getElem_cons_succ, List.getElem_cons_zero, List.setIfInBounds_toArray, List.set_cons_zero, List.set_cons_succ])
            refine wpAnyH_ready (rs := [3]) (by kernel_rfl) (by simp) ?_
            refine AllReadyH.cons rfl (fun K hK => ?_) (AllReadyH.nil)
            go_simp
            (first
            | (go_at_call 12; (first | (with_reducible refine (within_as X Y U V r false _ iX iY iU iV ir G1).mono ?_) | (with_reducible refine (within_as U V X Y r false _ iU iV iX iY ir G2).mono ?_)); rintro e z ⟨rfl, hb⟩; have hB2 : Hk (Below W.heap.size W z) := ⟨by first | exact kw_step HB.out (Nat.le_refl _) hb | exact kw_step HB.out.drew (Nat.le_refl _) hb⟩; clear hb; replace HB := hB2; clear hB2; clear hc hf hl' hn' hm'; obtain ⟨hc, hf, hl', hn', hm'⟩ := kw_rules HB.out (Nat.le_refl _)))
            refine hK.out _ _ ?_ (fun hHeld => ?_)
            · exact kw_S HB.out
            clear hK K
            (try simp only [Act.put, List.getElem_toArray, List.getElem_cons_succ, List.getElem_cons_zero, List.setIfInBounds_toArray, List.set_cons_zero, List.set_cons_succ])
            refine wpAnyH_ready (rs := [7]) (by kernel_rfl) (by simp) ?_
            refine AllReadyH.cons rfl (fun K hK => ?_) (AllReadyH.nil)
            go_simp
            (first
            | (go_at_call 12; (first | (with_reducible refine (within_as X Y U V r false _ iX iY iU iV ir G1).mono ?_) | (with_reducible refine (within_as U V X Y r false _ iU iV iX iY ir G2).mono ?_)); rintro e z ⟨rfl, hb⟩; have hB2 : Hk (Below W.heap.size W z) := ⟨by first | exact kw_step HB.out (Nat.le_refl _) hb | exact kw_step HB.out.drew (Nat.le_refl _) hb⟩; clear hb; replace HB := hB2; clear hB2; clear hc hf hl' hn' hm'; obtain ⟨hc, hf, hl', hn', hm'⟩ := kw_rules HB.out (Nat.le_refl _)))
            refine hK.out _ _ ?_ (fun hHeld => ?_)
            · exact kw_S HB.out
            clear hK K
            (try simp only [Act.put, List.getElem_toArray, List.getElem_cons_succ, List.getElem_cons_zero, List.setIfInBounds_toArray, List.set_cons_zero, List.set_cons_succ])
            refine wpAnyH_take (i := 8) (v := ?_) rfl (by kernel_rfl) (by kernel_rfl) (by kernel_rfl) (fun _ _ _ h => h) (Or.inl ⟨by rfl, fun wX hSw => ?_⟩) (by assumption) ?_
            rotate_left
            · (try dsimp only at hSw); go_simp; try with_reducible rfl
            (try simp only [Act.put, List.getElem_toArray, List.getElem_cons_succ, List.getElem_cons_zero, List.setIfInBounds_toArray, List.set_cons_zero, List.set_cons_succ])
            refine wpAnyH_take (i := 9) (v := ?_) rfl (by kernel_rfl) (by kernel_rfl) (by kernel_rfl) (fun _ _ _ h => h) (Or.inl ⟨by rfl, fun wX hSw => ?_⟩) (by assumption) ?_
            rotate_left
            · (try dsimp only at hSw); go_simp; try with_reducible rfl
            (try simp only [Act.put, List.getElem_toArray, List.getElem_cons_succ, List.getElem_cons_zero, List.setIfInBounds_toArray, List.set_cons_zero, List.set_cons_succ])
            refine wpAnyH_take (i := 10) (v := ?_) rfl (by kernel_rfl) (by kernel_rfl) (by kernel_rfl) (fun _ _ _ h => h) (Or.inl ⟨by rfl, fun wX hSw => ?_⟩) (by assumption) ?_
            rotate_left
            · (try dsimp only at hSw); go_simp; try with_reducible rfl
            (try simp only [Act.put, List.getElem_toArray, List.getElem_cons_succ, List.getElem_cons_zero, List.setIfInBounds_toArray, List.set_cons_zero, List.set_cons_succ])
            refine wpAnyH_take (i := 11) (v := ?_) rfl (by kernel_rfl) (by kernel_rfl) (by kernel_rfl) (fun _ _ _ h => h) (Or.inl ⟨by rfl, fun wX hSw => ?_⟩) (by assumption) ?_
            rotate_left
            · (try dsimp only at hSw); go_simp; try with_reducible rfl
            (try simp only [Act.put, List.getElem_toArray, List.getElem_cons_succ, List.getElem_cons_zero, List.setIfInBounds_toArray, List.set_cons_zero, List.set_cons_succ])
            refine wpAnyH_take (i := 12) (v := ?_) rfl (by kernel_rfl) (by kernel_rfl) (by kernel_rfl) (fun _ _ _ h => h) (Or.inl ⟨by rfl, fun wX hSw => ?_⟩) (by assumption) ?_
            rotate_left
            · (try dsimp only at hSw); go_simp; try with_reducible rfl
            (try simp only [Act.put, List.getElem_toArray, List.getElem_cons_succ, List.getElem_cons_zero, List.setIfInBounds_toArray, List.set_cons_zero, List.set_cons_succ])
            refine wpAnyH_take (i := 13) (v := undef) rfl (by kernel_rfl) (by kernel_rfl) (by kernel_rfl) (fun _ _ _ h => h) (Or.inr ⟨by rfl, rfl⟩) (by assumption) ?_
            (try simp only [Act.put, List.getElem_toArray, List.getElem_cons_succ, List.getElem_cons_zero, List.setIfInBounds_toArray, List.set_cons_zero, List.set_cons_succ])
            refine wpAnyH_take (i := 14) (v := undef) rfl (by kernel_rfl) (by kernel_rfl) (by kernel_rfl) (fun _ _ _ h => h) (Or.inr ⟨by rfl, rfl⟩) (by assumption) ?_
            (try simp only [Act.put, List.getElem_toArray, List.getElem_cons_succ, List.getElem_cons_zero, List.setIfInBounds_toArray, List.set_cons_zero, List.set_cons_succ])
            refine wpAnyH_take (i := 15) (v := undef) rfl (by kernel_rfl) (by kernel_rfl) (by kernel_rfl) (fun _ _ _ h => h) (Or.inr ⟨by rfl, rfl⟩) (by assumption) ?_
            (try simp only [Act.put, List.getElem_toArray, List.getElem_cons_succ, List.getElem_cons_zero, List.setIfInBounds_toArray, List.set_cons_zero, List.set_cons_succ])
            refine wpAnyH_take (i := 16) (v := undef) rfl (by kernel_rfl) (by kernel_rfl) (by kernel_rfl) (fun _ _ _ h => h) (Or.inr ⟨by rfl, rfl⟩) (by assumption) ?_
            (try simp only [Act.put, List.getElem_toArray, List.getElem_cons_succ, List.getElem_cons_zero, List.setIfInBounds_toArray, List.set_cons_zero, List.set_cons_succ])
            refine wpAnyH_take (i := 17) (v := undef) rfl (by kernel_rfl) (by kernel_rfl) (by kernel_rfl) (fun _ _ _ h => h) (Or.inr ⟨by rfl, rfl⟩) (by assumption) ?_
            (try simp only [Act.put, List.getElem_toArray, List.getElem_cons_succ, List.getElem_cons_zero, List.setIfInBounds_toArray, List.set_cons_zero, List.set_cons_succ])
            refine wpAnyH_take (i := 18) (v := undef) rfl (by kernel_rfl) (by kernel_rfl) (by kernel_rfl) (fun _ _ _ h => h) (Or.inr ⟨by rfl, rfl⟩) (by assumption) ?_
            (try simp only [Act.put, List.getElem_toArray, List.getElem_cons_succ, List.getElem_cons_zero, List.setIfInBounds_toArray, List.set_cons_zero, List.set_cons_succ])
            refine wpAnyH_take (i := 19) (v := undef) rfl (by kernel_rfl) (by kernel_rfl) (by kernel_rfl) (fun _ _ _ h => h) (Or.inr ⟨by rfl, rfl⟩) (by assumption) ?_
            (try simp only [Act.put, List.getElem_toArray, List.getElem_cons_succ, List.getElem_cons_zero, List.setIfInBounds_toArray, List.set_cons_zero, List.set_cons_succ])
            refine wpAnyH_take (i := 20) (v := undef) rfl (by kernel_rfl) (by kernel_rfl) (by kernel_rfl) (fun _ _ _ h => h) (Or.inr ⟨by rfl, rfl⟩) (by assumption) ?_
            (try simp only [Act.put, List.getElem_toArray, List.getElem_cons_succ, List.getElem_cons_zero, List.setIfInBounds_toArray, List.set_cons_zero, List.set_cons_succ])
            refine wpAnyH_take (i := 21) (v := ?_) rfl (by kernel_rfl) (by kernel_rfl) (by kernel_rfl) (fun _ _ _ h => h) (Or.inl ⟨by rfl, fun wX hSw => ?_⟩) (by assumption) ?_
            rotate_left
            · (try dsimp only at hSw); go_simp; try with_reducible rfl
            (try simp only [Act.put, List.getElem_toArray, List.getElem_cons_succ, List.getElem_cons_zero, List.setIfInBounds_toArray, List.set_cons_zero, List.set_cons_succ])
            refine wpAnyH_take (i := 22) (v := ?_) rfl (by kernel_rfl) (by kernel_rfl) (by kernel_rfl) (fun _ _ _ h => h) (Or.inl ⟨by rfl, fun wX hSw => ?_⟩) (by assumption) ?_
            rotate_left
            · (try dsimp only at hSw); go_simp; try with_reducible rfl
            (try simp only [Act.put, List.getElem_toArray, List.getElem_cons_succ, List.getElem_cons_zero, List.setIfInBounds_toArray, List.set_cons_zero, List.set_cons_succ])
            refine wpAnyH_done (by kernel_rfl) ?_ _
            go_wp2_with fail
            exact ⟨⟨k + 1, by go_num, by omega, by omega, ⟨kw_step HW2.out (Nat.le_refl _) HB.out⟩⟩, by simp [intOf]; omega⟩)
        · have G1 : Fx.Hd (Fx.withinS X Y U V r = true) := ⟨hg⟩
          have G2 : Fx.Hd (Fx.withinS U V X Y r = true) := ⟨by rw [SWP.out]; exact hg⟩
          clear hg tri bd1 bd2 bd3 bd4 bd5 bd6
          as_aux_lemma => (
            refine wp_region_held_drew (S := (fun Z => (∀ b o, b < W.heap.size → Z.cell? ⟨b, o, none⟩ = W.cell? ⟨b, o, none⟩) ∧ Below W.heap.size W Z)) (by kernel_rfl) ?_ (fun hHeld => ?_)
            · exact kw_S (kw_drew HB.out)
            refine wpAnyH_take (i := 0) (v := ?_) rfl (by kernel_rfl) (by kernel_rfl) (by kernel_rfl) (fun _ _ _ h => h) (Or.inl ⟨by rfl, fun wX hSw => ?_⟩) (by assumption) ?_
            rotate_left
            · (try dsimp only at hSw); go_simp; try with_reducible rfl
            (try simp only [Act.put, List.getElem_toArray, List.getElem_cons_succ, List.getElem_cons_zero, List.setIfInBounds_toArray, List.set_cons_zero, List.set_cons_succ])
            refine wpAnyH_take (i := 1) (v := ?_) rfl (by kernel_rfl) (by kernel_rfl) (by kernel_rfl) (fun _ _ _ h => h) (Or.inl ⟨by rfl, fun wX hSw => ?_⟩) (by assumption) ?_
            rotate_left
            · (try dsimp only at hSw); go_simp; try with_reducible rfl
            (try simp only [Act.put, List.getElem_toArray, List.getElem_cons_succ, List.getElem_cons_zero, List.setIfInBounds_toArray, List.set_cons_zero, List.set_cons_succ])
            refine wpAnyH_take (i := 2) (v := ?_) rfl (by kernel_rfl) (by kernel_rfl) (by kernel_rfl) (fun _ _ _ h => h) (Or.inl ⟨by rfl, fun wX hSw => ?_⟩) (by assumption) ?_
            rotate_left
            · (try dsimp only at hSw); go_simp; try with_reducible rfl
            (try simp only [Act.put, List.getElem_toArray, List.getElem_cons_succ, List.getElem_cons_zero, List.setIfInBounds_toArray, List.set_cons_zero, List.set_cons_succ])
            refine wpAnyH_take (i := 4) (v := ?_) rfl (by kernel_rfl) (by kernel_rfl) (by kernel_rfl) (fun _ _ _ h => h) (Or.inl ⟨by rfl, fun wX hSw => ?_⟩) (by assumption) ?_
            rotate_left
            · (try dsimp only at hSw); go_simp; try with_reducible rfl
            (try simp only [Act.put, List.getElem_toArray, List.getElem_cons_succ, List.getElem_cons_zero, List.setIfInBounds_toArray, List.set_cons_zero, List.set_cons_succ])
            refine wpAnyH_take (i := 5) (v := ?_) rfl (by kernel_rfl) (by kernel_rfl) (by kernel_rfl) (fun _ _ _ h => h) (Or.inl ⟨by rfl, fun wX hSw => ?_⟩) (by assumption) ?_
            rotate_left
            · (try dsimp only at hSw); go_simp; try with_reducible rfl
            (try simp only [Act.put, List.getElem_toArray, List.getElem_cons_succ, List.getElem_cons_zero, List.setIfInBounds_toArray, List.set_cons_zero, List.set_cons_succ])
            refine wpAnyH_take (i := 6) (v := ?_) rfl (by kernel_rfl) (by kernel_rfl) (by kernel_rfl) (fun _ _ _ h => h) (Or.inl ⟨by rfl, fun wX hSw => ?_⟩) (by assumption) ?_
            rotate_left
            · (try dsimp only at hSw); go_simp; try with_reducible rfl
            (try simp only [Act.put, List.getElem_toArray, List.getElem_cons_succ, List.getElem_cons_zero, List.setIfInBounds_toArray, List.set_cons_zero, List.set_cons_succ])
            refine wpAnyH_ready (rs := [3]) (by kernel_rfl) (by simp) ?_
            refine AllReadyH.cons rfl (fun K hK => ?_) (AllReadyH.nil)
            go_simp
            (first
            | (go_at_call 12; (first | (with_reducible refine (within_as X Y U V r true _ iX iY iU iV ir G1).mono ?_) | (with_reducible refine (within_as U V X Y r true _ iU iV iX iY ir G2).mono ?_)); rintro e z ⟨rfl, hb⟩; have hB2 : Hk (Below W.heap.size W z) := ⟨by first | exact kw_step HB.out (Nat.le_refl _) hb | exact kw_step HB.out.drew (Nat.le_refl _) hb⟩; clear hb; replace HB := hB2; clear hB2; clear hc hf hl' hn' hm'; obtain ⟨hc, hf, hl', hn', hm'⟩ := kw_rules HB.out (Nat.le_refl _)))
            refine hK.out _ _ ?_ (fun hHeld => ?_)
            · exact kw_S HB.out
            clear hK K
            (try simp only [Act.put, List.getElem_toArray, List.getElem_cons_succ, List.getElem_cons_zero, List.setIfInBounds_toArray, List.set_cons_zero, List.set_cons_succ])
            refine wpAnyH_ready (rs := [7]) (by kernel_rfl) (by simp) ?_
            refine AllReadyH.cons rfl (fun K hK => ?_) (AllReadyH.nil)
            go_simp
            (first
            | (go_at_call 12; (first | (with_reducible refine (within_as X Y U V r true _ iX iY iU iV ir G1).mono ?_) | (with_reducible refine (within_as U V X Y r true _ iU iV iX iY ir G2).mono ?_)); rintro e z ⟨rfl, hb⟩; have hB2 : Hk (Below W.heap.size W z) := ⟨by first | exact kw_step HB.out (Nat.le_refl _) hb | exact kw_step HB.out.drew (Nat.le_refl _) hb⟩; clear hb; replace HB := hB2; clear hB2; clear hc hf hl' hn' hm'; obtain ⟨hc, hf, hl', hn', hm'⟩ := kw_rules HB.out (Nat.le_refl _)))
            refine hK.out _ _ ?_ (fun hHeld => ?_)
            · exact kw_S HB.out
            clear hK K
            (try simp only [Act.put, List.getElem_toArray, List.getElem_cons_succ, List.getElem_cons_zero, List.setIfInBounds_toArray, List.set_cons_zero, List.set_cons_succ])
            refine wpAnyH_take (i := 8) (v := ?_) rfl (by kernel_rfl) (by kernel_rfl) (by kernel_rfl) (fun _ _ _ h => h) (Or.inl ⟨by rfl, fun wX hSw => ?_⟩) (by assumption) ?_
            rotate_left
            · (try dsimp only at hSw); go_simp; try with_reducible rfl
            (try simp only [Act.put, List.getElem_toArray, List.getElem_cons_succ, List.getElem_cons_zero, List.setIfInBounds_toArray, List.set_cons_zero, List.set_cons_succ])
            refine wpAnyH_take (i := 9) (v := ?_) rfl (by kernel_rfl) (by kernel_rfl) (by kernel_rfl) (fun _ _ _ h => h) (Or.inl ⟨by rfl, fun wX hSw => ?_⟩) (by assumption) ?_
            rotate_left
            · (try dsimp only at hSw); go_simp; try with_reducible rfl
            (try simp only [Act.put, List.getElem_toArray, List.getElem_cons_succ, List.getElem_cons_zero, List.setIfInBounds_toArray, List.set_cons_zero, List.set_cons_succ])
            refine wpAnyH_take (i := 10) (v := ?_) rfl (by kernel_rfl) (by kernel_rfl) (by kernel_rfl) (fun _ _ _ h => h) (Or.inl ⟨by rfl, fun wX hSw => ?_⟩) (by assumption) ?_
            rotate_left
            · (try dsimp only at hSw); go_simp; try with_reducible rfl
            (try simp only [Act.put, List.getElem_toArray, List.getElem_cons_succ, List.getElem_cons_zero, List.setIfInBounds_toArray, List.set_cons_zero, List.set_cons_succ])
            refine wpAnyH_take (i := 11) (v := ?_) rfl (by kernel_rfl) (by kernel_rfl) (by kernel_rfl) (fun _ _ _ h => h) (Or.inl ⟨by rfl, fun wX hSw => ?_⟩) (by assumption) ?_
            rotate_left
            · (try dsimp only at hSw); go_simp; try with_reducible rfl
            (try simp only [Act.put, List.getElem_toArray, List.getElem_cons_succ, List.getElem_cons_zero, List.setIfInBounds_toArray, List.set_cons_zero, List.set_cons_succ])
            refine wpAnyH_take (i := 12) (v := ?_) rfl (by kernel_rfl) (by kernel_rfl) (by kernel_rfl) (fun _ _ _ h => h) (Or.inl ⟨by rfl, fun wX hSw => ?_⟩) (by assumption) ?_
            rotate_left
            · (try dsimp only at hSw); go_simp; try with_reducible rfl
            (try simp only [Act.put, List.getElem_toArray, List.getElem_cons_succ, List.getElem_cons_zero, List.setIfInBounds_toArray, List.set_cons_zero, List.set_cons_succ])
            refine wpAnyH_take (i := 13) (v := undef) rfl (by kernel_rfl) (by kernel_rfl) (by kernel_rfl) (fun _ _ _ h => h) (Or.inr ⟨by rfl, rfl⟩) (by assumption) ?_
            (try simp only [Act.put, List.getElem_toArray, List.getElem_cons_succ, List.getElem_cons_zero, List.setIfInBounds_toArray, List.set_cons_zero, List.set_cons_succ])
            refine wpAnyH_take (i := 14) (v := undef) rfl (by kernel_rfl) (by kernel_rfl) (by kernel_rfl) (fun _ _ _ h => h) (Or.inr ⟨by rfl, rfl⟩) (by assumption) ?_
            (try simp only [Act.put, List.getElem_toArray, List.getElem_cons_succ, List.getElem_cons_zero, List.setIfInBounds_toArray, List.set_cons_zero, List.set_cons_succ])
            refine wpAnyH_take (i := 15) (v := undef) rfl (by kernel_rfl) (by kernel_rfl) (by kernel_rfl) (fun _ _ _ h => h) (Or.inr ⟨by rfl, rfl⟩) (by assumption) ?_
            (try simp only [Act.put, List.getElem_toArray, List.getElem_cons_succ, List.getElem_cons_zero, List.setIfInBounds_toArray, List.set_cons_zero, List.set_cons_succ])
            refine wpAnyH_take (i := 16) (v := undef) rfl (by kernel_rfl) (by kernel_rfl) (by kernel_rfl) (fun _ _ _ h => h) (Or.inr ⟨by rfl, rfl⟩) (by assumption) ?_
            (try simp only [Act.put, List.getElem_toArray, List.getElem_cons_succ, List.getElem_cons_zero, List.setIfInBounds_toArray, List.set_cons_zero, List.set_cons_succ])
            refine wpAnyH_take (i := 17) (v := undef) rfl (by kernel_rfl) (by kernel_rfl) (by kernel_rfl) (fun _ _ _ h => h) (Or.inr ⟨by rfl, rfl⟩) (by assumption) ?_
            (try simp only [Act.put, List.getElem_toArray, List.getElem_cons_succ, List.getElem_cons_zero, List.setIfInBounds_toArray, List.set_cons_zero, List.set_cons_succ])
            refine wpAnyH_take (i := 18) (v := undef) rfl (by kernel_rfl) (by kernel_rfl) (by kernel_rfl) (fun _ _ _ h => h) (Or.inr ⟨by rfl, rfl⟩) (by assumption) ?_
            (try simp only [Act.put, List.getElem_toArray, List.getElem_cons_succ, List.getElem_cons_zero, List.setIfInBounds_toArray, List.set_cons_zero, List.set_cons_succ])
            refine wpAnyH_take (i := 19) (v := undef) rfl (by kernel_rfl) (by kernel_rfl) (by kernel_rfl) (fun _ _ _ h => h) (Or.inr ⟨by rfl, rfl⟩) (by assumption) ?_
            (try simp only [Act.put, List.getElem_toArray, List.getElem_cons_succ, List.getElem_cons_zero, List.setIfInBounds_toArray, List.set_cons_zero, List.set_cons_succ])
            refine wpAnyH_take (i := 20) (v := undef) rfl (by kernel_rfl) (by kernel_rfl) (by kernel_rfl) (fun _ _ _ h => h) (Or.inr ⟨by rfl, rfl⟩) (by assumption) ?_
            (try simp only [Act.put, List.getElem_toArray, List.getElem_cons_succ, List.getElem_cons_zero, List.setIfInBounds_toArray, List.set_cons_zero, List.set_cons_succ])
            refine wpAnyH_take (i := 21) (v := ?_) rfl (by kernel_rfl) (by kernel_rfl) (by kernel_rfl) (fun _ _ _ h => h) (Or.inl ⟨by rfl, fun wX hSw => ?_⟩) (by assumption) ?_
            rotate_left
            · (try dsimp only at hSw); go_simp; try with_reducible rfl
            (try simp only [Act.put, List.getElem_toArray, List.getElem_cons_succ, List.getElem_cons_zero, List.setIfInBounds_toArray, List.set_cons_zero, List.set_cons_succ])
            refine wpAnyH_take (i := 22) (v := ?_) rfl (by kernel_rfl) (by kernel_rfl) (by kernel_rfl) (fun _ _ _ h => h) (Or.inl ⟨by rfl, fun wX hSw => ?_⟩) (by assumption) ?_
            rotate_left
            · (try dsimp only at hSw); go_simp; try with_reducible rfl
            (try simp only [Act.put, List.getElem_toArray, List.getElem_cons_succ, List.getElem_cons_zero, List.setIfInBounds_toArray, List.set_cons_zero, List.set_cons_succ])
            refine wpAnyH_done (by kernel_rfl) ?_ _
            go_wp2_with fail
            exact ⟨⟨k + 1, by go_num, by omega, by omega, ⟨kw_step HW2.out (Nat.le_refl _) HB.out⟩⟩, by simp [intOf]; omega⟩)
    · go_wp2_with (go_at_call 9; (with_reducible refine (wakes2_any _).mono ?_); rintro e w' ⟨rfl, hb⟩)
      all_goals
        go_ret
        exact ⟨rfl, kw_step HW.out (Nat.le_refl _) hb⟩

theorem vecTriangles_own : ownKnob Try.prog.godebug = none := by kernel_rfl
theorem vecTriangles_laidOut : laidOutB Try.prog = true := by kernel_rfl
set_option maxRecDepth 100000 in
theorem vecTriangles_lifted (os : Os) (started : os.Started) (H : Type) (enc : TypeId × Value → H) :
    ReturnsInHanded {} Try.checked os 4 .any (Rows.vecTrianglesSpec.pre6 enc Try.prog Try.f4 Rows.vecTrianglesRow.domain false) (Rows.vecTrianglesSpec.post enc Try.prog Try.f4 false true false false) := by
  refine returnsInHanded_of_change (C := Try.checked) vecTriangles_own started (by kernel_rfl) Try.func4
    (ChangeSpec.witness6 (enc := enc) (C := Try.checked) false ⟨#[], #[.slice none 0 0], []⟩ 8 (by kernel_rfl) (by kernel_rfl) (by kernel_rfl) (by kernel_rfl)) ?_
  intro W base args ds gs before hval0 hW hcnd _
  have hval : ∀ (j : Nat) t v, Try.f4.params[j]? = some t → args[j]? = some v → Value.okWide Try.prog W .any base t v := hval0
  have hW' := hW
  obtain ⟨p, q, hA0, hV, rfl, hfz, hnd⟩ := hW
  have hA : DataW.TrodAll enc Try.prog W 0 (fun _ => true) true Try.f4.params.toList args.toList ds p := hA0
  rw [Try.params4] at hA hval
  obtain ⟨v0, vs0, d0, ds0, p0, q0, hargs, rfl, rfl, h0, r0⟩ := trodAll_cons hA
  obtain ⟨rfl, rfl, rfl⟩ := trodAll_nil r0
  obtain rfl : args = #[v0] := by cases args; simp_all
  obtain ⟨rfl, rfl⟩ := trodVars_none hV
  obtain ⟨a0, len0, cap0, rfl⟩ := okWide_slice Try.underlying22 (hval 0 22 v0 rfl rfl)
  have k0 := h0
  have lt0 : ∀ x ∈ p0, x.block < W.heap.size := by obtain ⟨m, hm⟩ := k0; exact DataW.trod_lt m _ _ _ hm
  have rows : Asks2 W a0 len0 cap0 := by obtain ⟨fuel, hf⟩ := h0; exact asks2_of hf
  clear hA0 hval0
  refine (vecTriangles_walk a0 len0 cap0 W rows).mono fun e W' ⟨he, bel⟩ => ?_
  subst he
  exact ⟨_, rfl, _, _, _, [], _, [], hW', trodAll_mk1 (shut_bool Try.underlying4 _), (trodAll_cons_mk (Below.trod vecTriangles_laidOut (by kernel_rfl) (of_decide_eq_true (by kernel_rfl)) k0 bel lt0) trodAll_mk0), rfl, bel.frame _, fun h => by cases h⟩
theorem vecTriangles_over : Rows.vecTrianglesRow.holds Try.pinned (OpenSpec.ofChange Rows.vecTrianglesSpec) :=
  OpenClaim.holds_of_wide 4 Try.f4 rfl rfl rfl rfl rfl rfl rfl ⟨rfl, rfl, rfl, rfl, rfl⟩ rfl rfl rfl rfl rfl (by kernel_rfl) Try.func4 (by kernel_rfl)
    (of_decide_eq_true (by kernel_rfl)) (by unfold Func.isWrapper; first | (rw [if_pos (by decide +kernel)]; kernel_rfl) | (rw [if_neg (by decide +kernel)]; exact ⟨rfl, rfl⟩))
    (fun os started H enc _ => vecTriangles_lifted os started H enc)
/-- The given statement of VecTriangles. -/
theorem vecTriangles_holds : Rows.VecTrianglesSaid := vecTriangles_over
end Go.Proofs.Ytgmhalcofcokbaa

