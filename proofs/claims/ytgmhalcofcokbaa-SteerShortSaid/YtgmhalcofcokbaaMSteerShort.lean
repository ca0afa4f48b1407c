import Derived.Deep.QuietTactic
import Derived.BigQuiet
import Derived.Deep.RegionWith
import Derived.Deep.RegionHeld3
import Derived.Deep.DeepCutAuto
import Derived.Deep.DeepFit
import Derived.Outline
import Derived.Test.YtgmhalcofcokbaaQe
import Derived.Test.YtgmhalcofcokbaaQi
import Derived.Test.YtgmhalcofcokbaaQh
import Derived.Test.YtgmhalcofcokbaaQg
import Derived.Test.YtgmhalcofcokbaaQj
/- For every list, SteerShort answers true and leaves its argument as it was: no step is longer than it may be; where the way is short enough it ends there; of none others nothing pushes, nothing draws; from one alone it pushes straight away. No condition. -/
namespace Go.Proofs.Ytgmhalcofcokbaa
open Go.ChangeShapes Go.WideShapes Go.ChangeAt Go.RowKit Go.Deep
set_option linter.unusedVariables false
set_option linter.unusedSimpArgs false
theorem cohere_as (x y z cx cy : Int) (a : Option Addr) (n c B : Nat) (f g : Nat → Int) (w : World) (hx : Fx.I64 x) (hy : Fx.I64 y) (hz : Fx.I64 z) (hv : Vs w B a n f g) (hB : B ≤ w.heap.size) (hn : n ≤ 140737488355328) (EX : Fx.Hd (Fx.cohX x y n f g z = cx)) (EY : Fx.Hd (Fx.cohY x y n f g z = cy)) :
    Calls Try.prog 29 #[.agg #[.int .i64 x, .int .i64 y], .slice a n c, .int .i64 z] w fun e w' => e = .returned (.agg #[.int .i64 cx, .int .i64 cy]) ∧ Below w.heap.size w w' := by
  obtain ⟨rfl⟩ := EX; obtain ⟨rfl⟩ := EY; exact cohere_any x y z a n c B f g w hx hy hz hv hB hn
theorem vs_bk {w : World} {P : Nat} {a b : Int} (h : Bk w P #[.int .i64 a, .int .i64 b]) (ha : Fx.I64 a) (hb : Fx.I64 b) : Vs w w.heap.size (some ⟨P, 0, none⟩) 1 (fun _ => a) (fun _ => b) :=
  ⟨fun _ _ => ⟨ha, hb⟩, fun _ => ⟨P, 0, rfl, h.lt, fun k hk => by
    obtain rfl : k = 0 := by omega
    exact ⟨h.c 0, h.c 1⟩⟩⟩
set_option maxRecDepth 100000 in
set_option maxHeartbeats 25600000 in
theorem steerShort_walk (a : Option Addr) (len cap : Nat) (w : World) (rows : Asks19 w a len cap) :
    Calls Try.prog 6 #[.slice a len cap] w fun e w' => e = .returned (.bool true) ∧ Below w.heap.size w w' := by
  obtain ⟨hl, hm, hall⟩ := rows
  have HALL := Fx.Hd.mk hall
  clear hall
  go_enter Try.func6, Try.ntmps6
  go_wp2
  go_loopw [3] (fun i wr => ∃ (k : Nat), i = .int .i64 k ∧ k ≤ len ∧ k ≤ 20 ∧ Hk (Below w.heap.size w wr)) (fun i _ => 20 - (intOf i).toNat)
  case atStart => exact ⟨0, rfl, by omega, by omega, ⟨Below.refl _ _⟩⟩
  case round =>
    obtain ⟨k, rfl, hk, hk2, HW⟩ := hrel
    by_cases hlt : k < len ∧ k < 20
    · obtain ⟨g1, g2⟩ := hlt
      obtain ⟨b, off, x, y, u, v, z0, ab, nb, cb, f, g, rfl, hbl, hx, hy, hu, hv, hz, hnb, hcb, hvs, c0, c1, c2, c3, c4, c5⟩ := HALL.out k g1
      have d0 := (HW.out.cell (p := ⟨b, off + k * 6, none⟩) hbl).trans c0
      have d1 := (HW.out.cell (p := ⟨b, off + k * 6 + 1, none⟩) hbl).trans c1
      have d2 := (HW.out.cell (p := ⟨b, off + k * 6 + 2, none⟩) hbl).trans c2
      have d3 := (HW.out.cell (p := ⟨b, off + k * 6 + 3, none⟩) hbl).trans c3
      have d4 := (HW.out.cell (p := ⟨b, off + k * 6 + 4, none⟩) hbl).trans c4
      have hbw : b < wr.heap.size := Nat.lt_of_lt_of_le hbl HW.out.size
      clear c0 c1 c2 c3 c4 c5
      have rX : Fx.Small (x / 32) := by unfold Fx.Small; unfold Fx.I64 at hx; omega
      have rY : Fx.Small (y / 32) := by unfold Fx.Small; unfold Fx.I64 at hy; omega
      have rU : Fx.Small (u / 32) := by unfold Fx.Small; unfold Fx.I64 at hu; omega
      have rV : Fx.Small (v / 32) := by unfold Fx.Small; unfold Fx.I64 at hv; omega
      obtain ⟨X, hX⟩ : ∃ X, x / 32 = X := ⟨_, rfl⟩
      obtain ⟨Y, hY⟩ : ∃ Y, y / 32 = Y := ⟨_, rfl⟩
      obtain ⟨U, hU⟩ : ∃ U, u / 32 = U := ⟨_, rfl⟩
      obtain ⟨V, hV⟩ : ∃ V, v / 32 = V := ⟨_, rfl⟩
      rw [hX] at rX
      rw [hY] at rY
      rw [hU] at rU
      rw [hV] at rV
      have EX := Fx.Hd.mk hX
      have EY := Fx.Hd.mk hY
      have EU := Fx.Hd.mk hU
      have EV := Fx.Hd.mk hV
      clear hX hY hU hV
      have j1 : (0 : Int) ≤ (k : Int) := by omega
      have j2 : (k : Int) < (len : Int) := by omega
      obtain ⟨m, hmx, hm0, him⟩ : ∃ m : Int, (if z0 < 0 then 0 else z0) = m ∧ 0 ≤ m ∧ Fx.I64 m := ⟨_, rfl, by split <;> omega, by unfold Fx.I64 at *; split <;> omega⟩
      obtain ⟨tx, ty, lv, dx, dy, ld, ax, ay, wi, hS⟩ := Fx.ss_of rX rY rU rV hm0 him
      obtain ⟨jx, jy, ju, jv, jm, jt, jt', jd, jd', et, et', el, lm, ed, ed', eld, eq, ec, ec', c0, c0', p0, p0', ea, ea', ew, no, sx, sx', sy, sy'⟩ := hS
      have EQ := Hk.mk eq
      have NO := Hk.mk no
      have SG := Hk.mk (And.intro sx (And.intro sx' (And.intro sy sy')))
      clear eq no sx sx' sy sy' hz him hvs rX rY rU rV
      go_upto_region 4 with (fail)
      have L0V : wr.heap.size ≤ wr.heap.size := Nat.le_refl _
      apply reg_merge
      intro HG13
      apply reg_merge
      intro HG12
      apply reg_merge
      intro HG11
      apply reg_merge
      intro HG10
      apply reg_merge
      intro HG9
      apply reg_merge
      intro HG8
      apply reg_merge
      intro HG7
      apply reg_merge
      intro HG6
      apply reg_merge
      intro HG5
      apply reg_merge
      intro HG4
      apply reg_merge
      intro HG3
      apply reg_merge
      intro HG2
      apply reg_merge
      intro HG1
      refine wp_region_held_drew (S := fun Z => (∀ b o, b < wr.heap.size → Z.cell? ⟨b, o, none⟩ = wr.cell? ⟨b, o, none⟩)) (by kernel_rfl) (fun _ _ _ => rfl) (fun hHeld => ?_)
      have HB : Hk (Below wr.heap.size wr wr.drew) := ⟨(Below.refl _ _).drew⟩
      obtain ⟨VA, hWe⟩ : ∃ VA, wr.drew = VA := ⟨_, rfl⟩
      rw [hWe] at HB hHeld ⊢
      clear hWe
      refine wpAnyH_take (i := 0) (v := ?_) rfl (by kernel_rfl) (by kernel_rfl) (by kernel_rfl) (fun _ _ _ h => h) (Or.inl ⟨by rfl, fun wX hSw => ?_⟩) (by assumption) ?_
      rotate_left
      · (try dsimp only at hSw); go_simp; try with_reducible rfl
      (try simp only [Act.put, List.getElem_toArray, List.getElem_cons_succ, List.getElem_cons_zero, List.setIfInBounds_toArray, List.set_cons_zero, List.set_cons_succ])
      refine wpAnyH_take (i := 1) (v := ?_) rfl (by kernel_rfl) (by kernel_rfl) (by kernel_rfl) (fun _ _ _ h => h) (Or.inl ⟨by rfl, fun wX hSw => ?_⟩) (by assumption) ?_
      rotate_left
      · (try dsimp only at hSw); go_simp; try with_reducible rfl
      (try simp only [Act.put, List.getElem_toArray, List.getElem_cons_succ, List.getElem_cons_zero, List.setIfInBounds_toArray, List.set_cons_zero, List.set_cons_succ])
      refine wpAnyH_take (i := 2) (v := ?_) rfl (by kernel_rfl) (by kernel_rfl) (by kernel_rfl) (fun _ _ _ h => h) (Or.inl ⟨by rfl, fun wX hSw => ?_⟩) (by assumption) ?_
      rotate_left
      · (try dsimp only at hSw); go_simp; try with_reducible rfl
      (try simp only [Act.put, List.getElem_toArray, List.getElem_cons_succ, List.getElem_cons_zero, List.setIfInBounds_toArray, List.set_cons_zero, List.set_cons_succ])
      refine wpAnyH_take (i := 3) (v := ?_) rfl (by kernel_rfl) (by kernel_rfl) (by kernel_rfl) (fun _ _ _ h => h) (Or.inl ⟨by rfl, fun wX hSw => ?_⟩) (by assumption) ?_
      rotate_left
      · (try dsimp only at hSw); go_simp; try with_reducible rfl
      (try simp only [Act.put, List.getElem_toArray, List.getElem_cons_succ, List.getElem_cons_zero, List.setIfInBounds_toArray, List.set_cons_zero, List.set_cons_succ])
      refine wpAnyH_take (i := 4) (v := ?_) rfl (by kernel_rfl) (by kernel_rfl) (by kernel_rfl) (fun _ _ _ h => h) (Or.inl ⟨by rfl, fun wX hSw => ?_⟩) (by assumption) ?_
      rotate_left
      · (try dsimp only at hSw); go_simp; try with_reducible rfl
      (try simp only [Act.put, List.getElem_toArray, List.getElem_cons_succ, List.getElem_cons_zero, List.setIfInBounds_toArray, List.set_cons_zero, List.set_cons_succ])
      refine wpAnyH_take (i := 6) (v := ?_) rfl (by kernel_rfl) (by kernel_rfl) (by kernel_rfl) (fun _ _ _ h => h) (Or.inl ⟨by rfl, fun wX hSw => ?_⟩) (by assumption) ?_
      rotate_left
      · (try dsimp only at hSw); go_simp; try with_reducible rfl
      (try simp only [Act.put, List.getElem_toArray, List.getElem_cons_succ, List.getElem_cons_zero, List.setIfInBounds_toArray, List.set_cons_zero, List.set_cons_succ])
      refine wpAnyH_take (i := 7) (v := ?_) rfl (by kernel_rfl) (by kernel_rfl) (by kernel_rfl) (fun _ _ _ h => h) (Or.inl ⟨by rfl, fun wX hSw => ?_⟩) (by assumption) ?_
      rotate_left
      · (try dsimp only at hSw); go_simp; try with_reducible rfl
      (try simp only [Act.put, List.getElem_toArray, List.getElem_cons_succ, List.getElem_cons_zero, List.setIfInBounds_toArray, List.set_cons_zero, List.set_cons_succ])
      refine wpAnyH_take (i := 8) (v := ?_) rfl (by kernel_rfl) (by kernel_rfl) (by kernel_rfl) (fun _ _ _ h => h) (Or.inl ⟨by rfl, fun wX hSw => ?_⟩) (by assumption) ?_
      rotate_left
      · (try dsimp only at hSw); go_simp; try with_reducible rfl
      (try simp only [Act.put, List.getElem_toArray, List.getElem_cons_succ, List.getElem_cons_zero, List.setIfInBounds_toArray, List.set_cons_zero, List.set_cons_succ])
      refine wpAnyH_take (i := 9) (v := ?_) rfl (by kernel_rfl) (by kernel_rfl) (by kernel_rfl) (fun _ _ _ h => h) (Or.inl ⟨by rfl, fun wX hSw => ?_⟩) (by assumption) ?_
      rotate_left
      · (try dsimp only at hSw); go_simp; try with_reducible rfl
      (try simp only [Act.put, List.getElem_toArray, List.getElem_cons_succ, List.getElem_cons_zero, List.setIfInBounds_toArray, List.set_cons_zero, List.set_cons_succ])
      refine wpAnyH_take (i := 10) (v := ?_) rfl (by kernel_rfl) (by kernel_rfl) (by kernel_rfl) (fun _ _ _ h => h) (Or.inl ⟨by rfl, fun wX hSw => ?_⟩) (by assumption) ?_
      rotate_left
      · (try dsimp only at hSw); go_simp; try with_reducible rfl
      (try simp only [Act.put, List.getElem_toArray, List.getElem_cons_succ, List.getElem_cons_zero, List.setIfInBounds_toArray, List.set_cons_zero, List.set_cons_succ])
      refine wpAnyH_take (i := 12) (v := ?_) rfl (by kernel_rfl) (by kernel_rfl) (by kernel_rfl) (fun _ _ _ h => h) (Or.inl ⟨by rfl, fun wX hSw => ?_⟩) (by assumption) ?_
      rotate_left
      · (try dsimp only at hSw); go_simp; try with_reducible rfl
      (try simp only [Act.put, List.getElem_toArray, List.getElem_cons_succ, List.getElem_cons_zero, List.setIfInBounds_toArray, List.set_cons_zero, List.set_cons_succ])
      refine wpAnyH_take (i := 13) (v := ?_) rfl (by kernel_rfl) (by kernel_rfl) (by kernel_rfl) (fun _ _ _ h => h) (Or.inl ⟨by rfl, fun wX hSw => ?_⟩) (by assumption) ?_
      rotate_left
      · (try dsimp only at hSw); go_simp; try with_reducible rfl
      (try simp only [Act.put, List.getElem_toArray, List.getElem_cons_succ, List.getElem_cons_zero, List.setIfInBounds_toArray, List.set_cons_zero, List.set_cons_succ])
      refine wpAnyH_take (i := 14) (v := ?_) rfl (by kernel_rfl) (by kernel_rfl) (by kernel_rfl) (fun _ _ _ h => h) (Or.inl ⟨by rfl, fun wX hSw => ?_⟩) (by assumption) ?_
      rotate_left
      · (try dsimp only at hSw); go_simp; try with_reducible rfl
      (try simp only [Act.put, List.getElem_toArray, List.getElem_cons_succ, List.getElem_cons_zero, List.setIfInBounds_toArray, List.set_cons_zero, List.set_cons_succ])
      refine wpAnyH_take (i := 15) (v := ?_) rfl (by kernel_rfl) (by kernel_rfl) (by kernel_rfl) (fun _ _ _ h => h) (Or.inl ⟨by rfl, fun wX hSw => ?_⟩) (by assumption) ?_
      rotate_left
      · (try dsimp only at hSw); go_simp; try with_reducible rfl
      (try simp only [Act.put, List.getElem_toArray, List.getElem_cons_succ, List.getElem_cons_zero, List.setIfInBounds_toArray, List.set_cons_zero, List.set_cons_succ])
      refine wpAnyH_take (i := 16) (v := ?_) rfl (by kernel_rfl) (by kernel_rfl) (by kernel_rfl) (fun _ _ _ h => h) (Or.inl ⟨by rfl, fun wX hSw => ?_⟩) (by assumption) ?_
      rotate_left
      · (try dsimp only at hSw); go_simp; try with_reducible rfl
      (try simp only [Act.put, List.getElem_toArray, List.getElem_cons_succ, List.getElem_cons_zero, List.setIfInBounds_toArray, List.set_cons_zero, List.set_cons_succ])
      refine wpAnyH_take (i := 17) (v := ?_) rfl (by kernel_rfl) (by kernel_rfl) (by kernel_rfl) (fun _ _ _ h => h) (Or.inl ⟨by rfl, fun wX hSw => ?_⟩) (by assumption) ?_
      rotate_left
      · (try dsimp only at hSw); go_simp; try with_reducible rfl
      (try simp only [Act.put, List.getElem_toArray, List.getElem_cons_succ, List.getElem_cons_zero, List.setIfInBounds_toArray, List.set_cons_zero, List.set_cons_succ])
      refine wpAnyH_ready (rs := [5, 18, 19]) (by kernel_rfl) (by simp) ?_
      refine AllReadyH.cons rfl (fun K hK => ?_) (AllReadyH.cons rfl (fun K hK => ?_) (AllReadyH.cons rfl (fun K hK => ?_) (AllReadyH.nil)))
      · skip
        go_simp
        ((go_at_call 24; (first | (with_reducible refine (small_as x y X Y _ hx hy EX EY).mono ?_) | (with_reducible refine (small_as u v U V _ hu hv EU EV).mono ?_)); rintro e z ⟨rfl, hb⟩))
        replace HB := Hk.mk (kw_step HB.out L0V hb)
        clear hb
        refine hK.out _ _ ?_ (fun hHeld2 => ?_)
        · exact kw_s HB.out
        clear hK K hHeld
        have hHeld := hHeld2
        clear hHeld2
        (try simp only [Act.put, List.getElem_toArray, List.getElem_cons_succ, List.getElem_cons_zero, List.setIfInBounds_toArray, List.set_cons_zero, List.set_cons_succ])
        refine reg_cast (l' := #[true, true, true, true, true, true, true, true, true, true, true, false, true, true, true, true, true, true, false, false, false, false, false]) (by kernel_rfl) ?_
        revert hHeld
        revert HB
        revert z
        exact HG1.out
      · skip
        go_simp
        have L_P := kw_le HB.out L0V
        have HP_P : Hk (Bk _ _ #[.int .i64 0, .int .i64 0]) := ⟨Bk.new VA #[.int .i64 0, .int .i64 0] 24⟩
        replace HB := Hk.mk (kw_al HB.out L0V (.cells #[.int .i64 0, .int .i64 0] 24))
        refine hK.out _ _ ?_ (fun hHeld2 => ?_)
        · exact kw_s HB.out
        clear hK K hHeld
        have hHeld := hHeld2
        clear hHeld2
        (try simp only [Act.put, List.getElem_toArray, List.getElem_cons_succ, List.getElem_cons_zero, List.setIfInBounds_toArray, List.set_cons_zero, List.set_cons_succ])
        generalize VA.heap.size = P at *
        generalize VA.alloc (.cells #[.int .i64 0, .int .i64 0] 24) = VAx at *
        refine reg_cast (l' := #[true, true, true, true, true, false, true, true, true, true, true, false, true, true, true, true, true, true, true, false, false, false, false]) (by kernel_rfl) ?_
        revert hHeld
        revert L_P
        revert HP_P
        revert HB
        revert P
        revert VAx
        exact HG2.out
      · skip
        go_simp
        have L_Q := kw_le HB.out L0V
        have HP_Q : Hk (Bk _ _ #[.int .i64 0, .int .i64 0]) := ⟨Bk.new VA #[.int .i64 0, .int .i64 0] 24⟩
        replace HB := Hk.mk (kw_al HB.out L0V (.cells #[.int .i64 0, .int .i64 0] 24))
        refine hK.out _ _ ?_ (fun hHeld2 => ?_)
        · exact kw_s HB.out
        clear hK K hHeld
        have hHeld := hHeld2
        clear hHeld2
        (try simp only [Act.put, List.getElem_toArray, List.getElem_cons_succ, List.getElem_cons_zero, List.setIfInBounds_toArray, List.set_cons_zero, List.set_cons_succ])
        generalize VA.heap.size = Q at *
        generalize VA.alloc (.cells #[.int .i64 0, .int .i64 0] 24) = VAx at *
        refine reg_cast (l' := #[true, true, true, true, true, false, true, true, true, true, true, false, true, true, true, true, true, true, false, true, false, false, false]) (by kernel_rfl) ?_
        revert hHeld
        revert L_Q
        revert HP_Q
        revert HB
        revert Q
        revert VAx
        exact HG3.out
      intro VA HB hHeld
      refine wpAnyH_ready (rs := [11, 18, 19]) (by kernel_rfl) (by simp) ?_
      refine AllReadyH.cons rfl (fun K hK => ?_) (AllReadyH.cons rfl (fun K hK => ?_) (AllReadyH.cons rfl (fun K hK => ?_) (AllReadyH.nil)))
      · skip
        go_simp
        ((go_at_call 24; (first | (with_reducible refine (small_as x y X Y _ hx hy EX EY).mono ?_) | (with_reducible refine (small_as u v U V _ hu hv EU EV).mono ?_)); rintro e z ⟨rfl, hb⟩))
        replace HB := Hk.mk (kw_step HB.out L0V hb)
        clear hb
        refine hK.out _ _ ?_ (fun hHeld2 => ?_)
        · exact kw_s HB.out
        clear hK K hHeld
        have hHeld := hHeld2
        clear hHeld2
        (try simp only [Act.put, List.getElem_toArray, List.getElem_cons_succ, List.getElem_cons_zero, List.setIfInBounds_toArray, List.set_cons_zero, List.set_cons_succ])
        refine reg_cast (l' := #[true, true, true, true, true, true, true, true, true, true, true, true, true, true, true, true, true, true, false, false, false, false, false]) (by kernel_rfl) ?_
        revert hHeld
        revert HB
        revert z
        exact HG4.out
      · skip
        go_simp
        have L_P := kw_le HB.out L0V
        have HP_P : Hk (Bk _ _ #[.int .i64 0, .int .i64 0]) := ⟨Bk.new VA #[.int .i64 0, .int .i64 0] 24⟩
        replace HB := Hk.mk (kw_al HB.out L0V (.cells #[.int .i64 0, .int .i64 0] 24))
        refine hK.out _ _ ?_ (fun hHeld2 => ?_)
        · exact kw_s HB.out
        clear hK K hHeld
        have hHeld := hHeld2
        clear hHeld2
        (try simp only [Act.put, List.getElem_toArray, List.getElem_cons_succ, List.getElem_cons_zero, List.setIfInBounds_toArray, List.set_cons_zero, List.set_cons_succ])
        generalize VA.heap.size = P at *
        generalize VA.alloc (.cells #[.int .i64 0, .int .i64 0] 24) = VAx at *
        refine reg_cast (l' := #[true, true, true, true, true, true, true, true, true, true, true, false, true, true, true, true, true, true, true, false, false, false, false]) (by kernel_rfl) ?_
        revert hHeld
        revert L_P
        revert HP_P
        revert HB
        revert P
        revert VAx
        exact HG5.out
      · skip
        go_simp
        have L_Q := kw_le HB.out L0V
        have HP_Q : Hk (Bk _ _ #[.int .i64 0, .int .i64 0]) := ⟨Bk.new VA #[.int .i64 0, .int .i64 0] 24⟩
        replace HB := Hk.mk (kw_al HB.out L0V (.cells #[.int .i64 0, .int .i64 0] 24))
        refine hK.out _ _ ?_ (fun hHeld2 => ?_)
        · exact kw_s HB.out
        clear hK K hHeld
        have hHeld := hHeld2
        clear hHeld2
        (try simp only [Act.put, List.getElem_toArray, List.getElem_cons_succ, List.getElem_cons_zero, List.setIfInBounds_toArray, List.set_cons_zero, List.set_cons_succ])
        generalize VA.heap.size = Q at *
        generalize VA.alloc (.cells #[.int .i64 0, .int .i64 0] 24) = VAx at *
        refine reg_cast (l' := #[true, true, true, true, true, true, true, true, true, true, true, false, true, true, true, true, true, true, false, true, false, false, false]) (by kernel_rfl) ?_
        revert hHeld
        revert L_Q
        revert HP_Q
        revert HB
        revert Q
        revert VAx
        exact HG6.out
      intro VA P HB HP_P L_P hHeld
      refine wpAnyH_ready (rs := [5, 19]) (by kernel_rfl) (by simp) ?_
      refine AllReadyH.cons rfl (fun K hK => ?_) (AllReadyH.cons rfl (fun K hK => ?_) (AllReadyH.nil))
      · skip
        go_simp
        ((go_at_call 24; (first | (with_reducible refine (small_as x y X Y _ hx hy EX EY).mono ?_) | (with_reducible refine (small_as u v U V _ hu hv EU EV).mono ?_)); rintro e z ⟨rfl, hb⟩))
        replace HP_P := Hk.mk (HP_P.out.below hb)
        replace HB := Hk.mk (kw_step HB.out L0V hb)
        clear hb
        refine hK.out _ _ ?_ (fun hHeld2 => ?_)
        · exact kw_s HB.out
        clear hK K hHeld
        have hHeld := hHeld2
        clear hHeld2
        (try simp only [Act.put, List.getElem_toArray, List.getElem_cons_succ, List.getElem_cons_zero, List.setIfInBounds_toArray, List.set_cons_zero, List.set_cons_succ])
        refine reg_cast (l' := #[true, true, true, true, true, true, true, true, true, true, true, false, true, true, true, true, true, true, true, false, false, false, false]) (by kernel_rfl) ?_
        revert hHeld
        revert L_P
        revert HP_P
        revert HB
        revert P
        revert z
        exact HG5.out
      · skip
        go_simp
        have N_P_Q := HP_P.out.ne
        have N_Q_P := HP_P.out.ne'
        have L_Q := kw_le HB.out L0V
        replace HP_P := Hk.mk (HP_P.out.al (.cells #[.int .i64 0, .int .i64 0] 24))
        have HP_Q : Hk (Bk _ _ #[.int .i64 0, .int .i64 0]) := ⟨Bk.new VA #[.int .i64 0, .int .i64 0] 24⟩
        replace HB := Hk.mk (kw_al HB.out L0V (.cells #[.int .i64 0, .int .i64 0] 24))
        refine hK.out _ _ ?_ (fun hHeld2 => ?_)
        · exact kw_s HB.out
        clear hK K hHeld
        have hHeld := hHeld2
        clear hHeld2
        (try simp only [Act.put, List.getElem_toArray, List.getElem_cons_succ, List.getElem_cons_zero, List.setIfInBounds_toArray, List.set_cons_zero, List.set_cons_succ])
        generalize VA.heap.size = Q at *
        generalize VA.alloc (.cells #[.int .i64 0, .int .i64 0] 24) = VAx at *
        refine reg_cast (l' := #[true, true, true, true, true, false, true, true, true, true, true, false, true, true, true, true, true, true, true, true, false, false, false]) (by kernel_rfl) ?_
        revert hHeld
        revert N_Q_P
        revert N_P_Q
        revert L_Q
        revert L_P
        revert HP_Q
        revert HP_P
        revert HB
        revert Q
        revert P
        revert VAx
        exact HG7.out
      intro VA Q HB HP_Q L_Q hHeld
      refine wpAnyH_ready (rs := [5, 18]) (by kernel_rfl) (by simp) ?_
      refine AllReadyH.cons rfl (fun K hK => ?_) (AllReadyH.cons rfl (fun K hK => ?_) (AllReadyH.nil))
      · skip
        go_simp
        ((go_at_call 24; (first | (with_reducible refine (small_as x y X Y _ hx hy EX EY).mono ?_) | (with_reducible refine (small_as u v U V _ hu hv EU EV).mono ?_)); rintro e z ⟨rfl, hb⟩))
        replace HP_Q := Hk.mk (HP_Q.out.below hb)
        replace HB := Hk.mk (kw_step HB.out L0V hb)
        clear hb
        refine hK.out _ _ ?_ (fun hHeld2 => ?_)
        · exact kw_s HB.out
        clear hK K hHeld
        have hHeld := hHeld2
        clear hHeld2
        (try simp only [Act.put, List.getElem_toArray, List.getElem_cons_succ, List.getElem_cons_zero, List.setIfInBounds_toArray, List.set_cons_zero, List.set_cons_succ])
        refine reg_cast (l' := #[true, true, true, true, true, true, true, true, true, true, true, false, true, true, true, true, true, true, false, true, false, false, false]) (by kernel_rfl) ?_
        revert hHeld
        revert L_Q
        revert HP_Q
        revert HB
        revert Q
        revert z
        exact HG6.out
      · skip
        go_simp
        have N_Q_P := HP_Q.out.ne
        have N_P_Q := HP_Q.out.ne'
        have L_P := kw_le HB.out L0V
        replace HP_Q := Hk.mk (HP_Q.out.al (.cells #[.int .i64 0, .int .i64 0] 24))
        have HP_P : Hk (Bk _ _ #[.int .i64 0, .int .i64 0]) := ⟨Bk.new VA #[.int .i64 0, .int .i64 0] 24⟩
        replace HB := Hk.mk (kw_al HB.out L0V (.cells #[.int .i64 0, .int .i64 0] 24))
        refine hK.out _ _ ?_ (fun hHeld2 => ?_)
        · exact kw_s HB.out
        clear hK K hHeld
        have hHeld := hHeld2
        clear hHeld2
        (try simp only [Act.put, List.getElem_toArray, List.getElem_cons_succ, List.getElem_cons_zero, List.setIfInBounds_toArray, List.set_cons_zero, List.set_cons_succ])
        generalize VA.heap.size = P at *
        generalize VA.alloc (.cells #[.int .i64 0, .int .i64 0] 24) = VAx at *
        refine reg_cast (l' := #[true, true, true, true, true, false, true, true, true, true, true, false, true, true, true, true, true, true, true, true, false, false, false]) (by kernel_rfl) ?_
        revert hHeld
        revert N_Q_P
        revert N_P_Q
        revert L_Q
        revert L_P
        revert HP_Q
        revert HP_P
        revert HB
        revert Q
        revert P
        revert VAx
        exact HG7.out
      intro VA HB hHeld
      refine wpAnyH_ready (rs := [18, 19]) (by kernel_rfl) (by simp) ?_
      refine AllReadyH.cons rfl (fun K hK => ?_) (AllReadyH.cons rfl (fun K hK => ?_) (AllReadyH.nil))
      · skip
        go_simp
        have L_P := kw_le HB.out L0V
        have HP_P : Hk (Bk _ _ #[.int .i64 0, .int .i64 0]) := ⟨Bk.new VA #[.int .i64 0, .int .i64 0] 24⟩
        replace HB := Hk.mk (kw_al HB.out L0V (.cells #[.int .i64 0, .int .i64 0] 24))
        refine hK.out _ _ ?_ (fun hHeld2 => ?_)
        · exact kw_s HB.out
        clear hK K hHeld
        have hHeld := hHeld2
        clear hHeld2
        (try simp only [Act.put, List.getElem_toArray, List.getElem_cons_succ, List.getElem_cons_zero, List.setIfInBounds_toArray, List.set_cons_zero, List.set_cons_succ])
        generalize VA.heap.size = P at *
        generalize VA.alloc (.cells #[.int .i64 0, .int .i64 0] 24) = VAx at *
        refine reg_cast (l' := #[true, true, true, true, true, true, true, true, true, true, true, true, true, true, true, true, true, true, true, false, false, false, false]) (by kernel_rfl) ?_
        revert hHeld
        revert L_P
        revert HP_P
        revert HB
        revert P
        revert VAx
        exact HG8.out
      · skip
        go_simp
        have L_Q := kw_le HB.out L0V
        have HP_Q : Hk (Bk _ _ #[.int .i64 0, .int .i64 0]) := ⟨Bk.new VA #[.int .i64 0, .int .i64 0] 24⟩
        replace HB := Hk.mk (kw_al HB.out L0V (.cells #[.int .i64 0, .int .i64 0] 24))
        refine hK.out _ _ ?_ (fun hHeld2 => ?_)
        · exact kw_s HB.out
        clear hK K hHeld
        have hHeld := hHeld2
        clear hHeld2
        (try simp only [Act.put, List.getElem_toArray, List.getElem_cons_succ, List.getElem_cons_zero, List.setIfInBounds_toArray, List.set_cons_zero, List.set_cons_succ])
        generalize VA.heap.size = Q at *
        generalize VA.alloc (.cells #[.int .i64 0, .int .i64 0] 24) = VAx at *
        refine reg_cast (l' := #[true, true, true, true, true, true, true, true, true, true, true, true, true, true, true, true, true, true, false, true, false, false, false]) (by kernel_rfl) ?_
        revert hHeld
        revert L_Q
        revert HP_Q
        revert HB
        revert Q
        revert VAx
        exact HG9.out
      intro VA P HB HP_P L_P hHeld
      refine wpAnyH_ready (rs := [11, 19]) (by kernel_rfl) (by simp) ?_
      refine AllReadyH.cons rfl (fun K hK => ?_) (AllReadyH.cons rfl (fun K hK => ?_) (AllReadyH.nil))
      · skip
        go_simp
        ((go_at_call 24; (first | (with_reducible refine (small_as x y X Y _ hx hy EX EY).mono ?_) | (with_reducible refine (small_as u v U V _ hu hv EU EV).mono ?_)); rintro e z ⟨rfl, hb⟩))
        replace HP_P := Hk.mk (HP_P.out.below hb)
        replace HB := Hk.mk (kw_step HB.out L0V hb)
        clear hb
        refine hK.out _ _ ?_ (fun hHeld2 => ?_)
        · exact kw_s HB.out
        clear hK K hHeld
        have hHeld := hHeld2
        clear hHeld2
        (try simp only [Act.put, List.getElem_toArray, List.getElem_cons_succ, List.getElem_cons_zero, List.setIfInBounds_toArray, List.set_cons_zero, List.set_cons_succ])
        refine reg_cast (l' := #[true, true, true, true, true, true, true, true, true, true, true, true, true, true, true, true, true, true, true, false, false, false, false]) (by kernel_rfl) ?_
        revert hHeld
        revert L_P
        revert HP_P
        revert HB
        revert P
        revert z
        exact HG8.out
      · skip
        go_simp
        have N_P_Q := HP_P.out.ne
        have N_Q_P := HP_P.out.ne'
        have L_Q := kw_le HB.out L0V
        replace HP_P := Hk.mk (HP_P.out.al (.cells #[.int .i64 0, .int .i64 0] 24))
        have HP_Q : Hk (Bk _ _ #[.int .i64 0, .int .i64 0]) := ⟨Bk.new VA #[.int .i64 0, .int .i64 0] 24⟩
        replace HB := Hk.mk (kw_al HB.out L0V (.cells #[.int .i64 0, .int .i64 0] 24))
        refine hK.out _ _ ?_ (fun hHeld2 => ?_)
        · exact kw_s HB.out
        clear hK K hHeld
        have hHeld := hHeld2
        clear hHeld2
        (try simp only [Act.put, List.getElem_toArray, List.getElem_cons_succ, List.getElem_cons_zero, List.setIfInBounds_toArray, List.set_cons_zero, List.set_cons_succ])
        generalize VA.heap.size = Q at *
        generalize VA.alloc (.cells #[.int .i64 0, .int .i64 0] 24) = VAx at *
        refine reg_cast (l' := #[true, true, true, true, true, true, true, true, true, true, true, false, true, true, true, true, true, true, true, true, false, false, false]) (by kernel_rfl) ?_
        revert hHeld
        revert N_Q_P
        revert N_P_Q
        revert L_Q
        revert L_P
        revert HP_Q
        revert HP_P
        revert HB
        revert Q
        revert P
        revert VAx
        exact HG10.out
      intro VA Q HB HP_Q L_Q hHeld
      refine wpAnyH_ready (rs := [11, 18]) (by kernel_rfl) (by simp) ?_
      refine AllReadyH.cons rfl (fun K hK => ?_) (AllReadyH.cons rfl (fun K hK => ?_) (AllReadyH.nil))
      · skip
        go_simp
        ((go_at_call 24; (first | (with_reducible refine (small_as x y X Y _ hx hy EX EY).mono ?_) | (with_reducible refine (small_as u v U V _ hu hv EU EV).mono ?_)); rintro e z ⟨rfl, hb⟩))
        replace HP_Q := Hk.mk (HP_Q.out.below hb)
        replace HB := Hk.mk (kw_step HB.out L0V hb)
        clear hb
        refine hK.out _ _ ?_ (fun hHeld2 => ?_)
        · exact kw_s HB.out
        clear hK K hHeld
        have hHeld := hHeld2
        clear hHeld2
        (try simp only [Act.put, List.getElem_toArray, List.getElem_cons_succ, List.getElem_cons_zero, List.setIfInBounds_toArray, List.set_cons_zero, List.set_cons_succ])
        refine reg_cast (l' := #[true, true, true, true, true, true, true, true, true, true, true, true, true, true, true, true, true, true, false, true, false, false, false]) (by kernel_rfl) ?_
        revert hHeld
        revert L_Q
        revert HP_Q
        revert HB
        revert Q
        revert z
        exact HG9.out
      · skip
        go_simp
        have N_Q_P := HP_Q.out.ne
        have N_P_Q := HP_Q.out.ne'
        have L_P := kw_le HB.out L0V
        replace HP_Q := Hk.mk (HP_Q.out.al (.cells #[.int .i64 0, .int .i64 0] 24))
        have HP_P : Hk (Bk _ _ #[.int .i64 0, .int .i64 0]) := ⟨Bk.new VA #[.int .i64 0, .int .i64 0] 24⟩
        replace HB := Hk.mk (kw_al HB.out L0V (.cells #[.int .i64 0, .int .i64 0] 24))
        refine hK.out _ _ ?_ (fun hHeld2 => ?_)
        · exact kw_s HB.out
        clear hK K hHeld
        have hHeld := hHeld2
        clear hHeld2
        (try simp only [Act.put, List.getElem_toArray, List.getElem_cons_succ, List.getElem_cons_zero, List.setIfInBounds_toArray, List.set_cons_zero, List.set_cons_succ])
        generalize VA.heap.size = P at *
        generalize VA.alloc (.cells #[.int .i64 0, .int .i64 0] 24) = VAx at *
        refine reg_cast (l' := #[true, true, true, true, true, true, true, true, true, true, true, false, true, true, true, true, true, true, true, true, false, false, false]) (by kernel_rfl) ?_
        revert hHeld
        revert N_Q_P
        revert N_P_Q
        revert L_Q
        revert L_P
        revert HP_Q
        revert HP_P
        revert HB
        revert Q
        revert P
        revert VAx
        exact HG10.out
      intro VA P Q HB HP_P HP_Q L_P L_Q N_P_Q N_Q_P hHeld
      refine wpAnyH_ready (rs := [5]) (by kernel_rfl) (by simp) ?_
      refine AllReadyH.cons rfl (fun K hK => ?_) (AllReadyH.nil)
      · skip
        go_simp
        ((go_at_call 24; (first | (with_reducible refine (small_as x y X Y _ hx hy EX EY).mono ?_) | (with_reducible refine (small_as u v U V _ hu hv EU EV).mono ?_)); rintro e z ⟨rfl, hb⟩))
        replace HP_P := Hk.mk (HP_P.out.below hb)
        replace HP_Q := Hk.mk (HP_Q.out.below hb)
        replace HB := Hk.mk (kw_step HB.out L0V hb)
        clear hb
        refine hK.out _ _ ?_ (fun hHeld2 => ?_)
        · exact kw_s HB.out
        clear hK K hHeld
        have hHeld := hHeld2
        clear hHeld2
        (try simp only [Act.put, List.getElem_toArray, List.getElem_cons_succ, List.getElem_cons_zero, List.setIfInBounds_toArray, List.set_cons_zero, List.set_cons_succ])
        refine reg_cast (l' := #[true, true, true, true, true, true, true, true, true, true, true, false, true, true, true, true, true, true, true, true, false, false, false]) (by kernel_rfl) ?_
        revert hHeld
        revert N_Q_P
        revert N_P_Q
        revert L_Q
        revert L_P
        revert HP_Q
        revert HP_P
        revert HB
        revert Q
        revert P
        revert z
        exact HG10.out
      intro VA P HB HP_P L_P hHeld
      refine wpAnyH_ready (rs := [19]) (by kernel_rfl) (by simp) ?_
      refine AllReadyH.cons rfl (fun K hK => ?_) (AllReadyH.nil)
      · skip
        go_simp
        have N_P_Q := HP_P.out.ne
        have N_Q_P := HP_P.out.ne'
        have L_Q := kw_le HB.out L0V
        replace HP_P := Hk.mk (HP_P.out.al (.cells #[.int .i64 0, .int .i64 0] 24))
        have HP_Q : Hk (Bk _ _ #[.int .i64 0, .int .i64 0]) := ⟨Bk.new VA #[.int .i64 0, .int .i64 0] 24⟩
        replace HB := Hk.mk (kw_al HB.out L0V (.cells #[.int .i64 0, .int .i64 0] 24))
        refine hK.out _ _ ?_ (fun hHeld2 => ?_)
        · exact kw_s HB.out
        clear hK K hHeld
        have hHeld := hHeld2
        clear hHeld2
        (try simp only [Act.put, List.getElem_toArray, List.getElem_cons_succ, List.getElem_cons_zero, List.setIfInBounds_toArray, List.set_cons_zero, List.set_cons_succ])
        generalize VA.heap.size = Q at *
        generalize VA.alloc (.cells #[.int .i64 0, .int .i64 0] 24) = VAx at *
        refine reg_cast (l' := #[true, true, true, true, true, true, true, true, true, true, true, true, true, true, true, true, true, true, true, true, false, false, false]) (by kernel_rfl) ?_
        revert hHeld
        revert N_Q_P
        revert N_P_Q
        revert L_Q
        revert L_P
        revert HP_Q
        revert HP_P
        revert HB
        revert Q
        revert P
        revert VAx
        exact HG11.out
      intro VA Q HB HP_Q L_Q hHeld
      refine wpAnyH_ready (rs := [18]) (by kernel_rfl) (by simp) ?_
      refine AllReadyH.cons rfl (fun K hK => ?_) (AllReadyH.nil)
      · skip
        go_simp
        have N_Q_P := HP_Q.out.ne
        have N_P_Q := HP_Q.out.ne'
        have L_P := kw_le HB.out L0V
        replace HP_Q := Hk.mk (HP_Q.out.al (.cells #[.int .i64 0, .int .i64 0] 24))
        have HP_P : Hk (Bk _ _ #[.int .i64 0, .int .i64 0]) := ⟨Bk.new VA #[.int .i64 0, .int .i64 0] 24⟩
        replace HB := Hk.mk (kw_al HB.out L0V (.cells #[.int .i64 0, .int .i64 0] 24))
        refine hK.out _ _ ?_ (fun hHeld2 => ?_)
        · exact kw_s HB.out
        clear hK K hHeld
        have hHeld := hHeld2
        clear hHeld2
        (try simp only [Act.put, List.getElem_toArray, List.getElem_cons_succ, List.getElem_cons_zero, List.setIfInBounds_toArray, List.set_cons_zero, List.set_cons_succ])
        generalize VA.heap.size = P at *
        generalize VA.alloc (.cells #[.int .i64 0, .int .i64 0] 24) = VAx at *
        refine reg_cast (l' := #[true, true, true, true, true, true, true, true, true, true, true, true, true, true, true, true, true, true, true, true, false, false, false]) (by kernel_rfl) ?_
        revert hHeld
        revert N_Q_P
        revert N_P_Q
        revert L_Q
        revert L_P
        revert HP_Q
        revert HP_P
        revert HB
        revert Q
        revert P
        revert VAx
        exact HG11.out
      intro VA P Q HB HP_P HP_Q L_P L_Q N_P_Q N_Q_P hHeld
      refine wpAnyH_ready (rs := [11]) (by kernel_rfl) (by simp) ?_
      refine AllReadyH.cons rfl (fun K hK => ?_) (AllReadyH.nil)
      · skip
        go_simp
        ((go_at_call 24; (first | (with_reducible refine (small_as x y X Y _ hx hy EX EY).mono ?_) | (with_reducible refine (small_as u v U V _ hu hv EU EV).mono ?_)); rintro e z ⟨rfl, hb⟩))
        replace HP_P := Hk.mk (HP_P.out.below hb)
        replace HP_Q := Hk.mk (HP_Q.out.below hb)
        replace HB := Hk.mk (kw_step HB.out L0V hb)
        clear hb
        refine hK.out _ _ ?_ (fun hHeld2 => ?_)
        · exact kw_s HB.out
        clear hK K hHeld
        have hHeld := hHeld2
        clear hHeld2
        (try simp only [Act.put, List.getElem_toArray, List.getElem_cons_succ, List.getElem_cons_zero, List.setIfInBounds_toArray, List.set_cons_zero, List.set_cons_succ])
        refine reg_cast (l' := #[true, true, true, true, true, true, true, true, true, true, true, true, true, true, true, true, true, true, true, true, false, false, false]) (by kernel_rfl) ?_
        revert hHeld
        revert N_Q_P
        revert N_P_Q
        revert L_Q
        revert L_P
        revert HP_Q
        revert HP_P
        revert HB
        revert Q
        revert P
        revert z
        exact HG11.out
      intro VA P Q HB HP_P HP_Q L_P L_Q N_P_Q N_Q_P hHeld
      refine wpAnyH_ready (rs := [20]) (by kernel_rfl) (by simp) ?_
      refine AllReadyH.cons rfl (fun K hK => ?_) (AllReadyH.nil)
      · skip
        have st_c0 : VA.cell? ⟨P, 0, none⟩ = some (.int .i64 0) := HP_P.out.c 0
        have st_f0 : VA.frozen? ⟨P, 0, none⟩ = false := HP_P.out.f 0
        have st_c1 : VA.cell? ⟨P, 1, none⟩ = some (.int .i64 0) := HP_P.out.c 1
        have st_f1 : VA.frozen? ⟨P, 1, none⟩ = false := HP_P.out.f 1
        go_simp
        clear st_c0 st_f0
        clear st_c1 st_f1
        replace HP_P : Hk (Bk _ P #[.int .i64 X, .int .i64 Y]) := ⟨(Bk.set ((Bk.set (HP_P.out) 0 (.int .i64 X))) 1 (.int .i64 Y))⟩
        replace HP_Q := Hk.mk (Bk.oth ((Bk.oth (HP_Q.out) N_Q_P 0 (.int .i64 X))) N_Q_P 1 (.int .i64 Y))
        replace HB := Hk.mk (Below.setCell (p := ⟨P, 1, none⟩) ((Below.setCell (p := ⟨P, 0, none⟩) (HB.out) L_P (.int .i64 X))) L_P (.int .i64 Y))
        refine hK.out _ _ ?_ (fun hHeld2 => ?_)
        · exact kw_s HB.out
        clear hK K hHeld
        have hHeld := hHeld2
        clear hHeld2
        (try simp only [Act.put, List.getElem_toArray, List.getElem_cons_succ, List.getElem_cons_zero, List.setIfInBounds_toArray, List.set_cons_zero, List.set_cons_succ])
        generalize (World.setCell (World.setCell VA ⟨P, 0, none⟩ (.int .i64 X)) ⟨P, 1, none⟩ (.int .i64 Y)) = VAx at *
        refine reg_cast (l' := #[true, true, true, true, true, true, true, true, true, true, true, true, true, true, true, true, true, true, true, true, true, false, false]) (by kernel_rfl) ?_
        revert hHeld
        revert N_Q_P
        revert N_P_Q
        revert L_Q
        revert L_P
        revert HP_Q
        revert HP_P
        revert HB
        revert Q
        revert P
        revert VAx
        exact HG12.out
      intro VA P Q HB HP_P HP_Q L_P L_Q N_P_Q N_Q_P hHeld
      refine wpAnyH_ready (rs := [21]) (by kernel_rfl) (by simp) ?_
      refine AllReadyH.cons rfl (fun K hK => ?_) (AllReadyH.nil)
      · skip
        have st_c0 : VA.cell? ⟨Q, 0, none⟩ = some (.int .i64 0) := HP_Q.out.c 0
        have st_f0 : VA.frozen? ⟨Q, 0, none⟩ = false := HP_Q.out.f 0
        have st_c1 : VA.cell? ⟨Q, 1, none⟩ = some (.int .i64 0) := HP_Q.out.c 1
        have st_f1 : VA.frozen? ⟨Q, 1, none⟩ = false := HP_Q.out.f 1
        go_simp
        clear st_c0 st_f0
        clear st_c1 st_f1
        replace HP_P := Hk.mk (Bk.oth ((Bk.oth (HP_P.out) N_P_Q 0 (.int .i64 U))) N_P_Q 1 (.int .i64 V))
        replace HP_Q : Hk (Bk _ Q #[.int .i64 U, .int .i64 V]) := ⟨(Bk.set ((Bk.set (HP_Q.out) 0 (.int .i64 U))) 1 (.int .i64 V))⟩
        replace HB := Hk.mk (Below.setCell (p := ⟨Q, 1, none⟩) ((Below.setCell (p := ⟨Q, 0, none⟩) (HB.out) L_Q (.int .i64 U))) L_Q (.int .i64 V))
        refine hK.out _ _ ?_ (fun hHeld2 => ?_)
        · exact kw_s HB.out
        clear hK K hHeld
        have hHeld := hHeld2
        clear hHeld2
        (try simp only [Act.put, List.getElem_toArray, List.getElem_cons_succ, List.getElem_cons_zero, List.setIfInBounds_toArray, List.set_cons_zero, List.set_cons_succ])
        generalize (World.setCell (World.setCell VA ⟨Q, 0, none⟩ (.int .i64 U)) ⟨Q, 1, none⟩ (.int .i64 V)) = VAx at *
        refine wpAnyH_take (i := 22) (v := ?_) rfl (by kernel_rfl) (by kernel_rfl) (by kernel_rfl) (fun _ _ _ h => h) (Or.inl ⟨by rfl, fun wX hSw => ?_⟩) (by assumption) ?_
        rotate_left
        · (try dsimp only at hSw); go_simp; try with_reducible rfl
        (try simp only [Act.put, List.getElem_toArray, List.getElem_cons_succ, List.getElem_cons_zero, List.setIfInBounds_toArray, List.set_cons_zero, List.set_cons_succ])
        refine reg_cast (l' := #[true, true, true, true, true, true, true, true, true, true, true, true, true, true, true, true, true, true, true, true, true, true, true]) (by kernel_rfl) ?_
        revert hHeld
        revert N_Q_P
        revert N_P_Q
        revert L_Q
        revert L_P
        revert HP_Q
        revert HP_P
        revert HB
        revert Q
        revert P
        revert VAx
        exact HG13.out
      intro VA P Q HB HP_P HP_Q L_P L_Q N_P_Q N_Q_P hHeld
      refine wpAnyH_done (by kernel_rfl) ?_ _
      clear d0 d1 d2 d3 d4 hbw hx hy hu hv hbl EX EY EU EV hmx hHeld L_P L_Q L0V N_P_Q N_Q_P
      have L0 : w.heap.size ≤ w.heap.size := Nat.le_refl _
      replace HB := Hk.mk (kw_step HW.out L0 HB.out)
      clear HW
      have e10 : VA.cell? ⟨P, 0, none⟩ = some (.int .i64 X) := HP_P.out.c 0
      have e11 : VA.cell? ⟨P, 1, none⟩ = some (.int .i64 Y) := HP_P.out.c 1
      have e20 : VA.cell? ⟨Q, 0, none⟩ = some (.int .i64 U) := HP_Q.out.c 0
      have e21 : VA.cell? ⟨Q, 1, none⟩ = some (.int .i64 V) := HP_Q.out.c 1
      go_upto_region 6 with (go_at_call 25; (with_reducible refine (toward_as X Y U V m tx ty _ jx jy ju jv jm et et').mono ?_); rintro e z ⟨rfl, hb⟩)
      clear e10 e11 e20 e21
      have HP_R : Hk (Bk _ _ #[.int .i64 tx, .int .i64 ty]) := ⟨Bk.new z #[.int .i64 tx, .int .i64 ty] 24⟩
      replace HP_P := Hk.mk ((HP_P.out.below hb).al (.cells #[.int .i64 tx, .int .i64 ty] 24)); replace HP_Q := Hk.mk ((HP_Q.out.below hb).al (.cells #[.int .i64 tx, .int .i64 ty] 24))
      replace HB := Hk.mk (kw_al (kw_step HB.out L0 hb) L0 (.cells #[.int .i64 tx, .int .i64 ty] 24))
      clear hb
      generalize z.heap.size = R at *
      generalize z.alloc (.cells #[.int .i64 tx, .int .i64 ty] 24) = VA at *
      have e30 : VA.cell? ⟨R, 0, none⟩ = some (.int .i64 tx) := HP_R.out.c 0
      have e31 : VA.cell? ⟨R, 1, none⟩ = some (.int .i64 ty) := HP_R.out.c 1
      have f1 : decide (m < lv) = false := by simp; omega
      go_upto_region 8 with (go_at_call 26; (with_reducible refine (rlen_as tx ty lv _ jt jt' el).mono ?_); rintro e z ⟨rfl, hb⟩; replace HP_P := Hk.mk (HP_P.out.below hb); replace HP_Q := Hk.mk (HP_Q.out.below hb); replace HP_R := Hk.mk (HP_R.out.below hb); replace HB := Hk.mk (kw_step HB.out L0 hb); clear hb)
      clear e30 e31 f1 lm
      generalize z = VA at *
      have e10 : VA.cell? ⟨P, 0, none⟩ = some (.int .i64 X) := HP_P.out.c 0
      have e11 : VA.cell? ⟨P, 1, none⟩ = some (.int .i64 Y) := HP_P.out.c 1
      have e20 : VA.cell? ⟨Q, 0, none⟩ = some (.int .i64 U) := HP_Q.out.c 0
      have e21 : VA.cell? ⟨Q, 1, none⟩ = some (.int .i64 V) := HP_Q.out.c 1
      go_upto_region 9 with (go_at_call 27; (with_reducible refine (rvsub_as U V X Y dx dy _ ju jv jx jy ed ed').mono ?_); rintro e z ⟨rfl, hb⟩)
      clear e10 e11 e20 e21
      have HP_D : Hk (Bk _ _ #[.int .i64 dx, .int .i64 dy]) := ⟨Bk.new z #[.int .i64 dx, .int .i64 dy] 24⟩
      replace HP_P := Hk.mk ((HP_P.out.below hb).al (.cells #[.int .i64 dx, .int .i64 dy] 24)); replace HP_Q := Hk.mk ((HP_Q.out.below hb).al (.cells #[.int .i64 dx, .int .i64 dy] 24)); replace HP_R := Hk.mk ((HP_R.out.below hb).al (.cells #[.int .i64 dx, .int .i64 dy] 24))
      replace HB := Hk.mk (kw_al (kw_step HB.out L0 hb) L0 (.cells #[.int .i64 dx, .int .i64 dy] 24))
      clear hb
      generalize z.heap.size = D at *
      generalize z.alloc (.cells #[.int .i64 dx, .int .i64 dy] 24) = VA at *
      have e40 : VA.cell? ⟨D, 0, none⟩ = some (.int .i64 dx) := HP_D.out.c 0
      have e41 : VA.cell? ⟨D, 1, none⟩ = some (.int .i64 dy) := HP_D.out.c 1
      have e30 : VA.cell? ⟨R, 0, none⟩ = some (.int .i64 tx) := HP_R.out.c 0
      have e31 : VA.cell? ⟨R, 1, none⟩ = some (.int .i64 ty) := HP_R.out.c 1
      by_cases hle : ld ≤ m
      · obtain ⟨rfl, rfl⟩ := EQ.out hle
        go_upto_region 11 with (go_at_call 26; (with_reducible refine (rlen_as _ _ ld _ jd jd' eld).mono ?_); rintro e z ⟨rfl, hb⟩; replace HP_P := Hk.mk (HP_P.out.below hb); replace HP_Q := Hk.mk (HP_Q.out.below hb); replace HP_R := Hk.mk (HP_R.out.below hb); replace HP_D := Hk.mk (HP_D.out.below hb); replace HB := Hk.mk (kw_step HB.out L0 hb); clear hb e30 e31 e40 e41; have e30 : z.cell? ⟨R, 0, none⟩ = some (.int .i64 tx) := HP_R.out.c 0; have e31 : z.cell? ⟨R, 1, none⟩ = some (.int .i64 ty) := HP_R.out.c 1; have e40 : z.cell? ⟨D, 0, none⟩ = some (.int .i64 tx) := HP_D.out.c 0; have e41 : z.cell? ⟨D, 1, none⟩ = some (.int .i64 ty) := HP_D.out.c 1)
        clear e30 e31 e40 e41 HP_D hle jd jd' ed ed' eld EQ
        generalize z = VA at *
        have HB0 := HB
        have e10 : VA.cell? ⟨P, 0, none⟩ = some (.int .i64 X) := HP_P.out.c 0
        have e11 : VA.cell? ⟨P, 1, none⟩ = some (.int .i64 Y) := HP_P.out.c 1
        have e20 : VA.cell? ⟨Q, 0, none⟩ = some (.int .i64 U) := HP_Q.out.c 0
        have e21 : VA.cell? ⟨Q, 1, none⟩ = some (.int .i64 V) := HP_Q.out.c 1
        have e30 : VA.cell? ⟨R, 0, none⟩ = some (.int .i64 tx) := HP_R.out.c 0
        have e31 : VA.cell? ⟨R, 1, none⟩ = some (.int .i64 ty) := HP_R.out.c 1
        have bP := HP_P.out.lt
        have bQ := HP_Q.out.lt
        have bR := HP_R.out.lt
        have L0V : VA.heap.size ≤ VA.heap.size := Nat.le_refl _
        apply reg_merge
        intro HG4
        apply reg_merge
        intro HG3
        apply reg_merge
        intro HG2
        apply reg_merge
        intro HG1
        refine wp_region_held_drew (S := fun Z => (∀ b o, b < VA.heap.size → Z.cell? ⟨b, o, none⟩ = VA.cell? ⟨b, o, none⟩)) (by kernel_rfl) (fun _ _ _ => rfl) (fun hHeld => ?_)
        have HB : Hk (Below VA.heap.size VA VA.drew) := ⟨(Below.refl _ _).drew⟩
        obtain ⟨WB, hWe⟩ : ∃ WB, VA.drew = WB := ⟨_, rfl⟩
        rw [hWe] at HB hHeld ⊢
        clear hWe
        refine wpAnyH_take (i := 0) (v := ?_) rfl (by kernel_rfl) (by kernel_rfl) (by kernel_rfl) (fun _ _ _ h => h) (Or.inl ⟨by rfl, fun wX hSw => ?_⟩) (by assumption) ?_
        rotate_left
        · (try dsimp only at hSw); go_simp; try with_reducible rfl
        (try simp only [Act.put, List.getElem_toArray, List.getElem_cons_succ, List.getElem_cons_zero, List.setIfInBounds_toArray, List.set_cons_zero, List.set_cons_succ])
        refine wpAnyH_take (i := 1) (v := ?_) rfl (by kernel_rfl) (by kernel_rfl) (by kernel_rfl) (fun _ _ _ h => h) (Or.inl ⟨by rfl, fun wX hSw => ?_⟩) (by assumption) ?_
        rotate_left
        · (try dsimp only at hSw); go_simp; try with_reducible rfl
        (try simp only [Act.put, List.getElem_toArray, List.getElem_cons_succ, List.getElem_cons_zero, List.setIfInBounds_toArray, List.set_cons_zero, List.set_cons_succ])
        refine wpAnyH_take (i := 3) (v := ?_) rfl (by kernel_rfl) (by kernel_rfl) (by kernel_rfl) (fun _ _ _ h => h) (Or.inl ⟨by rfl, fun wX hSw => ?_⟩) (by assumption) ?_
        rotate_left
        · (try dsimp only at hSw); go_simp; try with_reducible rfl
        (try simp only [Act.put, List.getElem_toArray, List.getElem_cons_succ, List.getElem_cons_zero, List.setIfInBounds_toArray, List.set_cons_zero, List.set_cons_succ])
        refine wpAnyH_ready (rs := [2]) (by kernel_rfl) (by simp) ?_
        refine AllReadyH.cons rfl (fun K hK => ?_) (AllReadyH.nil)
        · skip
          go_simp
          (first
        | (go_at_call 28; (with_reducible refine (apart_as X Y m 0 0 none 0 0 0 (fun _ => U) (fun _ => V) _ jx jy jm (Vs.nil _ _ _ _ _) (Nat.zero_le _) (by omega) p0 p0').mono ?_); rintro e z ⟨rfl, hb⟩)
        | (go_at_call 29; (first | (with_reducible refine (cohere_as X Y m 0 0 none 0 0 0 (fun _ => U) (fun _ => V) _ jx jy jm (Vs.nil _ _ _ _ _) (Nat.zero_le _) (by omega) c0 c0').mono ?_) | (have HV1 := vs_bk HP_S.out ju jv; (with_reducible refine (cohere_as X Y m tx ty _ _ _ _ (fun _ => U) (fun _ => V) _ jx jy jm HV1 (Nat.le_refl _) (by omega) ec ec').mono ?_); clear HV1)); rintro e z ⟨rfl, hb⟩))
          replace HB := Hk.mk (kw_step HB.out L0V hb)
          clear hb
          refine hK.out _ _ ?_ (fun hHeld2 => ?_)
          · exact kw_s HB.out
          clear hK K hHeld
          have hHeld := hHeld2
          clear hHeld2
          (try simp only [Act.put, List.getElem_toArray, List.getElem_cons_succ, List.getElem_cons_zero, List.setIfInBounds_toArray, List.set_cons_zero, List.set_cons_succ])
          refine wpAnyH_take (i := 4) (v := ?_) rfl (by kernel_rfl) (by kernel_rfl) (by kernel_rfl) (fun _ _ _ h => h) (Or.inl ⟨by rfl, fun wX hSw => ?_⟩) (by assumption) ?_
          rotate_left
          · (try dsimp only at hSw); go_simp; try with_reducible rfl
          (try simp only [Act.put, List.getElem_toArray, List.getElem_cons_succ, List.getElem_cons_zero, List.setIfInBounds_toArray, List.set_cons_zero, List.set_cons_succ])
          refine wpAnyH_take (i := 5) (v := ?_) rfl (by kernel_rfl) (by kernel_rfl) (by kernel_rfl) (fun _ _ _ h => h) (Or.inl ⟨by rfl, fun wX hSw => ?_⟩) (by assumption) ?_
          rotate_left
          · (try dsimp only at hSw); go_simp; try with_reducible rfl
          (try simp only [Act.put, List.getElem_toArray, List.getElem_cons_succ, List.getElem_cons_zero, List.setIfInBounds_toArray, List.set_cons_zero, List.set_cons_succ])
          refine wpAnyH_take (i := 6) (v := ?_) rfl (by kernel_rfl) (by kernel_rfl) (by kernel_rfl) (fun _ _ _ h => h) (Or.inl ⟨by rfl, fun wX hSw => ?_⟩) (by assumption) ?_
          rotate_left
          · (try dsimp only at hSw); go_simp; try with_reducible rfl
          (try simp only [Act.put, List.getElem_toArray, List.getElem_cons_succ, List.getElem_cons_zero, List.setIfInBounds_toArray, List.set_cons_zero, List.set_cons_succ])
          refine wpAnyH_take (i := 7) (v := ?_) rfl (by kernel_rfl) (by kernel_rfl) (by kernel_rfl) (fun _ _ _ h => h) (Or.inl ⟨by rfl, fun wX hSw => ?_⟩) (by assumption) ?_
          rotate_left
          · (try dsimp only at hSw); go_simp; try with_reducible rfl
          (try simp only [Act.put, List.getElem_toArray, List.getElem_cons_succ, List.getElem_cons_zero, List.setIfInBounds_toArray, List.set_cons_zero, List.set_cons_succ])
          refine wpAnyH_take (i := 9) (v := ?_) rfl (by kernel_rfl) (by kernel_rfl) (by kernel_rfl) (fun _ _ _ h => h) (Or.inl ⟨by rfl, fun wX hSw => ?_⟩) (by assumption) ?_
          rotate_left
          · (try dsimp only at hSw); go_simp; try with_reducible rfl
          (try simp only [Act.put, List.getElem_toArray, List.getElem_cons_succ, List.getElem_cons_zero, List.setIfInBounds_toArray, List.set_cons_zero, List.set_cons_succ])
          refine reg_cast (l' := #[true, true, true, true, true, true, true, true, false, true, false, false, false, false, false, false, false, false, false, false, false]) (by kernel_rfl) ?_
          revert hHeld
          revert HB
          revert z
          exact HG1.out
        intro WB HB hHeld
        refine wpAnyH_ready (rs := [8]) (by kernel_rfl) (by simp) ?_
        refine AllReadyH.cons rfl (fun K hK => ?_) (AllReadyH.nil)
        · skip
          go_simp
          (first
        | (go_at_call 28; (with_reducible refine (apart_as X Y m 0 0 none 0 0 0 (fun _ => U) (fun _ => V) _ jx jy jm (Vs.nil _ _ _ _ _) (Nat.zero_le _) (by omega) p0 p0').mono ?_); rintro e z ⟨rfl, hb⟩)
        | (go_at_call 29; (first | (with_reducible refine (cohere_as X Y m 0 0 none 0 0 0 (fun _ => U) (fun _ => V) _ jx jy jm (Vs.nil _ _ _ _ _) (Nat.zero_le _) (by omega) c0 c0').mono ?_) | (have HV1 := vs_bk HP_S.out ju jv; (with_reducible refine (cohere_as X Y m tx ty _ _ _ _ (fun _ => U) (fun _ => V) _ jx jy jm HV1 (Nat.le_refl _) (by omega) ec ec').mono ?_); clear HV1)); rintro e z ⟨rfl, hb⟩))
          replace HB := Hk.mk (kw_step HB.out L0V hb)
          clear hb
          refine hK.out _ _ ?_ (fun hHeld2 => ?_)
          · exact kw_s HB.out
          clear hK K hHeld
          have hHeld := hHeld2
          clear hHeld2
          (try simp only [Act.put, List.getElem_toArray, List.getElem_cons_succ, List.getElem_cons_zero, List.setIfInBounds_toArray, List.set_cons_zero, List.set_cons_succ])
          refine wpAnyH_take (i := 10) (v := ?_) rfl (by kernel_rfl) (by kernel_rfl) (by kernel_rfl) (fun _ _ _ h => h) (Or.inl ⟨by rfl, fun wX hSw => ?_⟩) (by assumption) ?_
          rotate_left
          · (try dsimp only at hSw); go_simp; try with_reducible rfl
          (try simp only [Act.put, List.getElem_toArray, List.getElem_cons_succ, List.getElem_cons_zero, List.setIfInBounds_toArray, List.set_cons_zero, List.set_cons_succ])
          refine wpAnyH_take (i := 11) (v := ?_) rfl (by kernel_rfl) (by kernel_rfl) (by kernel_rfl) (fun _ _ _ h => h) (Or.inl ⟨by rfl, fun wX hSw => ?_⟩) (by assumption) ?_
          rotate_left
          · (try dsimp only at hSw); go_simp; try with_reducible rfl
          (try simp only [Act.put, List.getElem_toArray, List.getElem_cons_succ, List.getElem_cons_zero, List.setIfInBounds_toArray, List.set_cons_zero, List.set_cons_succ])
          refine wpAnyH_take (i := 12) (v := ?_) rfl (by kernel_rfl) (by kernel_rfl) (by kernel_rfl) (fun _ _ _ h => h) (Or.inl ⟨by rfl, fun wX hSw => ?_⟩) (by assumption) ?_
          rotate_left
          · (try dsimp only at hSw); go_simp; try with_reducible rfl
          (try simp only [Act.put, List.getElem_toArray, List.getElem_cons_succ, List.getElem_cons_zero, List.setIfInBounds_toArray, List.set_cons_zero, List.set_cons_succ])
          refine wpAnyH_take (i := 13) (v := ?_) rfl (by kernel_rfl) (by kernel_rfl) (by kernel_rfl) (fun _ _ _ h => h) (Or.inl ⟨by rfl, fun wX hSw => ?_⟩) (by assumption) ?_
          rotate_left
          · (try dsimp only at hSw); go_simp; try with_reducible rfl
          (try simp only [Act.put, List.getElem_toArray, List.getElem_cons_succ, List.getElem_cons_zero, List.setIfInBounds_toArray, List.set_cons_zero, List.set_cons_succ])
          refine wpAnyH_take (i := 14) (v := ?_) rfl (by kernel_rfl) (by kernel_rfl) (by kernel_rfl) (fun _ _ _ h => h) (Or.inl ⟨by rfl, fun wX hSw => ?_⟩) (by assumption) ?_
          rotate_left
          · (try dsimp only at hSw); go_simp; try with_reducible rfl
          (try simp only [Act.put, List.getElem_toArray, List.getElem_cons_succ, List.getElem_cons_zero, List.setIfInBounds_toArray, List.set_cons_zero, List.set_cons_succ])
          refine wpAnyH_take (i := 16) (v := ?_) rfl (by kernel_rfl) (by kernel_rfl) (by kernel_rfl) (fun _ _ _ h => h) (Or.inl ⟨by rfl, fun wX hSw => ?_⟩) (by assumption) ?_
          rotate_left
          · (try dsimp only at hSw); go_simp; try with_reducible rfl
          (try simp only [Act.put, List.getElem_toArray, List.getElem_cons_succ, List.getElem_cons_zero, List.setIfInBounds_toArray, List.set_cons_zero, List.set_cons_succ])
          refine wpAnyH_take (i := 18) (v := ?_) rfl (by kernel_rfl) (by kernel_rfl) (by kernel_rfl) (fun _ _ _ h => h) (Or.inl ⟨by rfl, fun wX hSw => ?_⟩) (by assumption) ?_
          rotate_left
          · (try dsimp only at hSw); go_simp; try with_reducible rfl
          (try simp only [Act.put, List.getElem_toArray, List.getElem_cons_succ, List.getElem_cons_zero, List.setIfInBounds_toArray, List.set_cons_zero, List.set_cons_succ])
          refine reg_cast (l' := #[true, true, true, true, true, true, true, true, true, true, true, true, true, true, true, false, true, false, true, false, false]) (by kernel_rfl) ?_
          revert hHeld
          revert HB
          revert z
          exact HG2.out
        intro WB HB hHeld
        refine wpAnyH_ready (rs := [15]) (by kernel_rfl) (by simp) ?_
        refine AllReadyH.cons rfl (fun K hK => ?_) (AllReadyH.nil)
        · skip
          go_simp
          have L_S := kw_le HB.out L0V
          have HP_S : Hk (Bk _ _ #[.int .i64 U, .int .i64 V]) := ⟨Bk.new WB #[.int .i64 U, .int .i64 V] 24⟩
          replace HB := Hk.mk (kw_al HB.out L0V (.cells #[.int .i64 U, .int .i64 V] 24))
          refine hK.out _ _ ?_ (fun hHeld2 => ?_)
          · exact kw_s HB.out
          clear hK K hHeld
          have hHeld := hHeld2
          clear hHeld2
          (try simp only [Act.put, List.getElem_toArray, List.getElem_cons_succ, List.getElem_cons_zero, List.setIfInBounds_toArray, List.set_cons_zero, List.set_cons_succ])
          generalize WB.heap.size = S at *
          generalize WB.alloc (.cells #[.int .i64 U, .int .i64 V] 24) = WBx at *
          refine reg_cast (l' := #[true, true, true, true, true, true, true, true, true, true, true, true, true, true, true, true, true, false, true, false, false]) (by kernel_rfl) ?_
          revert hHeld
          revert L_S
          revert HP_S
          revert HB
          revert S
          revert WBx
          exact HG3.out
        intro WB S HB HP_S L_S hHeld
        refine wpAnyH_ready (rs := [17]) (by kernel_rfl) (by simp) ?_
        refine AllReadyH.cons rfl (fun K hK => ?_) (AllReadyH.nil)
        · skip
          go_simp
          (first
        | (go_at_call 28; (with_reducible refine (apart_as X Y m 0 0 none 0 0 0 (fun _ => U) (fun _ => V) _ jx jy jm (Vs.nil _ _ _ _ _) (Nat.zero_le _) (by omega) p0 p0').mono ?_); rintro e z ⟨rfl, hb⟩)
        | (go_at_call 29; (first | (with_reducible refine (cohere_as X Y m 0 0 none 0 0 0 (fun _ => U) (fun _ => V) _ jx jy jm (Vs.nil _ _ _ _ _) (Nat.zero_le _) (by omega) c0 c0').mono ?_) | (have HV1 := vs_bk HP_S.out ju jv; (with_reducible refine (cohere_as X Y m tx ty _ _ _ _ (fun _ => U) (fun _ => V) _ jx jy jm HV1 (Nat.le_refl _) (by omega) ec ec').mono ?_); clear HV1)); rintro e z ⟨rfl, hb⟩))
          replace HP_S := Hk.mk (HP_S.out.below hb)
          replace HB := Hk.mk (kw_step HB.out L0V hb)
          clear hb
          refine hK.out _ _ ?_ (fun hHeld2 => ?_)
          · exact kw_s HB.out
          clear hK K hHeld
          have hHeld := hHeld2
          clear hHeld2
          (try simp only [Act.put, List.getElem_toArray, List.getElem_cons_succ, List.getElem_cons_zero, List.setIfInBounds_toArray, List.set_cons_zero, List.set_cons_succ])
          refine wpAnyH_take (i := 19) (v := ?_) rfl (by kernel_rfl) (by kernel_rfl) (by kernel_rfl) (fun _ _ _ h => h) (Or.inl ⟨by rfl, fun wX hSw => ?_⟩) (by assumption) ?_
          rotate_left
          · (try dsimp only at hSw); go_simp; try with_reducible rfl
          (try simp only [Act.put, List.getElem_toArray, List.getElem_cons_succ, List.getElem_cons_zero, List.setIfInBounds_toArray, List.set_cons_zero, List.set_cons_succ])
          refine wpAnyH_take (i := 20) (v := ?_) rfl (by kernel_rfl) (by kernel_rfl) (by kernel_rfl) (fun _ _ _ h => h) (Or.inl ⟨by rfl, fun wX hSw => ?_⟩) (by assumption) ?_
          rotate_left
          · (try dsimp only at hSw); go_simp; try with_reducible rfl
          (try simp only [Act.put, List.getElem_toArray, List.getElem_cons_succ, List.getElem_cons_zero, List.setIfInBounds_toArray, List.set_cons_zero, List.set_cons_succ])
          refine reg_cast (l' := #[true, true, true, true, true, true, true, true, true, true, true, true, true, true, true, true, true, true, true, true, true]) (by kernel_rfl) ?_
          revert hHeld
          revert L_S
          revert HP_S
          revert HB
          revert S
          revert z
          exact HG4.out
        intro WB S HB HP_S L_S hHeld
        refine wpAnyH_done (by kernel_rfl) ?_ _
        replace HB0 := Hk.mk (kw_step HB0.out L0 HB.out)
        replace HP_P := Hk.mk (HP_P.out.below HB.out)
        replace HP_Q := Hk.mk (HP_Q.out.below HB.out)
        clear HB e10 e11 e20 e21 e30 e31 bP bQ bR HP_R HP_S L_S ec ec' c0 c0' p0 p0' hHeld et et' el jt jt'
        have e10 : WB.cell? ⟨P, 0, none⟩ = some (.int .i64 X) := HP_P.out.c 0
        have e11 : WB.cell? ⟨P, 1, none⟩ = some (.int .i64 Y) := HP_P.out.c 1
        have e20 : WB.cell? ⟨Q, 0, none⟩ = some (.int .i64 U) := HP_Q.out.c 0
        have e21 : WB.cell? ⟨Q, 1, none⟩ = some (.int .i64 V) := HP_Q.out.c 1
        go_upto_region 14 with (go_at_call 28; (with_reducible refine (apart_as X Y m ax ay _ _ _ _ (fun _ => U) (fun _ => V) _ jx jy jm (vs_lit1 WB U V _ ju jv) (by simp) (by omega) ea ea').mono ?_); rintro e z ⟨rfl, hb⟩)
        clear e10 e11 e20 e21
        have HP_A : Hk (Bk _ _ #[.int .i64 ax, .int .i64 ay]) := ⟨Bk.new z #[.int .i64 ax, .int .i64 ay] 24⟩
        replace HP_P := Hk.mk (((HP_P.out.al (.cells #[.int .i64 U, .int .i64 V] 24)).below hb).al (.cells #[.int .i64 ax, .int .i64 ay] 24))
        replace HP_Q := Hk.mk (((HP_Q.out.al (.cells #[.int .i64 U, .int .i64 V] 24)).below hb).al (.cells #[.int .i64 ax, .int .i64 ay] 24))
        have HB := Hk.mk (kw_al (kw_step (kw_al HB0.out L0 (.cells #[.int .i64 U, .int .i64 V] 24)) L0 hb) L0 (.cells #[.int .i64 ax, .int .i64 ay] 24))
        clear hb HB0
        generalize z.heap.size = A at *
        generalize z.alloc (.cells #[.int .i64 ax, .int .i64 ay] 24) = VB at *
        clear ea ea' j1 j2
        have e10 : VB.cell? ⟨P, 0, none⟩ = some (.int .i64 X) := HP_P.out.c 0
        have e11 : VB.cell? ⟨P, 1, none⟩ = some (.int .i64 Y) := HP_P.out.c 1
        have e20 : VB.cell? ⟨Q, 0, none⟩ = some (.int .i64 U) := HP_Q.out.c 0
        have e21 : VB.cell? ⟨Q, 1, none⟩ = some (.int .i64 V) := HP_Q.out.c 1
        cases wi
        · obtain ⟨rfl, rfl⟩ := NO.out rfl
          go_wp2_with (go_at_call 30; (with_reducible refine (rwithin_as X Y U V m _ _ jx jy ju jv jm ew).mono ?_); rintro e z ⟨rfl, hb⟩; replace HP_P := Hk.mk (HP_P.out.below hb); replace HP_Q := Hk.mk (HP_Q.out.below hb); replace HP_A := Hk.mk (HP_A.out.below hb); replace HB := Hk.mk (kw_step HB.out L0 hb); clear hb e10 e11 e20 e21; have e10 : z.cell? ⟨P, 0, none⟩ = some (.int .i64 X) := HP_P.out.c 0; have e11 : z.cell? ⟨P, 1, none⟩ = some (.int .i64 Y) := HP_P.out.c 1; have e20 : z.cell? ⟨Q, 0, none⟩ = some (.int .i64 U) := HP_Q.out.c 0; have e21 : z.cell? ⟨Q, 1, none⟩ = some (.int .i64 V) := HP_Q.out.c 1; have e50 : z.cell? ⟨A, 0, none⟩ = some (.int .i64 0) := HP_A.out.c 0; have e51 : z.cell? ⟨A, 1, none⟩ = some (.int .i64 0) := HP_A.out.c 1)
          exact ⟨⟨k + 1, by go_num, by omega, by omega, HB⟩, by simp [intOf]; omega⟩
        · obtain ⟨sx, sx', sy, sy'⟩ := SG.out
          have CX : (decide (ax < 0) = true ∧ decide (U < X) = false ∧ decide (0 < ax) = false) ∨ (decide (ax < 0) = false ∧ decide (0 < ax) = false) ∨ (decide (ax < 0) = false ∧ decide (0 < ax) = true ∧ decide (X < U) = false) := by simp; omega
          have CY : (decide (ay < 0) = true ∧ decide (V < Y) = false ∧ decide (0 < ay) = false) ∨ (decide (ay < 0) = false ∧ decide (0 < ay) = false) ∨ (decide (ay < 0) = false ∧ decide (0 < ay) = true ∧ decide (Y < V) = false) := by simp; omega
          clear sx sx' sy sy' SG NO
          rcases CX with ⟨s1, s2, s3⟩ | ⟨s1, s2⟩ | ⟨s1, s2, s3⟩ <;> rcases CY with ⟨t1, t2, t3⟩ | ⟨t1, t2⟩ | ⟨t1, t2, t3⟩
          all_goals
            go_wp2_with (go_at_call 30; (with_reducible refine (rwithin_as X Y U V m _ _ jx jy ju jv jm ew).mono ?_); rintro e z ⟨rfl, hb⟩; replace HP_P := Hk.mk (HP_P.out.below hb); replace HP_Q := Hk.mk (HP_Q.out.below hb); replace HP_A := Hk.mk (HP_A.out.below hb); replace HB := Hk.mk (kw_step HB.out L0 hb); clear hb e10 e11 e20 e21; have e10 : z.cell? ⟨P, 0, none⟩ = some (.int .i64 X) := HP_P.out.c 0; have e11 : z.cell? ⟨P, 1, none⟩ = some (.int .i64 Y) := HP_P.out.c 1; have e20 : z.cell? ⟨Q, 0, none⟩ = some (.int .i64 U) := HP_Q.out.c 0; have e21 : z.cell? ⟨Q, 1, none⟩ = some (.int .i64 V) := HP_Q.out.c 1; have e50 : z.cell? ⟨A, 0, none⟩ = some (.int .i64 ax) := HP_A.out.c 0; have e51 : z.cell? ⟨A, 1, none⟩ = some (.int .i64 ay) := HP_A.out.c 1)
            exact ⟨⟨k + 1, by go_num, by omega, by omega, HB⟩, by simp [intOf]; omega⟩
      · go_upto_region 11 with (go_at_call 26; (with_reducible refine (rlen_as _ _ ld _ jd jd' eld).mono ?_); rintro e z ⟨rfl, hb⟩; replace HP_P := Hk.mk (HP_P.out.below hb); replace HP_Q := Hk.mk (HP_Q.out.below hb); replace HP_R := Hk.mk (HP_R.out.below hb); replace HP_D := Hk.mk (HP_D.out.below hb); replace HB := Hk.mk (kw_step HB.out L0 hb); clear hb e30 e31 e40 e41)
        clear HP_D hle jd jd' ed ed' eld EQ
        generalize z = VA at *
        have HB0 := HB
        have e10 : VA.cell? ⟨P, 0, none⟩ = some (.int .i64 X) := HP_P.out.c 0
        have e11 : VA.cell? ⟨P, 1, none⟩ = some (.int .i64 Y) := HP_P.out.c 1
        have e20 : VA.cell? ⟨Q, 0, none⟩ = some (.int .i64 U) := HP_Q.out.c 0
        have e21 : VA.cell? ⟨Q, 1, none⟩ = some (.int .i64 V) := HP_Q.out.c 1
        have e30 : VA.cell? ⟨R, 0, none⟩ = some (.int .i64 tx) := HP_R.out.c 0
        have e31 : VA.cell? ⟨R, 1, none⟩ = some (.int .i64 ty) := HP_R.out.c 1
        have bP := HP_P.out.lt
        have bQ := HP_Q.out.lt
        have bR := HP_R.out.lt
        have L0V : VA.heap.size ≤ VA.heap.size := Nat.le_refl _
        apply reg_merge
        intro HG4
        apply reg_merge
        intro HG3
        apply reg_merge
        intro HG2
        apply reg_merge
        intro HG1
        refine wp_region_held_drew (S := fun Z => (∀ b o, b < VA.heap.size → Z.cell? ⟨b, o, none⟩ = VA.cell? ⟨b, o, none⟩)) (by kernel_rfl) (fun _ _ _ => rfl) (fun hHeld => ?_)
        have HB : Hk (Below VA.heap.size VA VA.drew) := ⟨(Below.refl _ _).drew⟩
        obtain ⟨WB, hWe⟩ : ∃ WB, VA.drew = WB := ⟨_, rfl⟩
        rw [hWe] at HB hHeld ⊢
        clear hWe
        refine wpAnyH_take (i := 0) (v := ?_) rfl (by kernel_rfl) (by kernel_rfl) (by kernel_rfl) (fun _ _ _ h => h) (Or.inl ⟨by rfl, fun wX hSw => ?_⟩) (by assumption) ?_
        rotate_left
        · (try dsimp only at hSw); go_simp; try with_reducible rfl
        (try simp only [Act.put, List.getElem_toArray, List.getElem_cons_succ, List.getElem_cons_zero, List.setIfInBounds_toArray, List.set_cons_zero, List.set_cons_succ])
        refine wpAnyH_take (i := 1) (v := ?_) rfl (by kernel_rfl) (by kernel_rfl) (by kernel_rfl) (fun _ _ _ h => h) (Or.inl ⟨by rfl, fun wX hSw => ?_⟩) (by assumption) ?_
        rotate_left
        · (try dsimp only at hSw); go_simp; try with_reducible rfl
        (try simp only [Act.put, List.getElem_toArray, List.getElem_cons_succ, List.getElem_cons_zero, List.setIfInBounds_toArray, List.set_cons_zero, List.set_cons_succ])
        refine wpAnyH_take (i := 3) (v := ?_) rfl (by kernel_rfl) (by kernel_rfl) (by kernel_rfl) (fun _ _ _ h => h) (Or.inl ⟨by rfl, fun wX hSw => ?_⟩) (by assumption) ?_
        rotate_left
        · (try dsimp only at hSw); go_simp; try with_reducible rfl
        (try simp only [Act.put, List.getElem_toArray, List.getElem_cons_succ, List.getElem_cons_zero, List.setIfInBounds_toArray, List.set_cons_zero, List.set_cons_succ])
        refine wpAnyH_ready (rs := [2]) (by kernel_rfl) (by simp) ?_
        refine AllReadyH.cons rfl (fun K hK => ?_) (AllReadyH.nil)
        · skip
          go_simp
          (first
        | (go_at_call 28; (with_reducible refine (apart_as X Y m 0 0 none 0 0 0 (fun _ => U) (fun _ => V) _ jx jy jm (Vs.nil _ _ _ _ _) (Nat.zero_le _) (by omega) p0 p0').mono ?_); rintro e z ⟨rfl, hb⟩)
        | (go_at_call 29; (first | (with_reducible refine (cohere_as X Y m 0 0 none 0 0 0 (fun _ => U) (fun _ => V) _ jx jy jm (Vs.nil _ _ _ _ _) (Nat.zero_le _) (by omega) c0 c0').mono ?_) | (have HV1 := vs_bk HP_S.out ju jv; (with_reducible refine (cohere_as X Y m tx ty _ _ _ _ (fun _ => U) (fun _ => V) _ jx jy jm HV1 (Nat.le_refl _) (by omega) ec ec').mono ?_); clear HV1)); rintro e z ⟨rfl, hb⟩))
          replace HB := Hk.mk (kw_step HB.out L0V hb)
          clear hb
          refine hK.out _ _ ?_ (fun hHeld2 => ?_)
          · exact kw_s HB.out
          clear hK K hHeld
          have hHeld := hHeld2
          clear hHeld2
          (try simp only [Act.put, List.getElem_toArray, List.getElem_cons_succ, List.getElem_cons_zero, List.setIfInBounds_toArray, List.set_cons_zero, List.set_cons_succ])
          refine wpAnyH_take (i := 4) (v := ?_) rfl (by kernel_rfl) (by kernel_rfl) (by kernel_rfl) (fun _ _ _ h => h) (Or.inl ⟨by rfl, fun wX hSw => ?_⟩) (by assumption) ?_
          rotate_left
          · (try dsimp only at hSw); go_simp; try with_reducible rfl
          (try simp only [Act.put, List.getElem_toArray, List.getElem_cons_succ, List.getElem_cons_zero, List.setIfInBounds_toArray, List.set_cons_zero, List.set_cons_succ])
          refine wpAnyH_take (i := 5) (v := ?_) rfl (by kernel_rfl) (by kernel_rfl) (by kernel_rfl) (fun _ _ _ h => h) (Or.inl ⟨by rfl, fun wX hSw => ?_⟩) (by assumption) ?_
          rotate_left
          · (try dsimp only at hSw); go_simp; try with_reducible rfl
          (try simp only [Act.put, List.getElem_toArray, List.getElem_cons_succ, List.getElem_cons_zero, List.setIfInBounds_toArray, List.set_cons_zero, List.set_cons_succ])
          refine wpAnyH_take (i := 6) (v := ?_) rfl (by kernel_rfl) (by kernel_rfl) (by kernel_rfl) (fun _ _ _ h => h) (Or.inl ⟨by rfl, fun wX hSw => ?_⟩) (by assumption) ?_
          rotate_left
          · (try dsimp only at hSw); go_simp; try with_reducible rfl
          (try simp only [Act.put, List.getElem_toArray, List.getElem_cons_succ, List.getElem_cons_zero, List.setIfInBounds_toArray, List.set_cons_zero, List.set_cons_succ])
          refine wpAnyH_take (i := 7) (v := ?_) rfl (by kernel_rfl) (by kernel_rfl) (by kernel_rfl) (fun _ _ _ h => h) (Or.inl ⟨by rfl, fun wX hSw => ?_⟩) (by assumption) ?_
          rotate_left
          · (try dsimp only at hSw); go_simp; try with_reducible rfl
          (try simp only [Act.put, List.getElem_toArray, List.getElem_cons_succ, List.getElem_cons_zero, List.setIfInBounds_toArray, List.set_cons_zero, List.set_cons_succ])
          refine wpAnyH_take (i := 9) (v := ?_) rfl (by kernel_rfl) (by kernel_rfl) (by kernel_rfl) (fun _ _ _ h => h) (Or.inl ⟨by rfl, fun wX hSw => ?_⟩) (by assumption) ?_
          rotate_left
          · (try dsimp only at hSw); go_simp; try with_reducible rfl
          (try simp only [Act.put, List.getElem_toArray, List.getElem_cons_succ, List.getElem_cons_zero, List.setIfInBounds_toArray, List.set_cons_zero, List.set_cons_succ])
          refine reg_cast (l' := #[true, true, true, true, true, true, true, true, false, true, false, false, false, false, false, false, false, false, false, false, false]) (by kernel_rfl) ?_
          revert hHeld
          revert HB
          revert z
          exact HG1.out
        intro WB HB hHeld
        refine wpAnyH_ready (rs := [8]) (by kernel_rfl) (by simp) ?_
        refine AllReadyH.cons rfl (fun K hK => ?_) (AllReadyH.nil)
        · skip
          go_simp
          (first
        | (go_at_call 28; (with_reducible refine (apart_as X Y m 0 0 none 0 0 0 (fun _ => U) (fun _ => V) _ jx jy jm (Vs.nil _ _ _ _ _) (Nat.zero_le _) (by omega) p0 p0').mono ?_); rintro e z ⟨rfl, hb⟩)
        | (go_at_call 29; (first | (with_reducible refine (cohere_as X Y m 0 0 none 0 0 0 (fun _ => U) (fun _ => V) _ jx jy jm (Vs.nil _ _ _ _ _) (Nat.zero_le _) (by omega) c0 c0').mono ?_) | (have HV1 := vs_bk HP_S.out ju jv; (with_reducible refine (cohere_as X Y m tx ty _ _ _ _ (fun _ => U) (fun _ => V) _ jx jy jm HV1 (Nat.le_refl _) (by omega) ec ec').mono ?_); clear HV1)); rintro e z ⟨rfl, hb⟩))
          replace HB := Hk.mk (kw_step HB.out L0V hb)
          clear hb
          refine hK.out _ _ ?_ (fun hHeld2 => ?_)
          · exact kw_s HB.out
          clear hK K hHeld
          have hHeld := hHeld2
          clear hHeld2
          (try simp only [Act.put, List.getElem_toArray, List.getElem_cons_succ, List.getElem_cons_zero, List.setIfInBounds_toArray, List.set_cons_zero, List.set_cons_succ])
          refine wpAnyH_take (i := 10) (v := ?_) rfl (by kernel_rfl) (by kernel_rfl) (by kernel_rfl) (fun _ _ _ h => h) (Or.inl ⟨by rfl, fun wX hSw => ?_⟩) (by assumption) ?_
          rotate_left
          · (try dsimp only at hSw); go_simp; try with_reducible rfl
          (try simp only [Act.put, List.getElem_toArray, List.getElem_cons_succ, List.getElem_cons_zero, List.setIfInBounds_toArray, List.set_cons_zero, List.set_cons_succ])
          refine wpAnyH_take (i := 11) (v := ?_) rfl (by kernel_rfl) (by kernel_rfl) (by kernel_rfl) (fun _ _ _ h => h) (Or.inl ⟨by rfl, fun wX hSw => ?_⟩) (by assumption) ?_
          rotate_left
          · (try dsimp only at hSw); go_simp; try with_reducible rfl
          (try simp only [Act.put, List.getElem_toArray, List.getElem_cons_succ, List.getElem_cons_zero, List.setIfInBounds_toArray, List.set_cons_zero, List.set_cons_succ])
          refine wpAnyH_take (i := 12) (v := ?_) rfl (by kernel_rfl) (by kernel_rfl) (by kernel_rfl) (fun _ _ _ h => h) (Or.inl ⟨by rfl, fun wX hSw => ?_⟩) (by assumption) ?_
          rotate_left
          · (try dsimp only at hSw); go_simp; try with_reducible rfl
          (try simp only [Act.put, List.getElem_toArray, List.getElem_cons_succ, List.getElem_cons_zero, List.setIfInBounds_toArray, List.set_cons_zero, List.set_cons_succ])
          refine wpAnyH_take (i := 13) (v := ?_) rfl (by kernel_rfl) (by kernel_rfl) (by kernel_rfl) (fun _ _ _ h => h) (Or.inl ⟨by rfl, fun wX hSw => ?_⟩) (by assumption) ?_
          rotate_left
          · (try dsimp only at hSw); go_simp; try with_reducible rfl
          (try simp only [Act.put, List.getElem_toArray, List.getElem_cons_succ, List.getElem_cons_zero, List.setIfInBounds_toArray, List.set_cons_zero, List.set_cons_succ])
          refine wpAnyH_take (i := 14) (v := ?_) rfl (by kernel_rfl) (by kernel_rfl) (by kernel_rfl) (fun _ _ _ h => h) (Or.inl ⟨by rfl, fun wX hSw => ?_⟩) (by assumption) ?_
          rotate_left
          · (try dsimp only at hSw); go_simp; try with_reducible rfl
          (try simp only [Act.put, List.getElem_toArray, List.getElem_cons_succ, List.getElem_cons_zero, List.setIfInBounds_toArray, List.set_cons_zero, List.set_cons_succ])
          refine wpAnyH_take (i := 16) (v := ?_) rfl (by kernel_rfl) (by kernel_rfl) (by kernel_rfl) (fun _ _ _ h => h) (Or.inl ⟨by rfl, fun wX hSw => ?_⟩) (by assumption) ?_
          rotate_left
          · (try dsimp only at hSw); go_simp; try with_reducible rfl
          (try simp only [Act.put, List.getElem_toArray, List.getElem_cons_succ, List.getElem_cons_zero, List.setIfInBounds_toArray, List.set_cons_zero, List.set_cons_succ])
          refine wpAnyH_take (i := 18) (v := ?_) rfl (by kernel_rfl) (by kernel_rfl) (by kernel_rfl) (fun _ _ _ h => h) (Or.inl ⟨by rfl, fun wX hSw => ?_⟩) (by assumption) ?_
          rotate_left
          · (try dsimp only at hSw); go_simp; try with_reducible rfl
          (try simp only [Act.put, List.getElem_toArray, List.getElem_cons_succ, List.getElem_cons_zero, List.setIfInBounds_toArray, List.set_cons_zero, List.set_cons_succ])
          refine reg_cast (l' := #[true, true, true, true, true, true, true, true, true, true, true, true, true, true, true, false, true, false, true, false, false]) (by kernel_rfl) ?_
          revert hHeld
          revert HB
          revert z
          exact HG2.out
        intro WB HB hHeld
        refine wpAnyH_ready (rs := [15]) (by kernel_rfl) (by simp) ?_
        refine AllReadyH.cons rfl (fun K hK => ?_) (AllReadyH.nil)
        · skip
          go_simp
          have L_S := kw_le HB.out L0V
          have HP_S : Hk (Bk _ _ #[.int .i64 U, .int .i64 V]) := ⟨Bk.new WB #[.int .i64 U, .int .i64 V] 24⟩
          replace HB := Hk.mk (kw_al HB.out L0V (.cells #[.int .i64 U, .int .i64 V] 24))
          refine hK.out _ _ ?_ (fun hHeld2 => ?_)
          · exact kw_s HB.out
          clear hK K hHeld
          have hHeld := hHeld2
          clear hHeld2
          (try simp only [Act.put, List.getElem_toArray, List.getElem_cons_succ, List.getElem_cons_zero, List.setIfInBounds_toArray, List.set_cons_zero, List.set_cons_succ])
          generalize WB.heap.size = S at *
          generalize WB.alloc (.cells #[.int .i64 U, .int .i64 V] 24) = WBx at *
          refine reg_cast (l' := #[true, true, true, true, true, true, true, true, true, true, true, true, true, true, true, true, true, false, true, false, false]) (by kernel_rfl) ?_
          revert hHeld
          revert L_S
          revert HP_S
          revert HB
          revert S
          revert WBx
          exact HG3.out
        intro WB S HB HP_S L_S hHeld
        refine wpAnyH_ready (rs := [17]) (by kernel_rfl) (by simp) ?_
        refine AllReadyH.cons rfl (fun K hK => ?_) (AllReadyH.nil)
        · skip
          go_simp
          (first
        | (go_at_call 28; (with_reducible refine (apart_as X Y m 0 0 none 0 0 0 (fun _ => U) (fun _ => V) _ jx jy jm (Vs.nil _ _ _ _ _) (Nat.zero_le _) (by omega) p0 p0').mono ?_); rintro e z ⟨rfl, hb⟩)
        | (go_at_call 29; (first | (with_reducible refine (cohere_as X Y m 0 0 none 0 0 0 (fun _ => U) (fun _ => V) _ jx jy jm (Vs.nil _ _ _ _ _) (Nat.zero_le _) (by omega) c0 c0').mono ?_) | (have HV1 := vs_bk HP_S.out ju jv; (with_reducible refine (cohere_as X Y m tx ty _ _ _ _ (fun _ => U) (fun _ => V) _ jx jy jm HV1 (Nat.le_refl _) (by omega) ec ec').mono ?_); clear HV1)); rintro e z ⟨rfl, hb⟩))
          replace HP_S := Hk.mk (HP_S.out.below hb)
          replace HB := Hk.mk (kw_step HB.out L0V hb)
          clear hb
          refine hK.out _ _ ?_ (fun hHeld2 => ?_)
          · exact kw_s HB.out
          clear hK K hHeld
          have hHeld := hHeld2
          clear hHeld2
          (try simp only [Act.put, List.getElem_toArray, List.getElem_cons_succ, List.getElem_cons_zero, List.setIfInBounds_toArray, List.set_cons_zero, List.set_cons_succ])
          refine wpAnyH_take (i := 19) (v := ?_) rfl (by kernel_rfl) (by kernel_rfl) (by kernel_rfl) (fun _ _ _ h => h) (Or.inl ⟨by rfl, fun wX hSw => ?_⟩) (by assumption) ?_
          rotate_left
          · (try dsimp only at hSw); go_simp; try with_reducible rfl
          (try simp only [Act.put, List.getElem_toArray, List.getElem_cons_succ, List.getElem_cons_zero, List.setIfInBounds_toArray, List.set_cons_zero, List.set_cons_succ])
          refine wpAnyH_take (i := 20) (v := ?_) rfl (by kernel_rfl) (by kernel_rfl) (by kernel_rfl) (fun _ _ _ h => h) (Or.inl ⟨by rfl, fun wX hSw => ?_⟩) (by assumption) ?_
          rotate_left
          · (try dsimp only at hSw); go_simp; try with_reducible rfl
          (try simp only [Act.put, List.getElem_toArray, List.getElem_cons_succ, List.getElem_cons_zero, List.setIfInBounds_toArray, List.set_cons_zero, List.set_cons_succ])
          refine reg_cast (l' := #[true, true, true, true, true, true, true, true, true, true, true, true, true, true, true, true, true, true, true, true, true]) (by kernel_rfl) ?_
          revert hHeld
          revert L_S
          revert HP_S
          revert HB
          revert S
          revert z
          exact HG4.out
        intro WB S HB HP_S L_S hHeld
        refine wpAnyH_done (by kernel_rfl) ?_ _
        replace HB0 := Hk.mk (kw_step HB0.out L0 HB.out)
        replace HP_P := Hk.mk (HP_P.out.below HB.out)
        replace HP_Q := Hk.mk (HP_Q.out.below HB.out)
        clear HB e10 e11 e20 e21 e30 e31 bP bQ bR HP_R HP_S L_S ec ec' c0 c0' p0 p0' hHeld et et' el jt jt'
        have e10 : WB.cell? ⟨P, 0, none⟩ = some (.int .i64 X) := HP_P.out.c 0
        have e11 : WB.cell? ⟨P, 1, none⟩ = some (.int .i64 Y) := HP_P.out.c 1
        have e20 : WB.cell? ⟨Q, 0, none⟩ = some (.int .i64 U) := HP_Q.out.c 0
        have e21 : WB.cell? ⟨Q, 1, none⟩ = some (.int .i64 V) := HP_Q.out.c 1
        go_upto_region 14 with (go_at_call 28; (with_reducible refine (apart_as X Y m ax ay _ _ _ _ (fun _ => U) (fun _ => V) _ jx jy jm (vs_lit1 WB U V _ ju jv) (by simp) (by omega) ea ea').mono ?_); rintro e z ⟨rfl, hb⟩)
        clear e10 e11 e20 e21
        have HP_A : Hk (Bk _ _ #[.int .i64 ax, .int .i64 ay]) := ⟨Bk.new z #[.int .i64 ax, .int .i64 ay] 24⟩
        replace HP_P := Hk.mk (((HP_P.out.al (.cells #[.int .i64 U, .int .i64 V] 24)).below hb).al (.cells #[.int .i64 ax, .int .i64 ay] 24))
        replace HP_Q := Hk.mk (((HP_Q.out.al (.cells #[.int .i64 U, .int .i64 V] 24)).below hb).al (.cells #[.int .i64 ax, .int .i64 ay] 24))
        have HB := Hk.mk (kw_al (kw_step (kw_al HB0.out L0 (.cells #[.int .i64 U, .int .i64 V] 24)) L0 hb) L0 (.cells #[.int .i64 ax, .int .i64 ay] 24))
        clear hb HB0
        generalize z.heap.size = A at *
        generalize z.alloc (.cells #[.int .i64 ax, .int .i64 ay] 24) = VB at *
        clear ea ea' j1 j2
        have e10 : VB.cell? ⟨P, 0, none⟩ = some (.int .i64 X) := HP_P.out.c 0
        have e11 : VB.cell? ⟨P, 1, none⟩ = some (.int .i64 Y) := HP_P.out.c 1
        have e20 : VB.cell? ⟨Q, 0, none⟩ = some (.int .i64 U) := HP_Q.out.c 0
        have e21 : VB.cell? ⟨Q, 1, none⟩ = some (.int .i64 V) := HP_Q.out.c 1
        cases wi
        · obtain ⟨rfl, rfl⟩ := NO.out rfl
          go_wp2_with (go_at_call 30; (with_reducible refine (rwithin_as X Y U V m _ _ jx jy ju jv jm ew).mono ?_); rintro e z ⟨rfl, hb⟩; replace HP_P := Hk.mk (HP_P.out.below hb); replace HP_Q := Hk.mk (HP_Q.out.below hb); replace HP_A := Hk.mk (HP_A.out.below hb); replace HB := Hk.mk (kw_step HB.out L0 hb); clear hb e10 e11 e20 e21; have e10 : z.cell? ⟨P, 0, none⟩ = some (.int .i64 X) := HP_P.out.c 0; have e11 : z.cell? ⟨P, 1, none⟩ = some (.int .i64 Y) := HP_P.out.c 1; have e20 : z.cell? ⟨Q, 0, none⟩ = some (.int .i64 U) := HP_Q.out.c 0; have e21 : z.cell? ⟨Q, 1, none⟩ = some (.int .i64 V) := HP_Q.out.c 1; have e50 : z.cell? ⟨A, 0, none⟩ = some (.int .i64 0) := HP_A.out.c 0; have e51 : z.cell? ⟨A, 1, none⟩ = some (.int .i64 0) := HP_A.out.c 1)
          exact ⟨⟨k + 1, by go_num, by omega, by omega, HB⟩, by simp [intOf]; omega⟩
        · obtain ⟨sx, sx', sy, sy'⟩ := SG.out
          have CX : (decide (ax < 0) = true ∧ decide (U < X) = false ∧ decide (0 < ax) = false) ∨ (decide (ax < 0) = false ∧ decide (0 < ax) = false) ∨ (decide (ax < 0) = false ∧ decide (0 < ax) = true ∧ decide (X < U) = false) := by simp; omega
          have CY : (decide (ay < 0) = true ∧ decide (V < Y) = false ∧ decide (0 < ay) = false) ∨ (decide (ay < 0) = false ∧ decide (0 < ay) = false) ∨ (decide (ay < 0) = false ∧ decide (0 < ay) = true ∧ decide (Y < V) = false) := by simp; omega
          clear sx sx' sy sy' SG NO
          rcases CX with ⟨s1, s2, s3⟩ | ⟨s1, s2⟩ | ⟨s1, s2, s3⟩ <;> rcases CY with ⟨t1, t2, t3⟩ | ⟨t1, t2⟩ | ⟨t1, t2, t3⟩
          all_goals
            go_wp2_with (go_at_call 30; (with_reducible refine (rwithin_as X Y U V m _ _ jx jy ju jv jm ew).mono ?_); rintro e z ⟨rfl, hb⟩; replace HP_P := Hk.mk (HP_P.out.below hb); replace HP_Q := Hk.mk (HP_Q.out.below hb); replace HP_A := Hk.mk (HP_A.out.below hb); replace HB := Hk.mk (kw_step HB.out L0 hb); clear hb e10 e11 e20 e21; have e10 : z.cell? ⟨P, 0, none⟩ = some (.int .i64 X) := HP_P.out.c 0; have e11 : z.cell? ⟨P, 1, none⟩ = some (.int .i64 Y) := HP_P.out.c 1; have e20 : z.cell? ⟨Q, 0, none⟩ = some (.int .i64 U) := HP_Q.out.c 0; have e21 : z.cell? ⟨Q, 1, none⟩ = some (.int .i64 V) := HP_Q.out.c 1; have e50 : z.cell? ⟨A, 0, none⟩ = some (.int .i64 ax) := HP_A.out.c 0; have e51 : z.cell? ⟨A, 1, none⟩ = some (.int .i64 ay) := HP_A.out.c 1)
            exact ⟨⟨k + 1, by go_num, by omega, by omega, HB⟩, by simp [intOf]; omega⟩
    · go_wp2_with (go_at_call 31; (with_reducible refine (wakes19_any _).mono ?_); rintro e w' ⟨rfl, hb⟩)
      all_goals
        go_ret
        exact ⟨rfl, kw_step HW.out (Nat.le_refl _) hb⟩

theorem steerShort_own : ownKnob Try.prog.godebug = none := by kernel_rfl
theorem steerShort_laidOut : laidOutB Try.prog = true := by kernel_rfl
set_option maxRecDepth 100000 in
theorem steerShort_lifted (os : Os) (started : os.Started) (H : Type) (enc : TypeId × Value → H) :
    ReturnsInHanded {} Try.checked os 6 .any (Rows.steerShortSpec.pre6 enc Try.prog Try.f6 Rows.steerShortRow.domain false) (Rows.steerShortSpec.post enc Try.prog Try.f6 false true false false) := by
  refine returnsInHanded_of_change (C := Try.checked) steerShort_own started (by kernel_rfl) Try.func6
    (ChangeSpec.witness6 (enc := enc) (C := Try.checked) false ⟨#[], #[.slice none 0 0], []⟩ 8 (by kernel_rfl) (by kernel_rfl) (by kernel_rfl) (by kernel_rfl)) ?_
  intro W base args ds gs before hval0 hW hcnd _
  have hval : ∀ (j : Nat) t v, Try.f6.params[j]? = some t → args[j]? = some v → Value.okWide Try.prog W .any base t v := hval0
  have hW' := hW
  obtain ⟨p, q, hA0, hV, rfl, hfz, hnd⟩ := hW
  have hA : DataW.TrodAll enc Try.prog W 0 (fun _ => true) true Try.f6.params.toList args.toList ds p := hA0
  rw [Try.params6] at hA hval
  obtain ⟨v0, vs0, d0, ds0, p0, q0, hargs, rfl, rfl, h0, r0⟩ := trodAll_cons hA
  obtain ⟨rfl, rfl, rfl⟩ := trodAll_nil r0
  obtain rfl : args = #[v0] := by cases args; simp_all
  obtain ⟨rfl, rfl⟩ := trodVars_none hV
  obtain ⟨a0, len0, cap0, rfl⟩ := okWide_slice Try.underlying52 (hval 0 52 v0 rfl rfl)
  have k0 := h0
  have lt0 : ∀ x ∈ p0, x.block < W.heap.size := by obtain ⟨m, hm⟩ := k0; exact DataW.trod_lt m _ _ _ hm
  have rows : Asks19 W a0 len0 cap0 := by obtain ⟨fuel, hf⟩ := h0; exact asks19_of hf
  clear hA0 hval0
  refine (steerShort_walk a0 len0 cap0 W rows).mono fun e W' ⟨he, bel⟩ => ?_
  subst he
  exact ⟨_, rfl, _, _, _, [], _, [], hW', trodAll_mk1 (shut_bool Try.underlying4 _), (trodAll_cons_mk (Below.trod steerShort_laidOut (by kernel_rfl) (of_decide_eq_true (by kernel_rfl)) k0 bel lt0) trodAll_mk0), rfl, bel.frame _, fun h => by cases h⟩
theorem steerShort_over : Rows.steerShortRow.holds Try.pinned (OpenSpec.ofChange Rows.steerShortSpec) :=
  OpenClaim.holds_of_wide 6 Try.f6 rfl rfl rfl rfl rfl rfl rfl ⟨rfl, rfl, rfl, rfl, rfl⟩ rfl rfl rfl rfl rfl (by kernel_rfl) Try.func6 (by kernel_rfl)
    (of_decide_eq_true (by kernel_rfl)) (by unfold Func.isWrapper; first | (rw [if_pos (by decide +kernel)]; kernel_rfl) | (rw [if_neg (by decide +kernel)]; exact ⟨rfl, rfl⟩))
    (fun os started H enc _ => steerShort_lifted os started H enc)
/-- The given statement of SteerShort. -/
theorem steerShort_holds : Rows.SteerShortSaid := steerShort_over
end Go.Proofs.Ytgmhalcofcokbaa

