/- Layer 6: the list of neighbours, of the reference. -/
import Derived.Test.YtjjodfdmbiebnaaDoorGri
import Derived.Maps.AppendAt
namespace Go.Proofs.YtjjodfdmbiebnaaDoor
open Go.RowKit
set_option linter.unusedVariables false
theorem ow_weak {w : World} {base base' n : Nat} {v : Value} {xs : List Value} {E : TypeId} {sz : Nat} (h : w.ownsRow base E sz v n xs) (hb : base' ≤ base) : w.ownsRow base' E sz v n xs := by
  refine ⟨h.1, ?_⟩
  rcases h.2 with e | ⟨g, cap, cur, e1, hg, e2⟩
  · exact .inl e
  · exact .inr ⟨g, cap, cur, e1, by omega, e2⟩
theorem info_int : (Tryd.prog.info? 3).map (fun i => (i.zero, i.size, i.bytes)) = some (some (.int .i64 0), 1, 8) := by kernel_rfl
theorem rn_step {W H t v : Int} {k : Nat} {w1 : World} {B : Nat} {v' : Value} (e : nb W H t k = v) (hk : k < 8) (h : w1.ownsRow B 3 1 v' (k + 1) (((nbL W H t).map (Value.int .i64)).take k ++ [.int .i64 v])) : w1.ownsRow B 3 1 v' (k + 1) (((nbL W H t).take (k + 1)).map (Value.int .i64)) := by
  have e1 : (nbL W H t).take (k + 1) = (nbL W H t).take k ++ [v] := by
    rw [List.take_succ_eq_append_getElem (by unfold nbL; simpa using hk)]
    congr 1
    unfold nbL
    simp [← e]
  rw [e1, List.map_append, List.map_take]
  exact h
theorem rn_lits (w : World) (W H : Int) (s : Value) : (∀ k, k < 8 → ((((w.alloc (.cells #[.int .i64 W, .int .i64 H, s] 24)).alloc (.cells #[.int .i64 0, .int .i64 1, .int .i64 0, .int .i64 (-1), .int .i64 1, .int .i64 1, .int .i64 (-1), .int .i64 (-1)] 84)).alloc (.cells #[.int .i64 (-1), .int .i64 0, .int .i64 1, .int .i64 0, .int .i64 (-1), .int .i64 1, .int .i64 1, .int .i64 (-1)] 84))).cell? ⟨w.heap.size + 1, k, none⟩ = some (.int .i64 (dxL.getD k 0))) ∧ (∀ k, k < 8 → ((((w.alloc (.cells #[.int .i64 W, .int .i64 H, s] 24)).alloc (.cells #[.int .i64 0, .int .i64 1, .int .i64 0, .int .i64 (-1), .int .i64 1, .int .i64 1, .int .i64 (-1), .int .i64 (-1)] 84)).alloc (.cells #[.int .i64 (-1), .int .i64 0, .int .i64 1, .int .i64 0, .int .i64 (-1), .int .i64 1, .int .i64 1, .int .i64 (-1)] 84))).cell? ⟨w.heap.size + 1 + 1, k, none⟩ = some (.int .i64 (dyL.getD k 0))) ∧ ((((w.alloc (.cells #[.int .i64 W, .int .i64 H, s] 24)).alloc (.cells #[.int .i64 0, .int .i64 1, .int .i64 0, .int .i64 (-1), .int .i64 1, .int .i64 1, .int .i64 (-1), .int .i64 (-1)] 84)).alloc (.cells #[.int .i64 (-1), .int .i64 0, .int .i64 1, .int .i64 0, .int .i64 (-1), .int .i64 1, .int .i64 1, .int .i64 (-1)] 84))).cell? ⟨w.heap.size, 0, none⟩ = some (.int .i64 W) ∧ ((((w.alloc (.cells #[.int .i64 W, .int .i64 H, s] 24)).alloc (.cells #[.int .i64 0, .int .i64 1, .int .i64 0, .int .i64 (-1), .int .i64 1, .int .i64 1, .int .i64 (-1), .int .i64 (-1)] 84)).alloc (.cells #[.int .i64 (-1), .int .i64 0, .int .i64 1, .int .i64 0, .int .i64 (-1), .int .i64 1, .int .i64 1, .int .i64 (-1)] 84))).cell? ⟨w.heap.size, 1, none⟩ = some (.int .i64 H) := by
  refine ⟨fun k hk => ?_, fun k hk => ?_, by go_simp, by go_simp⟩
  · match k, hk with
    | 0, _ | 1, _ | 2, _ | 3, _ | 4, _ | 5, _ | 6, _ | 7, _ => go_simp <;> rfl
  · match k, hk with
    | 0, _ | 1, _ | 2, _ | 3, _ | 4, _ | 5, _ | 6, _ | 7, _ => go_simp <;> rfl
set_option maxRecDepth 100000 in
set_option maxHeartbeats 1600000 in
theorem rnear_any (W H t : Int) (s : Value) (w : World) (w1 : 1 ≤ W) (w2 : W ≤ 128) (h1 : 1 ≤ H) (h2 : H ≤ 128) (t0 : 0 ≤ t) (t1 : t ≤ 16384) :
    Calls Tryd.prog 36 #[.agg #[.int .i64 W, .int .i64 H, s], .int .i64 t] w fun e w' => ∃ v, e = .returned v ∧ w'.ownsRow w.heap.size 3 1 v 8 ((nbL W H t).map (Value.int .i64)) ∧ Below w.heap.size w w' := by
  obtain ⟨i0, hi, hz0, hz1, hz2⟩ := info_parts info_int
  have q1 : 0 ≤ t % W := Int.emod_nonneg _ (by omega)
  have q2 : t % W < W := Int.emod_lt_of_pos _ (by omega)
  have q3 : 0 ≤ t / W := Int.ediv_nonneg t0 (by omega)
  have q4 : t / W ≤ t := Int.ediv_le_self _ t0
  have w0 : ¬ W = 0 := by omega
  have HL := Hk.mk (rn_lits w W H s)
  go_enter Tryd.func36, Tryd.ntmps36
  go_wp2
  go_loopw [7, 8] (fun l i wr => ∃ k : Nat, k ≤ 8 ∧ i = .int .i64 k ∧ Hk (wr.ownsRow (w.heap.size + 3) 3 1 l k (((nbL W H t).take k).map (Value.int .i64))) ∧ Hk (Below (w.heap.size + 3) ((((w.alloc (.cells #[.int .i64 W, .int .i64 H, s] 24)).alloc (.cells #[.int .i64 0, .int .i64 1, .int .i64 0, .int .i64 (-1), .int .i64 1, .int .i64 1, .int .i64 (-1), .int .i64 (-1)] 84)).alloc (.cells #[.int .i64 (-1), .int .i64 0, .int .i64 1, .int .i64 0, .int .i64 (-1), .int .i64 1, .int .i64 1, .int .i64 (-1)] 84))) wr)) (fun _ i _ => 8 - (intOf i).toNat)
  case atStart => exact ⟨0, by omega, rfl, ⟨World.ownsRow_nil _ _ _ _⟩, ⟨Below.refl _ _⟩⟩
  case round =>
    obtain ⟨k, hk, rfl, HO, HB⟩ := hrel
    have hsz : w.heap.size + 3 ≤ wr.heap.size := by have := HB.out.size; simp at this; omega
    by_cases hlt : k < 8
    · have HNB : Hk (nb W H t k = nbS W H t (dxL.getD k 0) (dyL.getD k 0)) := ⟨rfl⟩
      obtain ⟨⟨x1, x2⟩, y1, y2⟩ := d_bd k
      have c0 := (HB.out.cell (p := ⟨w.heap.size + 1, k, none⟩) (by show w.heap.size + 1 < w.heap.size + 3; omega)).trans (HL.out.1 k hlt)
      have c1 := (HB.out.cell (p := ⟨w.heap.size + 1 + 1, k, none⟩) (by show w.heap.size + 1 + 1 < w.heap.size + 3; omega)).trans (HL.out.2.1 k hlt)
      have c2 := (HB.out.cell (p := ⟨w.heap.size, 0, none⟩) (by show w.heap.size < w.heap.size + 3; omega)).trans HL.out.2.2.1
      have c3 := (HB.out.cell (p := ⟨w.heap.size, 1, none⟩) (by show w.heap.size < w.heap.size + 3; omega)).trans HL.out.2.2.2
      generalize dxL.getD k 0 = dx at *
      generalize dyL.getD k 0 = dy at *
      have j1 : (0 : Int) ≤ (k : Int) := by omega
      have j2 : (k : Int) < 8 := by omega
      have r1 : t.tmod W = t % W := Int.tmod_eq_emod_of_nonneg t0
      have r2 : t.tdiv W = t / W := Int.tdiv_eq_ediv_of_nonneg t0
      have e1 : IntKind.i64.wrap (t % W + dx) = t % W + dx := wr_in (by omega)
      have e3 : IntKind.i64.wrap (t / W) = t / W := wr_in (by omega)
      have e2 : IntKind.i64.wrap (t / W + dy) = t / W + dy := wr_in (by omega)
      by_cases z0 : t % W + dx < 0
      · have b0 : decide (t % W + dx < 0) = true := by simp; omega
        have HV : Hk (nb W H t k = (-1)) := ⟨HNB.out.trans (nbS_no (by omega))⟩
        go_wp2
        go_quiet (fail)
        go_wp2_with (at_builtin; refine wpList_append_own _ rfl _ _ 25 rfl (w.heap.size + 3) 3 i0 (.int .i64 0) 1 8 Tryd.underlying25 hi hz0 hz1 hz2 rfl (by decide) _ _ _ rfl (HO.out.alloc _) ⟨wr.heap.size, 0, none⟩ 1 1 [.int .i64 (-1)] rfl rfl ?c1 ?c2 ?c3 ?c4 ?c5 ?_)
        case c1 => exact one_new (World.drewN _ _) _ _
        case c2 => intro u hu; simp at hu; subst hu; rfl
        case c3 => unfold maxLen; omega
        case c4 => omega
        case c5 => simp; omega
        · intro v' w1 hown' hgrow _
          have HO2 := Hk.mk (rn_step HV.out hlt hown')
          have HB2 := Hk.mk ((below_drewN (HB.out.alloc hsz (.cells #[.int .i64 (-1)] 3)) _).grown hgrow (by simp; omega) (fun g hg => by have := (HO.out.lt g hg).1; omega))
          clear hown' hgrow HO HB
          go_wp2
          go_roundw
          case rel => exact ⟨k + 1, by omega, by go_num, HO2, HB2⟩
          case measure => simp [intOf]; omega
      by_cases z1 : W ≤ t % W + dx
      · have b0 : decide (t % W + dx < 0) = false := by simp; omega
        have b1 : decide (W ≤ t % W + dx) = true := by simp; omega
        have HV : Hk (nb W H t k = (-1)) := ⟨HNB.out.trans (nbS_no (by omega))⟩
        go_wp2
        go_quiet (fail)
        go_wp2_with (at_builtin; refine wpList_append_own _ rfl _ _ 25 rfl (w.heap.size + 3) 3 i0 (.int .i64 0) 1 8 Tryd.underlying25 hi hz0 hz1 hz2 rfl (by decide) _ _ _ rfl (HO.out.alloc _) ⟨wr.heap.size, 0, none⟩ 1 1 [.int .i64 (-1)] rfl rfl ?c1 ?c2 ?c3 ?c4 ?c5 ?_)
        case c1 => exact one_new (World.drewN _ _) _ _
        case c2 => intro u hu; simp at hu; subst hu; rfl
        case c3 => unfold maxLen; omega
        case c4 => omega
        case c5 => simp; omega
        · intro v' w1 hown' hgrow _
          have HO2 := Hk.mk (rn_step HV.out hlt hown')
          have HB2 := Hk.mk ((below_drewN (HB.out.alloc hsz (.cells #[.int .i64 (-1)] 3)) _).grown hgrow (by simp; omega) (fun g hg => by have := (HO.out.lt g hg).1; omega))
          clear hown' hgrow HO HB
          go_wp2
          go_roundw
          case rel => exact ⟨k + 1, by omega, by go_num, HO2, HB2⟩
          case measure => simp [intOf]; omega
      by_cases z2 : t / W + dy < 0
      · have b0 : decide (t % W + dx < 0) = false := by simp; omega
        have b1 : decide (W ≤ t % W + dx) = false := by simp; omega
        have b2 : decide (t / W + dy < 0) = true := by simp; omega
        have HV : Hk (nb W H t k = (-1)) := ⟨HNB.out.trans (nbS_no (by omega))⟩
        go_wp2
        go_quiet (fail)
        go_wp2_with (at_builtin; refine wpList_append_own _ rfl _ _ 25 rfl (w.heap.size + 3) 3 i0 (.int .i64 0) 1 8 Tryd.underlying25 hi hz0 hz1 hz2 rfl (by decide) _ _ _ rfl (HO.out.alloc _) ⟨wr.heap.size, 0, none⟩ 1 1 [.int .i64 (-1)] rfl rfl ?c1 ?c2 ?c3 ?c4 ?c5 ?_)
        case c1 => exact one_new (World.drewN _ _) _ _
        case c2 => intro u hu; simp at hu; subst hu; rfl
        case c3 => unfold maxLen; omega
        case c4 => omega
        case c5 => simp; omega
        · intro v' w1 hown' hgrow _
          have HO2 := Hk.mk (rn_step HV.out hlt hown')
          have HB2 := Hk.mk ((below_drewN (HB.out.alloc hsz (.cells #[.int .i64 (-1)] 3)) _).grown hgrow (by simp; omega) (fun g hg => by have := (HO.out.lt g hg).1; omega))
          clear hown' hgrow HO HB
          go_wp2
          go_roundw
          case rel => exact ⟨k + 1, by omega, by go_num, HO2, HB2⟩
          case measure => simp [intOf]; omega
      by_cases z3 : H ≤ t / W + dy
      · have b0 : decide (t % W + dx < 0) = false := by simp; omega
        have b1 : decide (W ≤ t % W + dx) = false := by simp; omega
        have b2 : decide (t / W + dy < 0) = false := by simp; omega
        have b3 : decide (H ≤ t / W + dy) = true := by simp; omega
        have HV : Hk (nb W H t k = (-1)) := ⟨HNB.out.trans (nbS_no (by omega))⟩
        go_wp2
        go_quiet (fail)
        go_wp2_with (at_builtin; refine wpList_append_own _ rfl _ _ 25 rfl (w.heap.size + 3) 3 i0 (.int .i64 0) 1 8 Tryd.underlying25 hi hz0 hz1 hz2 rfl (by decide) _ _ _ rfl (HO.out.alloc _) ⟨wr.heap.size, 0, none⟩ 1 1 [.int .i64 (-1)] rfl rfl ?c1 ?c2 ?c3 ?c4 ?c5 ?_)
        case c1 => exact one_new (World.drewN _ _) _ _
        case c2 => intro u hu; simp at hu; subst hu; rfl
        case c3 => unfold maxLen; omega
        case c4 => omega
        case c5 => simp; omega
        · intro v' w1 hown' hgrow _
          have HO2 := Hk.mk (rn_step HV.out hlt hown')
          have HB2 := Hk.mk ((below_drewN (HB.out.alloc hsz (.cells #[.int .i64 (-1)] 3)) _).grown hgrow (by simp; omega) (fun g hg => by have := (HO.out.lt g hg).1; omega))
          clear hown' hgrow HO HB
          go_wp2
          go_roundw
          case rel => exact ⟨k + 1, by omega, by go_num, HO2, HB2⟩
          case measure => simp [intOf]; omega
      · have b0 : decide (t % W + dx < 0) = false := by simp; omega
        have b1 : decide (W ≤ t % W + dx) = false := by simp; omega
        have b2 : decide (t / W + dy < 0) = false := by simp; omega
        have b3 : decide (H ≤ t / W + dy) = false := by simp; omega
        have m3 := Int.mul_le_mul w2 (show t / W + dy ≤ 128 by omega) (by omega) (by omega)
        have m4 : 0 ≤ W * (t / W + dy) := Int.mul_nonneg (by omega) (by omega)
        have e4 : IntKind.i64.wrap (W * (t / W + dy)) = W * (t / W + dy) := wr_in (by omega)
        have e5 : IntKind.i64.wrap (t % W + dx + W * (t / W + dy)) = t % W + dx + W * (t / W + dy) := wr_in (by omega)
        have HV : Hk (nb W H t k = (t % W + dx + W * (t / W + dy))) := ⟨HNB.out.trans (nbS_yes (by omega) (by omega) (by omega) (by omega))⟩
        go_wp2
        go_quiet (fail)
        go_wp2_with (at_builtin; refine wpList_append_own _ rfl _ _ 25 rfl (w.heap.size + 3) 3 i0 (.int .i64 0) 1 8 Tryd.underlying25 hi hz0 hz1 hz2 rfl (by decide) _ _ _ rfl (HO.out.alloc _) ⟨wr.heap.size, 0, none⟩ 1 1 [.int .i64 (t % W + dx + W * (t / W + dy))] rfl rfl ?c1 ?c2 ?c3 ?c4 ?c5 ?_)
        case c1 => exact one_new (World.drewN _ _) _ _
        case c2 => intro u hu; simp at hu; subst hu; rfl
        case c3 => unfold maxLen; omega
        case c4 => omega
        case c5 => simp; omega
        · intro v' w1 hown' hgrow _
          have HO2 := Hk.mk (rn_step HV.out hlt hown')
          have HB2 := Hk.mk ((below_drewN (HB.out.alloc hsz (.cells #[.int .i64 (t % W + dx + W * (t / W + dy))] 3)) _).grown hgrow (by simp; omega) (fun g hg => by have := (HO.out.lt g hg).1; omega))
          clear hown' hgrow HO HB
          go_wp2
          go_roundw
          case rel => exact ⟨k + 1, by omega, by go_num, HO2, HB2⟩
          case measure => simp [intOf]; omega
    · have hk8 : k = 8 := by omega
      subst hk8
      go_wp2
      go_ret
      refine ⟨_, rfl, ?_, (((((Below.refl _ _).alloc (Nat.le_refl _) _).alloc (by simp) _).alloc (by simp <;> omega) _).trans (HB.out.mono (by simp <;> omega)))⟩
      have hn : ((nbL W H t).take 8) = nbL W H t := List.take_of_length_le (by unfold nbL; simp)
      rw [hn] at HO
      exact ow_weak HO.out (by omega)
end Go.Proofs.YtjjodfdmbiebnaaDoor
