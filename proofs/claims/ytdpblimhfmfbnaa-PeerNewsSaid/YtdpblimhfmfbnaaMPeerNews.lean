import Derived.Deep.QuietTactic
import Derived.BigQuiet
import Derived.Deep.RegionWith
import Derived.Deep.RegionHeld3
import Derived.Deep.DeepCutAuto
import Derived.Deep.DeepFit
import Derived.Outline
import Derived.Test.YtdpblimhfmfbnaaZtak
/- PeerNews. -/
namespace Go.Proofs.Ytdpblimhfmfbnaa
open Go.ChangeShapes Go.WideShapes Go.ChangeAt Go.RowKit Go.Deep
set_option linter.unusedVariables false
set_option linter.unusedSimpArgs false
set_option maxRecDepth 100000 in
set_option maxHeartbeats 3200000 in
theorem peerNews_walk (a0 : Option Addr) (len cap : Nat) (w : World) (rows : Asks28 w a0 len cap) :
    Calls Try.prog 3 #[.slice a0 len cap] w fun e w' => e = .returned (.bool true) ∧ Below w.heap.size w w' := by
  obtain ⟨hl, hm, hall⟩ := rows
  have HALL := Hk.mk hall
  have L0 : w.heap.size ≤ w.heap.size := Nat.le_refl _
  clear hall
  go_enter Try.func3, Try.ntmps3
  go_wp2
  go_loopw [3] (fun i wr => ∃ (j : Nat), i = .int .i64 j ∧ j ≤ len ∧ j ≤ 40 ∧ Hk (Below w.heap.size w wr)) (fun i _ => 40 - (intOf i).toNat)
  case atStart => exact ⟨0, rfl, by omega, by omega, ⟨Below.refl _ _⟩⟩
  case round =>
    obtain ⟨j, rfl, hj, hj2, HB⟩ := hrel
    by_cases hlt : j < len ∧ j < 40
    · obtain ⟨g1, g2⟩ := hlt
      obtain ⟨b, off, i, n, d, rfl, hbl, k0, k1, k2⟩ := HALL.out j (by omega)
      have c0 : wr.cell? ⟨b, off + j * 3, none⟩ = some (.int .i64 i) := (HB.out.cell (p := ⟨b, _, none⟩) hbl).trans k0
      have c1 : wr.cell? ⟨b, off + j * 3 + 1, none⟩ = some (.int .i64 n) := (HB.out.cell (p := ⟨b, _, none⟩) hbl).trans k1
      have c2 : wr.cell? ⟨b, off + j * 3 + 2, none⟩ = some (.int .i64 d) := (HB.out.cell (p := ⟨b, _, none⟩) hbl).trans k2
      have bl : b < wr.heap.size := Nat.lt_of_lt_of_le hbl HB.out.size
      clear k0 k1 k2
      have i1 : (0 : Int) ≤ (j : Int) := by omega
      have i2 : (j : Int) < (len : Int) := by omega
      have i3 : (j : Int) < 40 := by omega
      have gj : IntKind.i64.wrap ((j : Int) + 1) = ((j + 1 : Nat) : Int) := by push_cast; exact wr27 (by omega) (by omega)
      have HR : Hk (Below wr.heap.size wr wr) := ⟨Below.refl _ _⟩
      go_upto_region 4 with fail
      refine wp_region_held_drew (S := (fun X => (∀ b o, b < wr.heap.size → X.cell? ⟨b, o, none⟩ = wr.cell? ⟨b, o, none⟩) ∧ Below wr.heap.size wr X)) (by kernel_rfl) ?_ (fun hHeld => ?_)
      · exact kw_S (kw_drew HR.out)
      refine wpAnyH_take (i := 0) (v := ?_) rfl (by kernel_rfl) (by kernel_rfl) (by kernel_rfl) (fun _ _ _ h => h) (Or.inl ⟨by rfl, fun wX hSw => ?_⟩) (by assumption) ?_
      rotate_left
      · (try dsimp only at hSw); go_simp; try with_reducible rfl
      (try simp only [Act.put, List.getElem_toArray, List.getElem_cons_succ, List.getElem_cons_zero, List.setIfInBounds_toArray, List.set_cons_zero, List.set_cons_succ])
      refine wpAnyH_take (i := 1) (v := ?_) rfl (by kernel_rfl) (by kernel_rfl) (by kernel_rfl) (fun _ _ _ h => h) (Or.inl ⟨by rfl, fun wX hSw => ?_⟩) (by assumption) ?_
      rotate_left
      · (try dsimp only at hSw); go_simp; try with_reducible rfl
      (try simp only [Act.put, List.getElem_toArray, List.getElem_cons_succ, List.getElem_cons_zero, List.setIfInBounds_toArray, List.set_cons_zero, List.set_cons_succ])
      refine wpAnyH_take (i := 2) (v := ?_) rfl (by kernel_rfl) (by kernel_rfl) (by kernel_rfl) (fun _ _ _ h => h) (Or.inl ⟨by rfl, fun wX hSw => ?_⟩) (by assumption) ?_
      rotate_left
      · (try dsimp only at hSw); go_simp; try with_reducible rfl
      (try simp only [Act.put, List.getElem_toArray, List.getElem_cons_succ, List.getElem_cons_zero, List.setIfInBounds_toArray, List.set_cons_zero, List.set_cons_succ])
      refine wpAnyH_take (i := 3) (v := ?_) rfl (by kernel_rfl) (by kernel_rfl) (by kernel_rfl) (fun _ _ _ h => h) (Or.inl ⟨by rfl, fun wX hSw => ?_⟩) (by assumption) ?_
      rotate_left
      · (try dsimp only at hSw); go_simp; try with_reducible rfl
      (try simp only [Act.put, List.getElem_toArray, List.getElem_cons_succ, List.getElem_cons_zero, List.setIfInBounds_toArray, List.set_cons_zero, List.set_cons_succ])
      refine wpAnyH_take (i := 4) (v := ?_) rfl (by kernel_rfl) (by kernel_rfl) (by kernel_rfl) (fun _ _ _ h => h) (Or.inl ⟨by rfl, fun wX hSw => ?_⟩) (by assumption) ?_
      rotate_left
      · (try dsimp only at hSw); go_simp; try with_reducible rfl
      (try simp only [Act.put, List.getElem_toArray, List.getElem_cons_succ, List.getElem_cons_zero, List.setIfInBounds_toArray, List.set_cons_zero, List.set_cons_succ])
      refine wpAnyH_take (i := 5) (v := ?_) rfl (by kernel_rfl) (by kernel_rfl) (by kernel_rfl) (fun _ _ _ h => h) (Or.inl ⟨by rfl, fun wX hSw => ?_⟩) (by assumption) ?_
      rotate_left
      · (try dsimp only at hSw); go_simp; try with_reducible rfl
      (try simp only [Act.put, List.getElem_toArray, List.getElem_cons_succ, List.getElem_cons_zero, List.setIfInBounds_toArray, List.set_cons_zero, List.set_cons_succ])
      refine wpAnyH_take (i := 6) (v := ?_) rfl (by kernel_rfl) (by kernel_rfl) (by kernel_rfl) (fun _ _ _ h => h) (Or.inl ⟨by rfl, fun wX hSw => ?_⟩) (by assumption) ?_
      rotate_left
      · (try dsimp only at hSw); go_simp; try with_reducible rfl
      (try simp only [Act.put, List.getElem_toArray, List.getElem_cons_succ, List.getElem_cons_zero, List.setIfInBounds_toArray, List.set_cons_zero, List.set_cons_succ])
      refine wpAnyH_take (i := 7) (v := ?_) rfl (by kernel_rfl) (by kernel_rfl) (by kernel_rfl) (fun _ _ _ h => h) (Or.inl ⟨by rfl, fun wX hSw => ?_⟩) (by assumption) ?_
      rotate_left
      · (try dsimp only at hSw); go_simp; try with_reducible rfl
      (try simp only [Act.put, List.getElem_toArray, List.getElem_cons_succ, List.getElem_cons_zero, List.setIfInBounds_toArray, List.set_cons_zero, List.set_cons_succ])
      refine wpAnyH_take (i := 8) (v := ?_) rfl (by kernel_rfl) (by kernel_rfl) (by kernel_rfl) (fun _ _ _ h => h) (Or.inl ⟨by rfl, fun wX hSw => ?_⟩) (by assumption) ?_
      rotate_left
      · (try dsimp only at hSw); go_simp; try with_reducible rfl
      (try simp only [Act.put, List.getElem_toArray, List.getElem_cons_succ, List.getElem_cons_zero, List.setIfInBounds_toArray, List.set_cons_zero, List.set_cons_succ])
      refine wpAnyH_take (i := 9) (v := ?_) rfl (by kernel_rfl) (by kernel_rfl) (by kernel_rfl) (fun _ _ _ h => h) (Or.inl ⟨by rfl, fun wX hSw => ?_⟩) (by assumption) ?_
      rotate_left
      · (try dsimp only at hSw); go_simp; try with_reducible rfl
      (try simp only [Act.put, List.getElem_toArray, List.getElem_cons_succ, List.getElem_cons_zero, List.setIfInBounds_toArray, List.set_cons_zero, List.set_cons_succ])
      refine wpAnyH_take (i := 10) (v := ?_) rfl (by kernel_rfl) (by kernel_rfl) (by kernel_rfl) (fun _ _ _ h => h) (Or.inl ⟨by rfl, fun wX hSw => ?_⟩) (by assumption) ?_
      rotate_left
      · (try dsimp only at hSw); go_simp; try with_reducible rfl
      (try simp only [Act.put, List.getElem_toArray, List.getElem_cons_succ, List.getElem_cons_zero, List.setIfInBounds_toArray, List.set_cons_zero, List.set_cons_succ])
      refine wpAnyH_take (i := 11) (v := ?_) rfl (by kernel_rfl) (by kernel_rfl) (by kernel_rfl) (fun _ _ _ h => h) (Or.inl ⟨by rfl, fun wX hSw => ?_⟩) (by assumption) ?_
      rotate_left
      · (try dsimp only at hSw); go_simp; try with_reducible rfl
      (try simp only [Act.put, List.getElem_toArray, List.getElem_cons_succ, List.getElem_cons_zero, List.setIfInBounds_toArray, List.set_cons_zero, List.set_cons_succ])
      refine wpAnyH_take (i := 12) (v := ?_) rfl (by kernel_rfl) (by kernel_rfl) (by kernel_rfl) (fun _ _ _ h => h) (Or.inl ⟨by rfl, fun wX hSw => ?_⟩) (by assumption) ?_
      rotate_left
      · (try dsimp only at hSw); go_simp; try with_reducible rfl
      (try simp only [Act.put, List.getElem_toArray, List.getElem_cons_succ, List.getElem_cons_zero, List.setIfInBounds_toArray, List.set_cons_zero, List.set_cons_succ])
      refine wpAnyH_take (i := 13) (v := ?_) rfl (by kernel_rfl) (by kernel_rfl) (by kernel_rfl) (fun _ _ _ h => h) (Or.inl ⟨by rfl, fun wX hSw => ?_⟩) (by assumption) ?_
      rotate_left
      · (try dsimp only at hSw); go_simp; try with_reducible rfl
      (try simp only [Act.put, List.getElem_toArray, List.getElem_cons_succ, List.getElem_cons_zero, List.setIfInBounds_toArray, List.set_cons_zero, List.set_cons_succ])
      refine wpAnyH_take (i := 14) (v := ?_) rfl (by kernel_rfl) (by kernel_rfl) (by kernel_rfl) (fun _ _ _ h => h) (Or.inl ⟨by rfl, fun wX hSw => ?_⟩) (by assumption) ?_
      rotate_left
      · (try dsimp only at hSw); go_simp; try with_reducible rfl
      (try simp only [Act.put, List.getElem_toArray, List.getElem_cons_succ, List.getElem_cons_zero, List.setIfInBounds_toArray, List.set_cons_zero, List.set_cons_succ])
      refine wpAnyH_take (i := 15) (v := ?_) rfl (by kernel_rfl) (by kernel_rfl) (by kernel_rfl) (fun _ _ _ h => h) (Or.inl ⟨by rfl, fun wX hSw => ?_⟩) (by assumption) ?_
      rotate_left
      · (try dsimp only at hSw); go_simp; try with_reducible rfl
      (try simp only [Act.put, List.getElem_toArray, List.getElem_cons_succ, List.getElem_cons_zero, List.setIfInBounds_toArray, List.set_cons_zero, List.set_cons_succ])
      refine wpAnyH_take (i := 16) (v := ?_) rfl (by kernel_rfl) (by kernel_rfl) (by kernel_rfl) (fun _ _ _ h => h) (Or.inl ⟨by rfl, fun wX hSw => ?_⟩) (by assumption) ?_
      rotate_left
      · (try dsimp only at hSw); go_simp; try with_reducible rfl
      (try simp only [Act.put, List.getElem_toArray, List.getElem_cons_succ, List.getElem_cons_zero, List.setIfInBounds_toArray, List.set_cons_zero, List.set_cons_succ])
      refine wpAnyH_take (i := 17) (v := ?_) rfl (by kernel_rfl) (by kernel_rfl) (by kernel_rfl) (fun _ _ _ h => h) (Or.inl ⟨by rfl, fun wX hSw => ?_⟩) (by assumption) ?_
      rotate_left
      · (try dsimp only at hSw); go_simp; try with_reducible rfl
      (try simp only [Act.put, List.getElem_toArray, List.getElem_cons_succ, List.getElem_cons_zero, List.setIfInBounds_toArray, List.set_cons_zero, List.set_cons_succ])
      refine wpAnyH_done (by kernel_rfl) ?_ _
      have HB4 : Hk (Below w.heap.size w wr.drew) := ⟨HB.out.drew⟩
      clear HB HR hHeld c0 c1 c2 bl i1 i2 i3 HALL
      generalize wr.drew = W4 at *
      by_cases t1 : 1 ≤ n
      case neg =>
        have f1 : decide (1 ≤ n) = false := by rw [decide_eq_false_iff_not]; exact t1
        have hno : ¬ MayP i n d := fun g => t1 g.1
        clear t1
        have HM := Hk.mk hno
        clear hno
        obtain ⟨W0, hw0⟩ : ∃ W, W = zeP := ⟨_, rfl⟩
        have HU : Hk (NewP i n d W0 1) := ⟨Or.inr ⟨HM.out, hw0, rfl⟩⟩
        obtain ⟨q1, hq1⟩ : ∃ q, q = zeV := ⟨_, rfl⟩
        have HA1 : Hk (q1.ab = W0) := ⟨by rw [hq1, hw0]; rfl⟩
        have HS1 : Hk (PvS q1) := ⟨by rw [hq1]; exact zeV_s⟩
        have HQ1 := Hk.mk hq1
        clear hw0 hq1 HM
        go_upto_region 6 with fail
        have HB : Hk (Below w.heap.size w (W4.alloc (.cells #[.int .i64 0, .int .i64 0, .int .i64 0, .int .i64 0, .int .i64 0, .slice none 0 0, .slice none 0 0, .slice none 0 0, .slice none 0 0, .slice none 0 0, .bool false] 28))) := ⟨kw_al HB4.out L0 (.cells #[.int .i64 0, .int .i64 0, .int .i64 0, .int .i64 0, .int .i64 0, .slice none 0 0, .slice none 0 0, .slice none 0 0, .slice none 0 0, .slice none 0 0, .bool false] 28)⟩
        have HX : Hk (Bk (W4.alloc (.cells #[.int .i64 0, .int .i64 0, .int .i64 0, .int .i64 0, .int .i64 0, .slice none 0 0, .slice none 0 0, .slice none 0 0, .slice none 0 0, .slice none 0 0, .bool false] 28)) W4.heap.size #[.int .i64 q1.i, .int .i64 q1.n, .int .i64 q1.d, .int .i64 q1.t, .int .i64 q1.s, .slice q1.ma q1.mn q1.mc, .slice q1.la q1.ln q1.lc, .slice q1.ha q1.hn q1.hc, .slice q1.aa q1.an q1.ac, .slice q1.xa q1.xn q1.xc, .bool q1.b]) := ⟨by rw [HQ1.out]; exact Bk.new W4 #[.int .i64 0, .int .i64 0, .int .i64 0, .int .i64 0, .int .i64 0, .slice none 0 0, .slice none 0 0, .slice none 0 0, .slice none 0 0, .slice none 0 0, .bool false] 28⟩
        have HD1 : Hk (PvD (W4.alloc (.cells #[.int .i64 0, .int .i64 0, .int .i64 0, .int .i64 0, .int .i64 0, .slice none 0 0, .slice none 0 0, .slice none 0 0, .slice none 0 0, .slice none 0 0, .bool false] 28)) (W4.alloc (.cells #[.int .i64 0, .int .i64 0, .int .i64 0, .int .i64 0, .int .i64 0, .slice none 0 0, .slice none 0 0, .slice none 0 0, .slice none 0 0, .slice none 0 0, .bool false] 28)).heap.size q1) := ⟨by rw [HQ1.out]; exact zeV_d _⟩
        clear HB4
        generalize hpw : W4.heap.size = PW at *
        clear hpw
        generalize (W4.alloc (.cells #[.int .i64 0, .int .i64 0, .int .i64 0, .int .i64 0, .int .i64 0, .slice none 0 0, .slice none 0 0, .slice none 0 0, .slice none 0 0, .slice none 0 0, .bool false] 28)) = V at *
        go_upto_region 8 with fail
        go_upto_region 9 with (go_at_call 8; go_loud ((with_reducible refine (pnew_u i _ d W0 1 _ HU.out).mono ?_); rintro e z ⟨q2, rfl, hd2, ha2, hs2, hb⟩; have HD2 := Hk.mk hd2; have HA2 := Hk.mk ha2; have HS2 := Hk.mk hs2; have HB2 := Hk.mk (kw_step HB.out L0 hb); have HX2 := Hk.mk (HX.out.below hb); have HD12 := Hk.mk (HD1.out.later hb); clear hd2 ha2 hs2 hb HB HX HD1))
        have HB : Hk (Below w.heap.size w (z.alloc (.cells #[.int .i64 q2.i, .int .i64 q2.n, .int .i64 q2.d, .int .i64 q2.t, .int .i64 q2.s, .slice q2.ma q2.mn q2.mc, .slice q2.la q2.ln q2.lc, .slice q2.ha q2.hn q2.hc, .slice q2.aa q2.an q2.ac, .slice q2.xa q2.xn q2.xc, .bool q2.b] 28))) := ⟨kw_al HB2.out L0 (.cells #[.int .i64 q2.i, .int .i64 q2.n, .int .i64 q2.d, .int .i64 q2.t, .int .i64 q2.s, .slice q2.ma q2.mn q2.mc, .slice q2.la q2.ln q2.lc, .slice q2.ha q2.hn q2.hc, .slice q2.aa q2.an q2.ac, .slice q2.xa q2.xn q2.xc, .bool q2.b] 28)⟩
        have HX : Hk (Bk (z.alloc (.cells #[.int .i64 q2.i, .int .i64 q2.n, .int .i64 q2.d, .int .i64 q2.t, .int .i64 q2.s, .slice q2.ma q2.mn q2.mc, .slice q2.la q2.ln q2.lc, .slice q2.ha q2.hn q2.hc, .slice q2.aa q2.an q2.ac, .slice q2.xa q2.xn q2.xc, .bool q2.b] 28)) PW #[.int .i64 q1.i, .int .i64 q1.n, .int .i64 q1.d, .int .i64 q1.t, .int .i64 q1.s, .slice q1.ma q1.mn q1.mc, .slice q1.la q1.ln q1.lc, .slice q1.ha q1.hn q1.hc, .slice q1.aa q1.an q1.ac, .slice q1.xa q1.xn q1.xc, .bool q1.b]) := ⟨HX2.out.al _⟩
        have HQ : Hk (Bk (z.alloc (.cells #[.int .i64 q2.i, .int .i64 q2.n, .int .i64 q2.d, .int .i64 q2.t, .int .i64 q2.s, .slice q2.ma q2.mn q2.mc, .slice q2.la q2.ln q2.lc, .slice q2.ha q2.hn q2.hc, .slice q2.aa q2.an q2.ac, .slice q2.xa q2.xn q2.xc, .bool q2.b] 28)) z.heap.size #[.int .i64 q2.i, .int .i64 q2.n, .int .i64 q2.d, .int .i64 q2.t, .int .i64 q2.s, .slice q2.ma q2.mn q2.mc, .slice q2.la q2.ln q2.lc, .slice q2.ha q2.hn q2.hc, .slice q2.aa q2.an q2.ac, .slice q2.xa q2.xn q2.xc, .bool q2.b]) := ⟨Bk.new z #[.int .i64 q2.i, .int .i64 q2.n, .int .i64 q2.d, .int .i64 q2.t, .int .i64 q2.s, .slice q2.ma q2.mn q2.mc, .slice q2.la q2.ln q2.lc, .slice q2.ha q2.hn q2.hc, .slice q2.aa q2.an q2.ac, .slice q2.xa q2.xn q2.xc, .bool q2.b] 28⟩
        have HD1 : Hk (PvD (z.alloc (.cells #[.int .i64 q2.i, .int .i64 q2.n, .int .i64 q2.d, .int .i64 q2.t, .int .i64 q2.s, .slice q2.ma q2.mn q2.mc, .slice q2.la q2.ln q2.lc, .slice q2.ha q2.hn q2.hc, .slice q2.aa q2.an q2.ac, .slice q2.xa q2.xn q2.xc, .bool q2.b] 28)) (z.alloc (.cells #[.int .i64 q2.i, .int .i64 q2.n, .int .i64 q2.d, .int .i64 q2.t, .int .i64 q2.s, .slice q2.ma q2.mn q2.mc, .slice q2.la q2.ln q2.lc, .slice q2.ha q2.hn q2.hc, .slice q2.aa q2.an q2.ac, .slice q2.xa q2.xn q2.xc, .bool q2.b] 28)).heap.size q1) := ⟨HD12.out.later ((Below.refl _ _).alloc (Nat.le_refl _) _)⟩
        replace HD2 : Hk (PvD (z.alloc (.cells #[.int .i64 q2.i, .int .i64 q2.n, .int .i64 q2.d, .int .i64 q2.t, .int .i64 q2.s, .slice q2.ma q2.mn q2.mc, .slice q2.la q2.ln q2.lc, .slice q2.ha q2.hn q2.hc, .slice q2.aa q2.an q2.ac, .slice q2.xa q2.xn q2.xc, .bool q2.b] 28)) (z.alloc (.cells #[.int .i64 q2.i, .int .i64 q2.n, .int .i64 q2.d, .int .i64 q2.t, .int .i64 q2.s, .slice q2.ma q2.mn q2.mc, .slice q2.la q2.ln q2.lc, .slice q2.ha q2.hn q2.hc, .slice q2.aa q2.an q2.ac, .slice q2.xa q2.xn q2.xc, .bool q2.b] 28)).heap.size q2) := ⟨HD2.out.later ((Below.refl _ _).alloc (Nat.le_refl _) _)⟩
        have HE : Hk (q2.ab = q1.ab) := ⟨by rw [HA1.out, HA2.out]⟩
        clear HB2 HX2 HD12 HA1 HA2 HU
        generalize hpq : z.heap.size = PQ at *
        clear hpq
        generalize (z.alloc (.cells #[.int .i64 q2.i, .int .i64 q2.n, .int .i64 q2.d, .int .i64 q2.t, .int .i64 q2.s, .slice q2.ma q2.mn q2.mc, .slice q2.la q2.ln q2.lc, .slice q2.ha q2.hn q2.hc, .slice q2.aa q2.an q2.ac, .slice q2.xa q2.xn q2.xc, .bool q2.b] 28)) = V2 at *
        have c0 := HX.out.c 0; have c1 := HX.out.c 1; have c2 := HX.out.c 2; have c3 := HX.out.c 3; have c4 := HX.out.c 4; have c5 := HX.out.c 5; have c6 := HX.out.c 6; have c7 := HX.out.c 7; have c8 := HX.out.c 8; have c9 := HX.out.c 9; have c10 := HX.out.c 10; have d0 := HQ.out.c 0; have d1 := HQ.out.c 1; have d2 := HQ.out.c 2; have d3 := HQ.out.c 3; have d4 := HQ.out.c 4; have d5 := HQ.out.c 5; have d6 := HQ.out.c 6; have d7 := HQ.out.c 7; have d8 := HQ.out.c 8; have d9 := HQ.out.c 9; have d10 := HQ.out.c 10; have cl := HX.out.lt; have dl := HQ.out.lt; simp at c0 c1 c2 c3 c4 c5 c6 c7 c8 c9 c10 d0 d1 d2 d3 d4 d5 d6 d7 d8 d9 d10
        go_wp2_with (first | (go_at_call 9; (with_reducible refine (num28_any _ _).mono ?_); rintro e z2 ⟨rfl, hz⟩; rw [hz]; clear hz z2) | (go_at_call 10; go_loud ((with_reducible refine (eqp_as true q2 q1 _ HD2.out HD1.out HS2.out HS1.out ⟨⟨fun _ => rfl, fun _ => HE.out⟩⟩).mono ?_); rintro e z ⟨rfl, hb⟩; have HBE := Hk.mk (kw_step HB.out L0 hb); clear hb)))
        exact ⟨⟨j + 1, rfl, by omega, by omega, HBE⟩, by simp only [intOf]; omega⟩
      have f1 : decide (1 ≤ n) = true := by rw [decide_eq_true_iff]; exact t1
      by_cases t2 : n ≤ 8
      case neg =>
        have f2 : decide (n ≤ 8) = false := by rw [decide_eq_false_iff_not]; exact t2
        have hno : ¬ MayP i n d := fun g => t2 g.2.1
        clear t1 t2
        have HM := Hk.mk hno
        clear hno
        obtain ⟨W0, hw0⟩ : ∃ W, W = zeP := ⟨_, rfl⟩
        have HU : Hk (NewP i n d W0 1) := ⟨Or.inr ⟨HM.out, hw0, rfl⟩⟩
        obtain ⟨q1, hq1⟩ : ∃ q, q = zeV := ⟨_, rfl⟩
        have HA1 : Hk (q1.ab = W0) := ⟨by rw [hq1, hw0]; rfl⟩
        have HS1 : Hk (PvS q1) := ⟨by rw [hq1]; exact zeV_s⟩
        have HQ1 := Hk.mk hq1
        clear hw0 hq1 HM
        go_upto_region 6 with fail
        have HB : Hk (Below w.heap.size w (W4.alloc (.cells #[.int .i64 0, .int .i64 0, .int .i64 0, .int .i64 0, .int .i64 0, .slice none 0 0, .slice none 0 0, .slice none 0 0, .slice none 0 0, .slice none 0 0, .bool false] 28))) := ⟨kw_al HB4.out L0 (.cells #[.int .i64 0, .int .i64 0, .int .i64 0, .int .i64 0, .int .i64 0, .slice none 0 0, .slice none 0 0, .slice none 0 0, .slice none 0 0, .slice none 0 0, .bool false] 28)⟩
        have HX : Hk (Bk (W4.alloc (.cells #[.int .i64 0, .int .i64 0, .int .i64 0, .int .i64 0, .int .i64 0, .slice none 0 0, .slice none 0 0, .slice none 0 0, .slice none 0 0, .slice none 0 0, .bool false] 28)) W4.heap.size #[.int .i64 q1.i, .int .i64 q1.n, .int .i64 q1.d, .int .i64 q1.t, .int .i64 q1.s, .slice q1.ma q1.mn q1.mc, .slice q1.la q1.ln q1.lc, .slice q1.ha q1.hn q1.hc, .slice q1.aa q1.an q1.ac, .slice q1.xa q1.xn q1.xc, .bool q1.b]) := ⟨by rw [HQ1.out]; exact Bk.new W4 #[.int .i64 0, .int .i64 0, .int .i64 0, .int .i64 0, .int .i64 0, .slice none 0 0, .slice none 0 0, .slice none 0 0, .slice none 0 0, .slice none 0 0, .bool false] 28⟩
        have HD1 : Hk (PvD (W4.alloc (.cells #[.int .i64 0, .int .i64 0, .int .i64 0, .int .i64 0, .int .i64 0, .slice none 0 0, .slice none 0 0, .slice none 0 0, .slice none 0 0, .slice none 0 0, .bool false] 28)) (W4.alloc (.cells #[.int .i64 0, .int .i64 0, .int .i64 0, .int .i64 0, .int .i64 0, .slice none 0 0, .slice none 0 0, .slice none 0 0, .slice none 0 0, .slice none 0 0, .bool false] 28)).heap.size q1) := ⟨by rw [HQ1.out]; exact zeV_d _⟩
        clear HB4
        generalize hpw : W4.heap.size = PW at *
        clear hpw
        generalize (W4.alloc (.cells #[.int .i64 0, .int .i64 0, .int .i64 0, .int .i64 0, .int .i64 0, .slice none 0 0, .slice none 0 0, .slice none 0 0, .slice none 0 0, .slice none 0 0, .bool false] 28)) = V at *
        go_upto_region 8 with fail
        go_upto_region 9 with (go_at_call 8; go_loud ((with_reducible refine (pnew_u i _ d W0 1 _ HU.out).mono ?_); rintro e z ⟨q2, rfl, hd2, ha2, hs2, hb⟩; have HD2 := Hk.mk hd2; have HA2 := Hk.mk ha2; have HS2 := Hk.mk hs2; have HB2 := Hk.mk (kw_step HB.out L0 hb); have HX2 := Hk.mk (HX.out.below hb); have HD12 := Hk.mk (HD1.out.later hb); clear hd2 ha2 hs2 hb HB HX HD1))
        have HB : Hk (Below w.heap.size w (z.alloc (.cells #[.int .i64 q2.i, .int .i64 q2.n, .int .i64 q2.d, .int .i64 q2.t, .int .i64 q2.s, .slice q2.ma q2.mn q2.mc, .slice q2.la q2.ln q2.lc, .slice q2.ha q2.hn q2.hc, .slice q2.aa q2.an q2.ac, .slice q2.xa q2.xn q2.xc, .bool q2.b] 28))) := ⟨kw_al HB2.out L0 (.cells #[.int .i64 q2.i, .int .i64 q2.n, .int .i64 q2.d, .int .i64 q2.t, .int .i64 q2.s, .slice q2.ma q2.mn q2.mc, .slice q2.la q2.ln q2.lc, .slice q2.ha q2.hn q2.hc, .slice q2.aa q2.an q2.ac, .slice q2.xa q2.xn q2.xc, .bool q2.b] 28)⟩
        have HX : Hk (Bk (z.alloc (.cells #[.int .i64 q2.i, .int .i64 q2.n, .int .i64 q2.d, .int .i64 q2.t, .int .i64 q2.s, .slice q2.ma q2.mn q2.mc, .slice q2.la q2.ln q2.lc, .slice q2.ha q2.hn q2.hc, .slice q2.aa q2.an q2.ac, .slice q2.xa q2.xn q2.xc, .bool q2.b] 28)) PW #[.int .i64 q1.i, .int .i64 q1.n, .int .i64 q1.d, .int .i64 q1.t, .int .i64 q1.s, .slice q1.ma q1.mn q1.mc, .slice q1.la q1.ln q1.lc, .slice q1.ha q1.hn q1.hc, .slice q1.aa q1.an q1.ac, .slice q1.xa q1.xn q1.xc, .bool q1.b]) := ⟨HX2.out.al _⟩
        have HQ : Hk (Bk (z.alloc (.cells #[.int .i64 q2.i, .int .i64 q2.n, .int .i64 q2.d, .int .i64 q2.t, .int .i64 q2.s, .slice q2.ma q2.mn q2.mc, .slice q2.la q2.ln q2.lc, .slice q2.ha q2.hn q2.hc, .slice q2.aa q2.an q2.ac, .slice q2.xa q2.xn q2.xc, .bool q2.b] 28)) z.heap.size #[.int .i64 q2.i, .int .i64 q2.n, .int .i64 q2.d, .int .i64 q2.t, .int .i64 q2.s, .slice q2.ma q2.mn q2.mc, .slice q2.la q2.ln q2.lc, .slice q2.ha q2.hn q2.hc, .slice q2.aa q2.an q2.ac, .slice q2.xa q2.xn q2.xc, .bool q2.b]) := ⟨Bk.new z #[.int .i64 q2.i, .int .i64 q2.n, .int .i64 q2.d, .int .i64 q2.t, .int .i64 q2.s, .slice q2.ma q2.mn q2.mc, .slice q2.la q2.ln q2.lc, .slice q2.ha q2.hn q2.hc, .slice q2.aa q2.an q2.ac, .slice q2.xa q2.xn q2.xc, .bool q2.b] 28⟩
        have HD1 : Hk (PvD (z.alloc (.cells #[.int .i64 q2.i, .int .i64 q2.n, .int .i64 q2.d, .int .i64 q2.t, .int .i64 q2.s, .slice q2.ma q2.mn q2.mc, .slice q2.la q2.ln q2.lc, .slice q2.ha q2.hn q2.hc, .slice q2.aa q2.an q2.ac, .slice q2.xa q2.xn q2.xc, .bool q2.b] 28)) (z.alloc (.cells #[.int .i64 q2.i, .int .i64 q2.n, .int .i64 q2.d, .int .i64 q2.t, .int .i64 q2.s, .slice q2.ma q2.mn q2.mc, .slice q2.la q2.ln q2.lc, .slice q2.ha q2.hn q2.hc, .slice q2.aa q2.an q2.ac, .slice q2.xa q2.xn q2.xc, .bool q2.b] 28)).heap.size q1) := ⟨HD12.out.later ((Below.refl _ _).alloc (Nat.le_refl _) _)⟩
        replace HD2 : Hk (PvD (z.alloc (.cells #[.int .i64 q2.i, .int .i64 q2.n, .int .i64 q2.d, .int .i64 q2.t, .int .i64 q2.s, .slice q2.ma q2.mn q2.mc, .slice q2.la q2.ln q2.lc, .slice q2.ha q2.hn q2.hc, .slice q2.aa q2.an q2.ac, .slice q2.xa q2.xn q2.xc, .bool q2.b] 28)) (z.alloc (.cells #[.int .i64 q2.i, .int .i64 q2.n, .int .i64 q2.d, .int .i64 q2.t, .int .i64 q2.s, .slice q2.ma q2.mn q2.mc, .slice q2.la q2.ln q2.lc, .slice q2.ha q2.hn q2.hc, .slice q2.aa q2.an q2.ac, .slice q2.xa q2.xn q2.xc, .bool q2.b] 28)).heap.size q2) := ⟨HD2.out.later ((Below.refl _ _).alloc (Nat.le_refl _) _)⟩
        have HE : Hk (q2.ab = q1.ab) := ⟨by rw [HA1.out, HA2.out]⟩
        clear HB2 HX2 HD12 HA1 HA2 HU
        generalize hpq : z.heap.size = PQ at *
        clear hpq
        generalize (z.alloc (.cells #[.int .i64 q2.i, .int .i64 q2.n, .int .i64 q2.d, .int .i64 q2.t, .int .i64 q2.s, .slice q2.ma q2.mn q2.mc, .slice q2.la q2.ln q2.lc, .slice q2.ha q2.hn q2.hc, .slice q2.aa q2.an q2.ac, .slice q2.xa q2.xn q2.xc, .bool q2.b] 28)) = V2 at *
        have c0 := HX.out.c 0; have c1 := HX.out.c 1; have c2 := HX.out.c 2; have c3 := HX.out.c 3; have c4 := HX.out.c 4; have c5 := HX.out.c 5; have c6 := HX.out.c 6; have c7 := HX.out.c 7; have c8 := HX.out.c 8; have c9 := HX.out.c 9; have c10 := HX.out.c 10; have d0 := HQ.out.c 0; have d1 := HQ.out.c 1; have d2 := HQ.out.c 2; have d3 := HQ.out.c 3; have d4 := HQ.out.c 4; have d5 := HQ.out.c 5; have d6 := HQ.out.c 6; have d7 := HQ.out.c 7; have d8 := HQ.out.c 8; have d9 := HQ.out.c 9; have d10 := HQ.out.c 10; have cl := HX.out.lt; have dl := HQ.out.lt; simp at c0 c1 c2 c3 c4 c5 c6 c7 c8 c9 c10 d0 d1 d2 d3 d4 d5 d6 d7 d8 d9 d10
        go_wp2_with (first | (go_at_call 9; (with_reducible refine (num28_any _ _).mono ?_); rintro e z2 ⟨rfl, hz⟩; rw [hz]; clear hz z2) | (go_at_call 10; go_loud ((with_reducible refine (eqp_as true q2 q1 _ HD2.out HD1.out HS2.out HS1.out ⟨⟨fun _ => rfl, fun _ => HE.out⟩⟩).mono ?_); rintro e z ⟨rfl, hb⟩; have HBE := Hk.mk (kw_step HB.out L0 hb); clear hb)))
        exact ⟨⟨j + 1, rfl, by omega, by omega, HBE⟩, by simp only [intOf]; omega⟩
      have f2 : decide (n ≤ 8) = true := by rw [decide_eq_true_iff]; exact t2
      by_cases t3 : 1 ≤ i
      case neg =>
        have f3 : decide (1 ≤ i) = false := by rw [decide_eq_false_iff_not]; exact t3
        have hno : ¬ MayP i n d := fun g => t3 g.2.2.1
        clear t1 t2 t3
        have HM := Hk.mk hno
        clear hno
        obtain ⟨W0, hw0⟩ : ∃ W, W = zeP := ⟨_, rfl⟩
        have HU : Hk (NewP i n d W0 1) := ⟨Or.inr ⟨HM.out, hw0, rfl⟩⟩
        obtain ⟨q1, hq1⟩ : ∃ q, q = zeV := ⟨_, rfl⟩
        have HA1 : Hk (q1.ab = W0) := ⟨by rw [hq1, hw0]; rfl⟩
        have HS1 : Hk (PvS q1) := ⟨by rw [hq1]; exact zeV_s⟩
        have HQ1 := Hk.mk hq1
        clear hw0 hq1 HM
        go_upto_region 6 with fail
        have HB : Hk (Below w.heap.size w (W4.alloc (.cells #[.int .i64 0, .int .i64 0, .int .i64 0, .int .i64 0, .int .i64 0, .slice none 0 0, .slice none 0 0, .slice none 0 0, .slice none 0 0, .slice none 0 0, .bool false] 28))) := ⟨kw_al HB4.out L0 (.cells #[.int .i64 0, .int .i64 0, .int .i64 0, .int .i64 0, .int .i64 0, .slice none 0 0, .slice none 0 0, .slice none 0 0, .slice none 0 0, .slice none 0 0, .bool false] 28)⟩
        have HX : Hk (Bk (W4.alloc (.cells #[.int .i64 0, .int .i64 0, .int .i64 0, .int .i64 0, .int .i64 0, .slice none 0 0, .slice none 0 0, .slice none 0 0, .slice none 0 0, .slice none 0 0, .bool false] 28)) W4.heap.size #[.int .i64 q1.i, .int .i64 q1.n, .int .i64 q1.d, .int .i64 q1.t, .int .i64 q1.s, .slice q1.ma q1.mn q1.mc, .slice q1.la q1.ln q1.lc, .slice q1.ha q1.hn q1.hc, .slice q1.aa q1.an q1.ac, .slice q1.xa q1.xn q1.xc, .bool q1.b]) := ⟨by rw [HQ1.out]; exact Bk.new W4 #[.int .i64 0, .int .i64 0, .int .i64 0, .int .i64 0, .int .i64 0, .slice none 0 0, .slice none 0 0, .slice none 0 0, .slice none 0 0, .slice none 0 0, .bool false] 28⟩
        have HD1 : Hk (PvD (W4.alloc (.cells #[.int .i64 0, .int .i64 0, .int .i64 0, .int .i64 0, .int .i64 0, .slice none 0 0, .slice none 0 0, .slice none 0 0, .slice none 0 0, .slice none 0 0, .bool false] 28)) (W4.alloc (.cells #[.int .i64 0, .int .i64 0, .int .i64 0, .int .i64 0, .int .i64 0, .slice none 0 0, .slice none 0 0, .slice none 0 0, .slice none 0 0, .slice none 0 0, .bool false] 28)).heap.size q1) := ⟨by rw [HQ1.out]; exact zeV_d _⟩
        clear HB4
        generalize hpw : W4.heap.size = PW at *
        clear hpw
        generalize (W4.alloc (.cells #[.int .i64 0, .int .i64 0, .int .i64 0, .int .i64 0, .int .i64 0, .slice none 0 0, .slice none 0 0, .slice none 0 0, .slice none 0 0, .slice none 0 0, .bool false] 28)) = V at *
        go_upto_region 8 with fail
        go_upto_region 9 with (go_at_call 8; go_loud ((with_reducible refine (pnew_u i _ d W0 1 _ HU.out).mono ?_); rintro e z ⟨q2, rfl, hd2, ha2, hs2, hb⟩; have HD2 := Hk.mk hd2; have HA2 := Hk.mk ha2; have HS2 := Hk.mk hs2; have HB2 := Hk.mk (kw_step HB.out L0 hb); have HX2 := Hk.mk (HX.out.below hb); have HD12 := Hk.mk (HD1.out.later hb); clear hd2 ha2 hs2 hb HB HX HD1))
        have HB : Hk (Below w.heap.size w (z.alloc (.cells #[.int .i64 q2.i, .int .i64 q2.n, .int .i64 q2.d, .int .i64 q2.t, .int .i64 q2.s, .slice q2.ma q2.mn q2.mc, .slice q2.la q2.ln q2.lc, .slice q2.ha q2.hn q2.hc, .slice q2.aa q2.an q2.ac, .slice q2.xa q2.xn q2.xc, .bool q2.b] 28))) := ⟨kw_al HB2.out L0 (.cells #[.int .i64 q2.i, .int .i64 q2.n, .int .i64 q2.d, .int .i64 q2.t, .int .i64 q2.s, .slice q2.ma q2.mn q2.mc, .slice q2.la q2.ln q2.lc, .slice q2.ha q2.hn q2.hc, .slice q2.aa q2.an q2.ac, .slice q2.xa q2.xn q2.xc, .bool q2.b] 28)⟩
        have HX : Hk (Bk (z.alloc (.cells #[.int .i64 q2.i, .int .i64 q2.n, .int .i64 q2.d, .int .i64 q2.t, .int .i64 q2.s, .slice q2.ma q2.mn q2.mc, .slice q2.la q2.ln q2.lc, .slice q2.ha q2.hn q2.hc, .slice q2.aa q2.an q2.ac, .slice q2.xa q2.xn q2.xc, .bool q2.b] 28)) PW #[.int .i64 q1.i, .int .i64 q1.n, .int .i64 q1.d, .int .i64 q1.t, .int .i64 q1.s, .slice q1.ma q1.mn q1.mc, .slice q1.la q1.ln q1.lc, .slice q1.ha q1.hn q1.hc, .slice q1.aa q1.an q1.ac, .slice q1.xa q1.xn q1.xc, .bool q1.b]) := ⟨HX2.out.al _⟩
        have HQ : Hk (Bk (z.alloc (.cells #[.int .i64 q2.i, .int .i64 q2.n, .int .i64 q2.d, .int .i64 q2.t, .int .i64 q2.s, .slice q2.ma q2.mn q2.mc, .slice q2.la q2.ln q2.lc, .slice q2.ha q2.hn q2.hc, .slice q2.aa q2.an q2.ac, .slice q2.xa q2.xn q2.xc, .bool q2.b] 28)) z.heap.size #[.int .i64 q2.i, .int .i64 q2.n, .int .i64 q2.d, .int .i64 q2.t, .int .i64 q2.s, .slice q2.ma q2.mn q2.mc, .slice q2.la q2.ln q2.lc, .slice q2.ha q2.hn q2.hc, .slice q2.aa q2.an q2.ac, .slice q2.xa q2.xn q2.xc, .bool q2.b]) := ⟨Bk.new z #[.int .i64 q2.i, .int .i64 q2.n, .int .i64 q2.d, .int .i64 q2.t, .int .i64 q2.s, .slice q2.ma q2.mn q2.mc, .slice q2.la q2.ln q2.lc, .slice q2.ha q2.hn q2.hc, .slice q2.aa q2.an q2.ac, .slice q2.xa q2.xn q2.xc, .bool q2.b] 28⟩
        have HD1 : Hk (PvD (z.alloc (.cells #[.int .i64 q2.i, .int .i64 q2.n, .int .i64 q2.d, .int .i64 q2.t, .int .i64 q2.s, .slice q2.ma q2.mn q2.mc, .slice q2.la q2.ln q2.lc, .slice q2.ha q2.hn q2.hc, .slice q2.aa q2.an q2.ac, .slice q2.xa q2.xn q2.xc, .bool q2.b] 28)) (z.alloc (.cells #[.int .i64 q2.i, .int .i64 q2.n, .int .i64 q2.d, .int .i64 q2.t, .int .i64 q2.s, .slice q2.ma q2.mn q2.mc, .slice q2.la q2.ln q2.lc, .slice q2.ha q2.hn q2.hc, .slice q2.aa q2.an q2.ac, .slice q2.xa q2.xn q2.xc, .bool q2.b] 28)).heap.size q1) := ⟨HD12.out.later ((Below.refl _ _).alloc (Nat.le_refl _) _)⟩
        replace HD2 : Hk (PvD (z.alloc (.cells #[.int .i64 q2.i, .int .i64 q2.n, .int .i64 q2.d, .int .i64 q2.t, .int .i64 q2.s, .slice q2.ma q2.mn q2.mc, .slice q2.la q2.ln q2.lc, .slice q2.ha q2.hn q2.hc, .slice q2.aa q2.an q2.ac, .slice q2.xa q2.xn q2.xc, .bool q2.b] 28)) (z.alloc (.cells #[.int .i64 q2.i, .int .i64 q2.n, .int .i64 q2.d, .int .i64 q2.t, .int .i64 q2.s, .slice q2.ma q2.mn q2.mc, .slice q2.la q2.ln q2.lc, .slice q2.ha q2.hn q2.hc, .slice q2.aa q2.an q2.ac, .slice q2.xa q2.xn q2.xc, .bool q2.b] 28)).heap.size q2) := ⟨HD2.out.later ((Below.refl _ _).alloc (Nat.le_refl _) _)⟩
        have HE : Hk (q2.ab = q1.ab) := ⟨by rw [HA1.out, HA2.out]⟩
        clear HB2 HX2 HD12 HA1 HA2 HU
        generalize hpq : z.heap.size = PQ at *
        clear hpq
        generalize (z.alloc (.cells #[.int .i64 q2.i, .int .i64 q2.n, .int .i64 q2.d, .int .i64 q2.t, .int .i64 q2.s, .slice q2.ma q2.mn q2.mc, .slice q2.la q2.ln q2.lc, .slice q2.ha q2.hn q2.hc, .slice q2.aa q2.an q2.ac, .slice q2.xa q2.xn q2.xc, .bool q2.b] 28)) = V2 at *
        have c0 := HX.out.c 0; have c1 := HX.out.c 1; have c2 := HX.out.c 2; have c3 := HX.out.c 3; have c4 := HX.out.c 4; have c5 := HX.out.c 5; have c6 := HX.out.c 6; have c7 := HX.out.c 7; have c8 := HX.out.c 8; have c9 := HX.out.c 9; have c10 := HX.out.c 10; have d0 := HQ.out.c 0; have d1 := HQ.out.c 1; have d2 := HQ.out.c 2; have d3 := HQ.out.c 3; have d4 := HQ.out.c 4; have d5 := HQ.out.c 5; have d6 := HQ.out.c 6; have d7 := HQ.out.c 7; have d8 := HQ.out.c 8; have d9 := HQ.out.c 9; have d10 := HQ.out.c 10; have cl := HX.out.lt; have dl := HQ.out.lt; simp at c0 c1 c2 c3 c4 c5 c6 c7 c8 c9 c10 d0 d1 d2 d3 d4 d5 d6 d7 d8 d9 d10
        go_wp2_with (first | (go_at_call 9; (with_reducible refine (num28_any _ _).mono ?_); rintro e z2 ⟨rfl, hz⟩; rw [hz]; clear hz z2) | (go_at_call 10; go_loud ((with_reducible refine (eqp_as true q2 q1 _ HD2.out HD1.out HS2.out HS1.out ⟨⟨fun _ => rfl, fun _ => HE.out⟩⟩).mono ?_); rintro e z ⟨rfl, hb⟩; have HBE := Hk.mk (kw_step HB.out L0 hb); clear hb)))
        exact ⟨⟨j + 1, rfl, by omega, by omega, HBE⟩, by simp only [intOf]; omega⟩
      have f3 : decide (1 ≤ i) = true := by rw [decide_eq_true_iff]; exact t3
      by_cases t4 : i ≤ n
      case neg =>
        have f4 : decide (i ≤ n) = false := by rw [decide_eq_false_iff_not]; exact t4
        have hno : ¬ MayP i n d := fun g => t4 g.2.2.2.1
        clear t1 t2 t3 t4
        have HM := Hk.mk hno
        clear hno
        obtain ⟨W0, hw0⟩ : ∃ W, W = zeP := ⟨_, rfl⟩
        have HU : Hk (NewP i n d W0 1) := ⟨Or.inr ⟨HM.out, hw0, rfl⟩⟩
        obtain ⟨q1, hq1⟩ : ∃ q, q = zeV := ⟨_, rfl⟩
        have HA1 : Hk (q1.ab = W0) := ⟨by rw [hq1, hw0]; rfl⟩
        have HS1 : Hk (PvS q1) := ⟨by rw [hq1]; exact zeV_s⟩
        have HQ1 := Hk.mk hq1
        clear hw0 hq1 HM
        go_upto_region 6 with fail
        have HB : Hk (Below w.heap.size w (W4.alloc (.cells #[.int .i64 0, .int .i64 0, .int .i64 0, .int .i64 0, .int .i64 0, .slice none 0 0, .slice none 0 0, .slice none 0 0, .slice none 0 0, .slice none 0 0, .bool false] 28))) := ⟨kw_al HB4.out L0 (.cells #[.int .i64 0, .int .i64 0, .int .i64 0, .int .i64 0, .int .i64 0, .slice none 0 0, .slice none 0 0, .slice none 0 0, .slice none 0 0, .slice none 0 0, .bool false] 28)⟩
        have HX : Hk (Bk (W4.alloc (.cells #[.int .i64 0, .int .i64 0, .int .i64 0, .int .i64 0, .int .i64 0, .slice none 0 0, .slice none 0 0, .slice none 0 0, .slice none 0 0, .slice none 0 0, .bool false] 28)) W4.heap.size #[.int .i64 q1.i, .int .i64 q1.n, .int .i64 q1.d, .int .i64 q1.t, .int .i64 q1.s, .slice q1.ma q1.mn q1.mc, .slice q1.la q1.ln q1.lc, .slice q1.ha q1.hn q1.hc, .slice q1.aa q1.an q1.ac, .slice q1.xa q1.xn q1.xc, .bool q1.b]) := ⟨by rw [HQ1.out]; exact Bk.new W4 #[.int .i64 0, .int .i64 0, .int .i64 0, .int .i64 0, .int .i64 0, .slice none 0 0, .slice none 0 0, .slice none 0 0, .slice none 0 0, .slice none 0 0, .bool false] 28⟩
        have HD1 : Hk (PvD (W4.alloc (.cells #[.int .i64 0, .int .i64 0, .int .i64 0, .int .i64 0, .int .i64 0, .slice none 0 0, .slice none 0 0, .slice none 0 0, .slice none 0 0, .slice none 0 0, .bool false] 28)) (W4.alloc (.cells #[.int .i64 0, .int .i64 0, .int .i64 0, .int .i64 0, .int .i64 0, .slice none 0 0, .slice none 0 0, .slice none 0 0, .slice none 0 0, .slice none 0 0, .bool false] 28)).heap.size q1) := ⟨by rw [HQ1.out]; exact zeV_d _⟩
        clear HB4
        generalize hpw : W4.heap.size = PW at *
        clear hpw
        generalize (W4.alloc (.cells #[.int .i64 0, .int .i64 0, .int .i64 0, .int .i64 0, .int .i64 0, .slice none 0 0, .slice none 0 0, .slice none 0 0, .slice none 0 0, .slice none 0 0, .bool false] 28)) = V at *
        go_upto_region 8 with fail
        go_upto_region 9 with (go_at_call 8; go_loud ((with_reducible refine (pnew_u i _ d W0 1 _ HU.out).mono ?_); rintro e z ⟨q2, rfl, hd2, ha2, hs2, hb⟩; have HD2 := Hk.mk hd2; have HA2 := Hk.mk ha2; have HS2 := Hk.mk hs2; have HB2 := Hk.mk (kw_step HB.out L0 hb); have HX2 := Hk.mk (HX.out.below hb); have HD12 := Hk.mk (HD1.out.later hb); clear hd2 ha2 hs2 hb HB HX HD1))
        have HB : Hk (Below w.heap.size w (z.alloc (.cells #[.int .i64 q2.i, .int .i64 q2.n, .int .i64 q2.d, .int .i64 q2.t, .int .i64 q2.s, .slice q2.ma q2.mn q2.mc, .slice q2.la q2.ln q2.lc, .slice q2.ha q2.hn q2.hc, .slice q2.aa q2.an q2.ac, .slice q2.xa q2.xn q2.xc, .bool q2.b] 28))) := ⟨kw_al HB2.out L0 (.cells #[.int .i64 q2.i, .int .i64 q2.n, .int .i64 q2.d, .int .i64 q2.t, .int .i64 q2.s, .slice q2.ma q2.mn q2.mc, .slice q2.la q2.ln q2.lc, .slice q2.ha q2.hn q2.hc, .slice q2.aa q2.an q2.ac, .slice q2.xa q2.xn q2.xc, .bool q2.b] 28)⟩
        have HX : Hk (Bk (z.alloc (.cells #[.int .i64 q2.i, .int .i64 q2.n, .int .i64 q2.d, .int .i64 q2.t, .int .i64 q2.s, .slice q2.ma q2.mn q2.mc, .slice q2.la q2.ln q2.lc, .slice q2.ha q2.hn q2.hc, .slice q2.aa q2.an q2.ac, .slice q2.xa q2.xn q2.xc, .bool q2.b] 28)) PW #[.int .i64 q1.i, .int .i64 q1.n, .int .i64 q1.d, .int .i64 q1.t, .int .i64 q1.s, .slice q1.ma q1.mn q1.mc, .slice q1.la q1.ln q1.lc, .slice q1.ha q1.hn q1.hc, .slice q1.aa q1.an q1.ac, .slice q1.xa q1.xn q1.xc, .bool q1.b]) := ⟨HX2.out.al _⟩
        have HQ : Hk (Bk (z.alloc (.cells #[.int .i64 q2.i, .int .i64 q2.n, .int .i64 q2.d, .int .i64 q2.t, .int .i64 q2.s, .slice q2.ma q2.mn q2.mc, .slice q2.la q2.ln q2.lc, .slice q2.ha q2.hn q2.hc, .slice q2.aa q2.an q2.ac, .slice q2.xa q2.xn q2.xc, .bool q2.b] 28)) z.heap.size #[.int .i64 q2.i, .int .i64 q2.n, .int .i64 q2.d, .int .i64 q2.t, .int .i64 q2.s, .slice q2.ma q2.mn q2.mc, .slice q2.la q2.ln q2.lc, .slice q2.ha q2.hn q2.hc, .slice q2.aa q2.an q2.ac, .slice q2.xa q2.xn q2.xc, .bool q2.b]) := ⟨Bk.new z #[.int .i64 q2.i, .int .i64 q2.n, .int .i64 q2.d, .int .i64 q2.t, .int .i64 q2.s, .slice q2.ma q2.mn q2.mc, .slice q2.la q2.ln q2.lc, .slice q2.ha q2.hn q2.hc, .slice q2.aa q2.an q2.ac, .slice q2.xa q2.xn q2.xc, .bool q2.b] 28⟩
        have HD1 : Hk (PvD (z.alloc (.cells #[.int .i64 q2.i, .int .i64 q2.n, .int .i64 q2.d, .int .i64 q2.t, .int .i64 q2.s, .slice q2.ma q2.mn q2.mc, .slice q2.la q2.ln q2.lc, .slice q2.ha q2.hn q2.hc, .slice q2.aa q2.an q2.ac, .slice q2.xa q2.xn q2.xc, .bool q2.b] 28)) (z.alloc (.cells #[.int .i64 q2.i, .int .i64 q2.n, .int .i64 q2.d, .int .i64 q2.t, .int .i64 q2.s, .slice q2.ma q2.mn q2.mc, .slice q2.la q2.ln q2.lc, .slice q2.ha q2.hn q2.hc, .slice q2.aa q2.an q2.ac, .slice q2.xa q2.xn q2.xc, .bool q2.b] 28)).heap.size q1) := ⟨HD12.out.later ((Below.refl _ _).alloc (Nat.le_refl _) _)⟩
        replace HD2 : Hk (PvD (z.alloc (.cells #[.int .i64 q2.i, .int .i64 q2.n, .int .i64 q2.d, .int .i64 q2.t, .int .i64 q2.s, .slice q2.ma q2.mn q2.mc, .slice q2.la q2.ln q2.lc, .slice q2.ha q2.hn q2.hc, .slice q2.aa q2.an q2.ac, .slice q2.xa q2.xn q2.xc, .bool q2.b] 28)) (z.alloc (.cells #[.int .i64 q2.i, .int .i64 q2.n, .int .i64 q2.d, .int .i64 q2.t, .int .i64 q2.s, .slice q2.ma q2.mn q2.mc, .slice q2.la q2.ln q2.lc, .slice q2.ha q2.hn q2.hc, .slice q2.aa q2.an q2.ac, .slice q2.xa q2.xn q2.xc, .bool q2.b] 28)).heap.size q2) := ⟨HD2.out.later ((Below.refl _ _).alloc (Nat.le_refl _) _)⟩
        have HE : Hk (q2.ab = q1.ab) := ⟨by rw [HA1.out, HA2.out]⟩
        clear HB2 HX2 HD12 HA1 HA2 HU
        generalize hpq : z.heap.size = PQ at *
        clear hpq
        generalize (z.alloc (.cells #[.int .i64 q2.i, .int .i64 q2.n, .int .i64 q2.d, .int .i64 q2.t, .int .i64 q2.s, .slice q2.ma q2.mn q2.mc, .slice q2.la q2.ln q2.lc, .slice q2.ha q2.hn q2.hc, .slice q2.aa q2.an q2.ac, .slice q2.xa q2.xn q2.xc, .bool q2.b] 28)) = V2 at *
        have c0 := HX.out.c 0; have c1 := HX.out.c 1; have c2 := HX.out.c 2; have c3 := HX.out.c 3; have c4 := HX.out.c 4; have c5 := HX.out.c 5; have c6 := HX.out.c 6; have c7 := HX.out.c 7; have c8 := HX.out.c 8; have c9 := HX.out.c 9; have c10 := HX.out.c 10; have d0 := HQ.out.c 0; have d1 := HQ.out.c 1; have d2 := HQ.out.c 2; have d3 := HQ.out.c 3; have d4 := HQ.out.c 4; have d5 := HQ.out.c 5; have d6 := HQ.out.c 6; have d7 := HQ.out.c 7; have d8 := HQ.out.c 8; have d9 := HQ.out.c 9; have d10 := HQ.out.c 10; have cl := HX.out.lt; have dl := HQ.out.lt; simp at c0 c1 c2 c3 c4 c5 c6 c7 c8 c9 c10 d0 d1 d2 d3 d4 d5 d6 d7 d8 d9 d10
        go_wp2_with (first | (go_at_call 9; (with_reducible refine (num28_any _ _).mono ?_); rintro e z2 ⟨rfl, hz⟩; rw [hz]; clear hz z2) | (go_at_call 10; go_loud ((with_reducible refine (eqp_as true q2 q1 _ HD2.out HD1.out HS2.out HS1.out ⟨⟨fun _ => rfl, fun _ => HE.out⟩⟩).mono ?_); rintro e z ⟨rfl, hb⟩; have HBE := Hk.mk (kw_step HB.out L0 hb); clear hb)))
        exact ⟨⟨j + 1, rfl, by omega, by omega, HBE⟩, by simp only [intOf]; omega⟩
      have f4 : decide (i ≤ n) = true := by rw [decide_eq_true_iff]; exact t4
      by_cases t5 : 1 ≤ d
      case neg =>
        have f5 : decide (1 ≤ d) = false := by rw [decide_eq_false_iff_not]; exact t5
        have hno : ¬ MayP i n d := fun g => t5 g.2.2.2.2.1
        clear t1 t2 t3 t4 t5
        have HM := Hk.mk hno
        clear hno
        obtain ⟨W0, hw0⟩ : ∃ W, W = zeP := ⟨_, rfl⟩
        have HU : Hk (NewP i n d W0 1) := ⟨Or.inr ⟨HM.out, hw0, rfl⟩⟩
        obtain ⟨q1, hq1⟩ : ∃ q, q = zeV := ⟨_, rfl⟩
        have HA1 : Hk (q1.ab = W0) := ⟨by rw [hq1, hw0]; rfl⟩
        have HS1 : Hk (PvS q1) := ⟨by rw [hq1]; exact zeV_s⟩
        have HQ1 := Hk.mk hq1
        clear hw0 hq1 HM
        go_upto_region 6 with fail
        have HB : Hk (Below w.heap.size w (W4.alloc (.cells #[.int .i64 0, .int .i64 0, .int .i64 0, .int .i64 0, .int .i64 0, .slice none 0 0, .slice none 0 0, .slice none 0 0, .slice none 0 0, .slice none 0 0, .bool false] 28))) := ⟨kw_al HB4.out L0 (.cells #[.int .i64 0, .int .i64 0, .int .i64 0, .int .i64 0, .int .i64 0, .slice none 0 0, .slice none 0 0, .slice none 0 0, .slice none 0 0, .slice none 0 0, .bool false] 28)⟩
        have HX : Hk (Bk (W4.alloc (.cells #[.int .i64 0, .int .i64 0, .int .i64 0, .int .i64 0, .int .i64 0, .slice none 0 0, .slice none 0 0, .slice none 0 0, .slice none 0 0, .slice none 0 0, .bool false] 28)) W4.heap.size #[.int .i64 q1.i, .int .i64 q1.n, .int .i64 q1.d, .int .i64 q1.t, .int .i64 q1.s, .slice q1.ma q1.mn q1.mc, .slice q1.la q1.ln q1.lc, .slice q1.ha q1.hn q1.hc, .slice q1.aa q1.an q1.ac, .slice q1.xa q1.xn q1.xc, .bool q1.b]) := ⟨by rw [HQ1.out]; exact Bk.new W4 #[.int .i64 0, .int .i64 0, .int .i64 0, .int .i64 0, .int .i64 0, .slice none 0 0, .slice none 0 0, .slice none 0 0, .slice none 0 0, .slice none 0 0, .bool false] 28⟩
        have HD1 : Hk (PvD (W4.alloc (.cells #[.int .i64 0, .int .i64 0, .int .i64 0, .int .i64 0, .int .i64 0, .slice none 0 0, .slice none 0 0, .slice none 0 0, .slice none 0 0, .slice none 0 0, .bool false] 28)) (W4.alloc (.cells #[.int .i64 0, .int .i64 0, .int .i64 0, .int .i64 0, .int .i64 0, .slice none 0 0, .slice none 0 0, .slice none 0 0, .slice none 0 0, .slice none 0 0, .bool false] 28)).heap.size q1) := ⟨by rw [HQ1.out]; exact zeV_d _⟩
        clear HB4
        generalize hpw : W4.heap.size = PW at *
        clear hpw
        generalize (W4.alloc (.cells #[.int .i64 0, .int .i64 0, .int .i64 0, .int .i64 0, .int .i64 0, .slice none 0 0, .slice none 0 0, .slice none 0 0, .slice none 0 0, .slice none 0 0, .bool false] 28)) = V at *
        go_upto_region 8 with fail
        go_upto_region 9 with (go_at_call 8; go_loud ((with_reducible refine (pnew_u i _ d W0 1 _ HU.out).mono ?_); rintro e z ⟨q2, rfl, hd2, ha2, hs2, hb⟩; have HD2 := Hk.mk hd2; have HA2 := Hk.mk ha2; have HS2 := Hk.mk hs2; have HB2 := Hk.mk (kw_step HB.out L0 hb); have HX2 := Hk.mk (HX.out.below hb); have HD12 := Hk.mk (HD1.out.later hb); clear hd2 ha2 hs2 hb HB HX HD1))
        have HB : Hk (Below w.heap.size w (z.alloc (.cells #[.int .i64 q2.i, .int .i64 q2.n, .int .i64 q2.d, .int .i64 q2.t, .int .i64 q2.s, .slice q2.ma q2.mn q2.mc, .slice q2.la q2.ln q2.lc, .slice q2.ha q2.hn q2.hc, .slice q2.aa q2.an q2.ac, .slice q2.xa q2.xn q2.xc, .bool q2.b] 28))) := ⟨kw_al HB2.out L0 (.cells #[.int .i64 q2.i, .int .i64 q2.n, .int .i64 q2.d, .int .i64 q2.t, .int .i64 q2.s, .slice q2.ma q2.mn q2.mc, .slice q2.la q2.ln q2.lc, .slice q2.ha q2.hn q2.hc, .slice q2.aa q2.an q2.ac, .slice q2.xa q2.xn q2.xc, .bool q2.b] 28)⟩
        have HX : Hk (Bk (z.alloc (.cells #[.int .i64 q2.i, .int .i64 q2.n, .int .i64 q2.d, .int .i64 q2.t, .int .i64 q2.s, .slice q2.ma q2.mn q2.mc, .slice q2.la q2.ln q2.lc, .slice q2.ha q2.hn q2.hc, .slice q2.aa q2.an q2.ac, .slice q2.xa q2.xn q2.xc, .bool q2.b] 28)) PW #[.int .i64 q1.i, .int .i64 q1.n, .int .i64 q1.d, .int .i64 q1.t, .int .i64 q1.s, .slice q1.ma q1.mn q1.mc, .slice q1.la q1.ln q1.lc, .slice q1.ha q1.hn q1.hc, .slice q1.aa q1.an q1.ac, .slice q1.xa q1.xn q1.xc, .bool q1.b]) := ⟨HX2.out.al _⟩
        have HQ : Hk (Bk (z.alloc (.cells #[.int .i64 q2.i, .int .i64 q2.n, .int .i64 q2.d, .int .i64 q2.t, .int .i64 q2.s, .slice q2.ma q2.mn q2.mc, .slice q2.la q2.ln q2.lc, .slice q2.ha q2.hn q2.hc, .slice q2.aa q2.an q2.ac, .slice q2.xa q2.xn q2.xc, .bool q2.b] 28)) z.heap.size #[.int .i64 q2.i, .int .i64 q2.n, .int .i64 q2.d, .int .i64 q2.t, .int .i64 q2.s, .slice q2.ma q2.mn q2.mc, .slice q2.la q2.ln q2.lc, .slice q2.ha q2.hn q2.hc, .slice q2.aa q2.an q2.ac, .slice q2.xa q2.xn q2.xc, .bool q2.b]) := ⟨Bk.new z #[.int .i64 q2.i, .int .i64 q2.n, .int .i64 q2.d, .int .i64 q2.t, .int .i64 q2.s, .slice q2.ma q2.mn q2.mc, .slice q2.la q2.ln q2.lc, .slice q2.ha q2.hn q2.hc, .slice q2.aa q2.an q2.ac, .slice q2.xa q2.xn q2.xc, .bool q2.b] 28⟩
        have HD1 : Hk (PvD (z.alloc (.cells #[.int .i64 q2.i, .int .i64 q2.n, .int .i64 q2.d, .int .i64 q2.t, .int .i64 q2.s, .slice q2.ma q2.mn q2.mc, .slice q2.la q2.ln q2.lc, .slice q2.ha q2.hn q2.hc, .slice q2.aa q2.an q2.ac, .slice q2.xa q2.xn q2.xc, .bool q2.b] 28)) (z.alloc (.cells #[.int .i64 q2.i, .int .i64 q2.n, .int .i64 q2.d, .int .i64 q2.t, .int .i64 q2.s, .slice q2.ma q2.mn q2.mc, .slice q2.la q2.ln q2.lc, .slice q2.ha q2.hn q2.hc, .slice q2.aa q2.an q2.ac, .slice q2.xa q2.xn q2.xc, .bool q2.b] 28)).heap.size q1) := ⟨HD12.out.later ((Below.refl _ _).alloc (Nat.le_refl _) _)⟩
        replace HD2 : Hk (PvD (z.alloc (.cells #[.int .i64 q2.i, .int .i64 q2.n, .int .i64 q2.d, .int .i64 q2.t, .int .i64 q2.s, .slice q2.ma q2.mn q2.mc, .slice q2.la q2.ln q2.lc, .slice q2.ha q2.hn q2.hc, .slice q2.aa q2.an q2.ac, .slice q2.xa q2.xn q2.xc, .bool q2.b] 28)) (z.alloc (.cells #[.int .i64 q2.i, .int .i64 q2.n, .int .i64 q2.d, .int .i64 q2.t, .int .i64 q2.s, .slice q2.ma q2.mn q2.mc, .slice q2.la q2.ln q2.lc, .slice q2.ha q2.hn q2.hc, .slice q2.aa q2.an q2.ac, .slice q2.xa q2.xn q2.xc, .bool q2.b] 28)).heap.size q2) := ⟨HD2.out.later ((Below.refl _ _).alloc (Nat.le_refl _) _)⟩
        have HE : Hk (q2.ab = q1.ab) := ⟨by rw [HA1.out, HA2.out]⟩
        clear HB2 HX2 HD12 HA1 HA2 HU
        generalize hpq : z.heap.size = PQ at *
        clear hpq
        generalize (z.alloc (.cells #[.int .i64 q2.i, .int .i64 q2.n, .int .i64 q2.d, .int .i64 q2.t, .int .i64 q2.s, .slice q2.ma q2.mn q2.mc, .slice q2.la q2.ln q2.lc, .slice q2.ha q2.hn q2.hc, .slice q2.aa q2.an q2.ac, .slice q2.xa q2.xn q2.xc, .bool q2.b] 28)) = V2 at *
        have c0 := HX.out.c 0; have c1 := HX.out.c 1; have c2 := HX.out.c 2; have c3 := HX.out.c 3; have c4 := HX.out.c 4; have c5 := HX.out.c 5; have c6 := HX.out.c 6; have c7 := HX.out.c 7; have c8 := HX.out.c 8; have c9 := HX.out.c 9; have c10 := HX.out.c 10; have d0 := HQ.out.c 0; have d1 := HQ.out.c 1; have d2 := HQ.out.c 2; have d3 := HQ.out.c 3; have d4 := HQ.out.c 4; have d5 := HQ.out.c 5; have d6 := HQ.out.c 6; have d7 := HQ.out.c 7; have d8 := HQ.out.c 8; have d9 := HQ.out.c 9; have d10 := HQ.out.c 10; have cl := HX.out.lt; have dl := HQ.out.lt; simp at c0 c1 c2 c3 c4 c5 c6 c7 c8 c9 c10 d0 d1 d2 d3 d4 d5 d6 d7 d8 d9 d10
        go_wp2_with (first | (go_at_call 9; (with_reducible refine (num28_any _ _).mono ?_); rintro e z2 ⟨rfl, hz⟩; rw [hz]; clear hz z2) | (go_at_call 10; go_loud ((with_reducible refine (eqp_as true q2 q1 _ HD2.out HD1.out HS2.out HS1.out ⟨⟨fun _ => rfl, fun _ => HE.out⟩⟩).mono ?_); rintro e z ⟨rfl, hb⟩; have HBE := Hk.mk (kw_step HB.out L0 hb); clear hb)))
        exact ⟨⟨j + 1, rfl, by omega, by omega, HBE⟩, by simp only [intOf]; omega⟩
      have f5 : decide (1 ≤ d) = true := by rw [decide_eq_true_iff]; exact t5
      by_cases t6 : d ≤ 8
      case neg =>
        have f6 : decide (d ≤ 8) = false := by rw [decide_eq_false_iff_not]; exact t6
        have hno : ¬ MayP i n d := fun g => t6 g.2.2.2.2.2
        clear t1 t2 t3 t4 t5 t6
        have HM := Hk.mk hno
        clear hno
        obtain ⟨W0, hw0⟩ : ∃ W, W = zeP := ⟨_, rfl⟩
        have HU : Hk (NewP i n d W0 1) := ⟨Or.inr ⟨HM.out, hw0, rfl⟩⟩
        obtain ⟨q1, hq1⟩ : ∃ q, q = zeV := ⟨_, rfl⟩
        have HA1 : Hk (q1.ab = W0) := ⟨by rw [hq1, hw0]; rfl⟩
        have HS1 : Hk (PvS q1) := ⟨by rw [hq1]; exact zeV_s⟩
        have HQ1 := Hk.mk hq1
        clear hw0 hq1 HM
        go_upto_region 6 with fail
        have HB : Hk (Below w.heap.size w (W4.alloc (.cells #[.int .i64 0, .int .i64 0, .int .i64 0, .int .i64 0, .int .i64 0, .slice none 0 0, .slice none 0 0, .slice none 0 0, .slice none 0 0, .slice none 0 0, .bool false] 28))) := ⟨kw_al HB4.out L0 (.cells #[.int .i64 0, .int .i64 0, .int .i64 0, .int .i64 0, .int .i64 0, .slice none 0 0, .slice none 0 0, .slice none 0 0, .slice none 0 0, .slice none 0 0, .bool false] 28)⟩
        have HX : Hk (Bk (W4.alloc (.cells #[.int .i64 0, .int .i64 0, .int .i64 0, .int .i64 0, .int .i64 0, .slice none 0 0, .slice none 0 0, .slice none 0 0, .slice none 0 0, .slice none 0 0, .bool false] 28)) W4.heap.size #[.int .i64 q1.i, .int .i64 q1.n, .int .i64 q1.d, .int .i64 q1.t, .int .i64 q1.s, .slice q1.ma q1.mn q1.mc, .slice q1.la q1.ln q1.lc, .slice q1.ha q1.hn q1.hc, .slice q1.aa q1.an q1.ac, .slice q1.xa q1.xn q1.xc, .bool q1.b]) := ⟨by rw [HQ1.out]; exact Bk.new W4 #[.int .i64 0, .int .i64 0, .int .i64 0, .int .i64 0, .int .i64 0, .slice none 0 0, .slice none 0 0, .slice none 0 0, .slice none 0 0, .slice none 0 0, .bool false] 28⟩
        have HD1 : Hk (PvD (W4.alloc (.cells #[.int .i64 0, .int .i64 0, .int .i64 0, .int .i64 0, .int .i64 0, .slice none 0 0, .slice none 0 0, .slice none 0 0, .slice none 0 0, .slice none 0 0, .bool false] 28)) (W4.alloc (.cells #[.int .i64 0, .int .i64 0, .int .i64 0, .int .i64 0, .int .i64 0, .slice none 0 0, .slice none 0 0, .slice none 0 0, .slice none 0 0, .slice none 0 0, .bool false] 28)).heap.size q1) := ⟨by rw [HQ1.out]; exact zeV_d _⟩
        clear HB4
        generalize hpw : W4.heap.size = PW at *
        clear hpw
        generalize (W4.alloc (.cells #[.int .i64 0, .int .i64 0, .int .i64 0, .int .i64 0, .int .i64 0, .slice none 0 0, .slice none 0 0, .slice none 0 0, .slice none 0 0, .slice none 0 0, .bool false] 28)) = V at *
        go_upto_region 8 with fail
        go_upto_region 9 with (go_at_call 8; go_loud ((with_reducible refine (pnew_u i _ d W0 1 _ HU.out).mono ?_); rintro e z ⟨q2, rfl, hd2, ha2, hs2, hb⟩; have HD2 := Hk.mk hd2; have HA2 := Hk.mk ha2; have HS2 := Hk.mk hs2; have HB2 := Hk.mk (kw_step HB.out L0 hb); have HX2 := Hk.mk (HX.out.below hb); have HD12 := Hk.mk (HD1.out.later hb); clear hd2 ha2 hs2 hb HB HX HD1))
        have HB : Hk (Below w.heap.size w (z.alloc (.cells #[.int .i64 q2.i, .int .i64 q2.n, .int .i64 q2.d, .int .i64 q2.t, .int .i64 q2.s, .slice q2.ma q2.mn q2.mc, .slice q2.la q2.ln q2.lc, .slice q2.ha q2.hn q2.hc, .slice q2.aa q2.an q2.ac, .slice q2.xa q2.xn q2.xc, .bool q2.b] 28))) := ⟨kw_al HB2.out L0 (.cells #[.int .i64 q2.i, .int .i64 q2.n, .int .i64 q2.d, .int .i64 q2.t, .int .i64 q2.s, .slice q2.ma q2.mn q2.mc, .slice q2.la q2.ln q2.lc, .slice q2.ha q2.hn q2.hc, .slice q2.aa q2.an q2.ac, .slice q2.xa q2.xn q2.xc, .bool q2.b] 28)⟩
        have HX : Hk (Bk (z.alloc (.cells #[.int .i64 q2.i, .int .i64 q2.n, .int .i64 q2.d, .int .i64 q2.t, .int .i64 q2.s, .slice q2.ma q2.mn q2.mc, .slice q2.la q2.ln q2.lc, .slice q2.ha q2.hn q2.hc, .slice q2.aa q2.an q2.ac, .slice q2.xa q2.xn q2.xc, .bool q2.b] 28)) PW #[.int .i64 q1.i, .int .i64 q1.n, .int .i64 q1.d, .int .i64 q1.t, .int .i64 q1.s, .slice q1.ma q1.mn q1.mc, .slice q1.la q1.ln q1.lc, .slice q1.ha q1.hn q1.hc, .slice q1.aa q1.an q1.ac, .slice q1.xa q1.xn q1.xc, .bool q1.b]) := ⟨HX2.out.al _⟩
        have HQ : Hk (Bk (z.alloc (.cells #[.int .i64 q2.i, .int .i64 q2.n, .int .i64 q2.d, .int .i64 q2.t, .int .i64 q2.s, .slice q2.ma q2.mn q2.mc, .slice q2.la q2.ln q2.lc, .slice q2.ha q2.hn q2.hc, .slice q2.aa q2.an q2.ac, .slice q2.xa q2.xn q2.xc, .bool q2.b] 28)) z.heap.size #[.int .i64 q2.i, .int .i64 q2.n, .int .i64 q2.d, .int .i64 q2.t, .int .i64 q2.s, .slice q2.ma q2.mn q2.mc, .slice q2.la q2.ln q2.lc, .slice q2.ha q2.hn q2.hc, .slice q2.aa q2.an q2.ac, .slice q2.xa q2.xn q2.xc, .bool q2.b]) := ⟨Bk.new z #[.int .i64 q2.i, .int .i64 q2.n, .int .i64 q2.d, .int .i64 q2.t, .int .i64 q2.s, .slice q2.ma q2.mn q2.mc, .slice q2.la q2.ln q2.lc, .slice q2.ha q2.hn q2.hc, .slice q2.aa q2.an q2.ac, .slice q2.xa q2.xn q2.xc, .bool q2.b] 28⟩
        have HD1 : Hk (PvD (z.alloc (.cells #[.int .i64 q2.i, .int .i64 q2.n, .int .i64 q2.d, .int .i64 q2.t, .int .i64 q2.s, .slice q2.ma q2.mn q2.mc, .slice q2.la q2.ln q2.lc, .slice q2.ha q2.hn q2.hc, .slice q2.aa q2.an q2.ac, .slice q2.xa q2.xn q2.xc, .bool q2.b] 28)) (z.alloc (.cells #[.int .i64 q2.i, .int .i64 q2.n, .int .i64 q2.d, .int .i64 q2.t, .int .i64 q2.s, .slice q2.ma q2.mn q2.mc, .slice q2.la q2.ln q2.lc, .slice q2.ha q2.hn q2.hc, .slice q2.aa q2.an q2.ac, .slice q2.xa q2.xn q2.xc, .bool q2.b] 28)).heap.size q1) := ⟨HD12.out.later ((Below.refl _ _).alloc (Nat.le_refl _) _)⟩
        replace HD2 : Hk (PvD (z.alloc (.cells #[.int .i64 q2.i, .int .i64 q2.n, .int .i64 q2.d, .int .i64 q2.t, .int .i64 q2.s, .slice q2.ma q2.mn q2.mc, .slice q2.la q2.ln q2.lc, .slice q2.ha q2.hn q2.hc, .slice q2.aa q2.an q2.ac, .slice q2.xa q2.xn q2.xc, .bool q2.b] 28)) (z.alloc (.cells #[.int .i64 q2.i, .int .i64 q2.n, .int .i64 q2.d, .int .i64 q2.t, .int .i64 q2.s, .slice q2.ma q2.mn q2.mc, .slice q2.la q2.ln q2.lc, .slice q2.ha q2.hn q2.hc, .slice q2.aa q2.an q2.ac, .slice q2.xa q2.xn q2.xc, .bool q2.b] 28)).heap.size q2) := ⟨HD2.out.later ((Below.refl _ _).alloc (Nat.le_refl _) _)⟩
        have HE : Hk (q2.ab = q1.ab) := ⟨by rw [HA1.out, HA2.out]⟩
        clear HB2 HX2 HD12 HA1 HA2 HU
        generalize hpq : z.heap.size = PQ at *
        clear hpq
        generalize (z.alloc (.cells #[.int .i64 q2.i, .int .i64 q2.n, .int .i64 q2.d, .int .i64 q2.t, .int .i64 q2.s, .slice q2.ma q2.mn q2.mc, .slice q2.la q2.ln q2.lc, .slice q2.ha q2.hn q2.hc, .slice q2.aa q2.an q2.ac, .slice q2.xa q2.xn q2.xc, .bool q2.b] 28)) = V2 at *
        have c0 := HX.out.c 0; have c1 := HX.out.c 1; have c2 := HX.out.c 2; have c3 := HX.out.c 3; have c4 := HX.out.c 4; have c5 := HX.out.c 5; have c6 := HX.out.c 6; have c7 := HX.out.c 7; have c8 := HX.out.c 8; have c9 := HX.out.c 9; have c10 := HX.out.c 10; have d0 := HQ.out.c 0; have d1 := HQ.out.c 1; have d2 := HQ.out.c 2; have d3 := HQ.out.c 3; have d4 := HQ.out.c 4; have d5 := HQ.out.c 5; have d6 := HQ.out.c 6; have d7 := HQ.out.c 7; have d8 := HQ.out.c 8; have d9 := HQ.out.c 9; have d10 := HQ.out.c 10; have cl := HX.out.lt; have dl := HQ.out.lt; simp at c0 c1 c2 c3 c4 c5 c6 c7 c8 c9 c10 d0 d1 d2 d3 d4 d5 d6 d7 d8 d9 d10
        go_wp2_with (first | (go_at_call 9; (with_reducible refine (num28_any _ _).mono ?_); rintro e z2 ⟨rfl, hz⟩; rw [hz]; clear hz z2) | (go_at_call 10; go_loud ((with_reducible refine (eqp_as true q2 q1 _ HD2.out HD1.out HS2.out HS1.out ⟨⟨fun _ => rfl, fun _ => HE.out⟩⟩).mono ?_); rintro e z ⟨rfl, hb⟩; have HBE := Hk.mk (kw_step HB.out L0 hb); clear hb)))
        exact ⟨⟨j + 1, rfl, by omega, by omega, HBE⟩, by simp only [intOf]; omega⟩
      have f6 : decide (d ≤ 8) = true := by rw [decide_eq_true_iff]; exact t6
      obtain ⟨k, rfl⟩ : ∃ k : Nat, n = k := ⟨n.toNat, by omega⟩
      obtain ⟨W0, hw0⟩ : ∃ W, W = begP i k d := ⟨_, rfl⟩
      have HW0 := Hk.mk hw0
      have HU : Hk (NewP i k d W0 0) := ⟨Or.inl ⟨⟨t1, t2, t3, t4, t5, t6⟩, hw0, rfl⟩⟩
      have HN : Hk (1 ≤ d ∧ d ≤ 8 ∧ k ≤ 8) := ⟨by omega⟩
      clear hw0 t1 t2 t3 t4 t5 t6
      go_upto_region 6 with fail
      have HB : Hk (Below w.heap.size w (W4.alloc (.cells #[.int .i64 0, .int .i64 0, .int .i64 0, .int .i64 0, .int .i64 0, .slice none 0 0, .slice none 0 0, .slice none 0 0, .slice none 0 0, .slice none 0 0, .bool false] 28))) := ⟨kw_al HB4.out L0 (.cells #[.int .i64 0, .int .i64 0, .int .i64 0, .int .i64 0, .int .i64 0, .slice none 0 0, .slice none 0 0, .slice none 0 0, .slice none 0 0, .slice none 0 0, .bool false] 28)⟩
      have HX : Hk (Bk (W4.alloc (.cells #[.int .i64 0, .int .i64 0, .int .i64 0, .int .i64 0, .int .i64 0, .slice none 0 0, .slice none 0 0, .slice none 0 0, .slice none 0 0, .slice none 0 0, .bool false] 28)) W4.heap.size #[.int .i64 0, .int .i64 0, .int .i64 0, .int .i64 0, .int .i64 0, .slice none 0 0, .slice none 0 0, .slice none 0 0, .slice none 0 0, .slice none 0 0, .bool false]) := ⟨Bk.new W4 #[.int .i64 0, .int .i64 0, .int .i64 0, .int .i64 0, .int .i64 0, .slice none 0 0, .slice none 0 0, .slice none 0 0, .slice none 0 0, .slice none 0 0, .bool false] 28⟩
      have hpw : w.heap.size ≤ W4.heap.size := HB4.out.size
      clear HB4
      generalize hpw0 : W4.heap.size = PW at *
      clear hpw0
      generalize (W4.alloc (.cells #[.int .i64 0, .int .i64 0, .int .i64 0, .int .i64 0, .int .i64 0, .slice none 0 0, .slice none 0 0, .slice none 0 0, .slice none 0 0, .slice none 0 0, .bool false] 28)) = V at *
      have hpl : PW < V.heap.size := HX.out.lt
      have HPW : Hk (w.heap.size ≤ PW ∧ PW < V.heap.size) := ⟨hpw, hpl⟩
      clear hpw hpl
      go_upto_region 8 with (go_at_call 7; (with_reducible refine (rnew_any i d k V HN.out.1 HN.out.2.1 HN.out.2.2).mono ?_); rintro e Z ⟨q1, rfl, ho1, ha1, hs1, hb⟩; have HO1 := Hk.mk ho1; have HA1 := Hk.mk (ha1.trans HW0.out.symm); have HS1 := Hk.mk hs1; have HB3 := Hk.mk (kw_step HB.out L0 hb); have HX3 := Hk.mk (HX.out.below hb); clear ho1 ha1 hs1 hb HB HX; have z0 := HX3.out.c 0; have y0 := HX3.out.f 0; have z1 := HX3.out.c 1; have y1 := HX3.out.f 1; have z2 := HX3.out.c 2; have y2 := HX3.out.f 2; have z3 := HX3.out.c 3; have y3 := HX3.out.f 3; have z4 := HX3.out.c 4; have y4 := HX3.out.f 4; have z5 := HX3.out.c 5; have y5 := HX3.out.f 5; have z6 := HX3.out.c 6; have y6 := HX3.out.f 6; have z7 := HX3.out.c 7; have y7 := HX3.out.f 7; have z8 := HX3.out.c 8; have y8 := HX3.out.f 8; have z9 := HX3.out.c 9; have y9 := HX3.out.f 9; have z10 := HX3.out.c 10; have y10 := HX3.out.f 10; have hzl := HX3.out.lt; simp at z0 z1 z2 z3 z4 z5 z6 z7 z8 z9 z10)
      obtain ⟨hpw, hpl⟩ := HPW.out
      have HX : Hk (Bk (((((((((((Z.setCell ⟨PW, 0, none⟩ (.int .i64 q1.i)).setCell ⟨PW, 1, none⟩ (.int .i64 q1.n)).setCell ⟨PW, 2, none⟩ (.int .i64 q1.d)).setCell ⟨PW, 3, none⟩ (.int .i64 q1.t)).setCell ⟨PW, 4, none⟩ (.int .i64 q1.s)).setCell ⟨PW, 5, none⟩ (.slice q1.ma q1.mn q1.mc)).setCell ⟨PW, 6, none⟩ (.slice q1.la q1.ln q1.lc)).setCell ⟨PW, 7, none⟩ (.slice q1.ha q1.hn q1.hc)).setCell ⟨PW, 8, none⟩ (.slice q1.aa q1.an q1.ac)).setCell ⟨PW, 9, none⟩ (.slice q1.xa q1.xn q1.xc)).setCell ⟨PW, 10, none⟩ (.bool q1.b)) PW #[.int .i64 q1.i, .int .i64 q1.n, .int .i64 q1.d, .int .i64 q1.t, .int .i64 q1.s, .slice q1.ma q1.mn q1.mc, .slice q1.la q1.ln q1.lc, .slice q1.ha q1.hn q1.hc, .slice q1.aa q1.an q1.ac, .slice q1.xa q1.xn q1.xc, .bool q1.b]) := ⟨by have := (((((((((((HX3.out.set 0 (.int .i64 q1.i)).set 1 (.int .i64 q1.n)).set 2 (.int .i64 q1.d)).set 3 (.int .i64 q1.t)).set 4 (.int .i64 q1.s)).set 5 (.slice q1.ma q1.mn q1.mc)).set 6 (.slice q1.la q1.ln q1.lc)).set 7 (.slice q1.ha q1.hn q1.hc)).set 8 (.slice q1.aa q1.an q1.ac)).set 9 (.slice q1.xa q1.xn q1.xc)).set 10 (.bool q1.b)); simpa using this⟩
      have HB : Hk (Below w.heap.size w (((((((((((Z.setCell ⟨PW, 0, none⟩ (.int .i64 q1.i)).setCell ⟨PW, 1, none⟩ (.int .i64 q1.n)).setCell ⟨PW, 2, none⟩ (.int .i64 q1.d)).setCell ⟨PW, 3, none⟩ (.int .i64 q1.t)).setCell ⟨PW, 4, none⟩ (.int .i64 q1.s)).setCell ⟨PW, 5, none⟩ (.slice q1.ma q1.mn q1.mc)).setCell ⟨PW, 6, none⟩ (.slice q1.la q1.ln q1.lc)).setCell ⟨PW, 7, none⟩ (.slice q1.ha q1.hn q1.hc)).setCell ⟨PW, 8, none⟩ (.slice q1.aa q1.an q1.ac)).setCell ⟨PW, 9, none⟩ (.slice q1.xa q1.xn q1.xc)).setCell ⟨PW, 10, none⟩ (.bool q1.b))) := ⟨by refine Below.setCell ?_ (p := ⟨PW, 10, none⟩) (by show w.heap.size ≤ PW; exact hpw) _; refine Below.setCell ?_ (p := ⟨PW, 9, none⟩) (by show w.heap.size ≤ PW; exact hpw) _; refine Below.setCell ?_ (p := ⟨PW, 8, none⟩) (by show w.heap.size ≤ PW; exact hpw) _; refine Below.setCell ?_ (p := ⟨PW, 7, none⟩) (by show w.heap.size ≤ PW; exact hpw) _; refine Below.setCell ?_ (p := ⟨PW, 6, none⟩) (by show w.heap.size ≤ PW; exact hpw) _; refine Below.setCell ?_ (p := ⟨PW, 5, none⟩) (by show w.heap.size ≤ PW; exact hpw) _; refine Below.setCell ?_ (p := ⟨PW, 4, none⟩) (by show w.heap.size ≤ PW; exact hpw) _; refine Below.setCell ?_ (p := ⟨PW, 3, none⟩) (by show w.heap.size ≤ PW; exact hpw) _; refine Below.setCell ?_ (p := ⟨PW, 2, none⟩) (by show w.heap.size ≤ PW; exact hpw) _; refine Below.setCell ?_ (p := ⟨PW, 1, none⟩) (by show w.heap.size ≤ PW; exact hpw) _; refine Below.setCell ?_ (p := ⟨PW, 0, none⟩) (by show w.heap.size ≤ PW; exact hpw) _; exact HB3.out⟩
      have HF : Hk (Fr (fun q => q < V.heap.size) Z (((((((((((Z.setCell ⟨PW, 0, none⟩ (.int .i64 q1.i)).setCell ⟨PW, 1, none⟩ (.int .i64 q1.n)).setCell ⟨PW, 2, none⟩ (.int .i64 q1.d)).setCell ⟨PW, 3, none⟩ (.int .i64 q1.t)).setCell ⟨PW, 4, none⟩ (.int .i64 q1.s)).setCell ⟨PW, 5, none⟩ (.slice q1.ma q1.mn q1.mc)).setCell ⟨PW, 6, none⟩ (.slice q1.la q1.ln q1.lc)).setCell ⟨PW, 7, none⟩ (.slice q1.ha q1.hn q1.hc)).setCell ⟨PW, 8, none⟩ (.slice q1.aa q1.an q1.ac)).setCell ⟨PW, 9, none⟩ (.slice q1.xa q1.xn q1.xc)).setCell ⟨PW, 10, none⟩ (.bool q1.b))) := ⟨by refine Fr.setCell (p := ⟨PW, 10, none⟩) ?_ (fun _ => hpl) _; refine Fr.setCell (p := ⟨PW, 9, none⟩) ?_ (fun _ => hpl) _; refine Fr.setCell (p := ⟨PW, 8, none⟩) ?_ (fun _ => hpl) _; refine Fr.setCell (p := ⟨PW, 7, none⟩) ?_ (fun _ => hpl) _; refine Fr.setCell (p := ⟨PW, 6, none⟩) ?_ (fun _ => hpl) _; refine Fr.setCell (p := ⟨PW, 5, none⟩) ?_ (fun _ => hpl) _; refine Fr.setCell (p := ⟨PW, 4, none⟩) ?_ (fun _ => hpl) _; refine Fr.setCell (p := ⟨PW, 3, none⟩) ?_ (fun _ => hpl) _; refine Fr.setCell (p := ⟨PW, 2, none⟩) ?_ (fun _ => hpl) _; refine Fr.setCell (p := ⟨PW, 1, none⟩) ?_ (fun _ => hpl) _; refine Fr.setCell (p := ⟨PW, 0, none⟩) ?_ (fun _ => hpl) _; exact Fr.refl _ _⟩
      have HD1 : Hk (PvD (((((((((((Z.setCell ⟨PW, 0, none⟩ (.int .i64 q1.i)).setCell ⟨PW, 1, none⟩ (.int .i64 q1.n)).setCell ⟨PW, 2, none⟩ (.int .i64 q1.d)).setCell ⟨PW, 3, none⟩ (.int .i64 q1.t)).setCell ⟨PW, 4, none⟩ (.int .i64 q1.s)).setCell ⟨PW, 5, none⟩ (.slice q1.ma q1.mn q1.mc)).setCell ⟨PW, 6, none⟩ (.slice q1.la q1.ln q1.lc)).setCell ⟨PW, 7, none⟩ (.slice q1.ha q1.hn q1.hc)).setCell ⟨PW, 8, none⟩ (.slice q1.aa q1.an q1.ac)).setCell ⟨PW, 9, none⟩ (.slice q1.xa q1.xn q1.xc)).setCell ⟨PW, 10, none⟩ (.bool q1.b)) ((((((((((((Z.setCell ⟨PW, 0, none⟩ (.int .i64 q1.i)).setCell ⟨PW, 1, none⟩ (.int .i64 q1.n)).setCell ⟨PW, 2, none⟩ (.int .i64 q1.d)).setCell ⟨PW, 3, none⟩ (.int .i64 q1.t)).setCell ⟨PW, 4, none⟩ (.int .i64 q1.s)).setCell ⟨PW, 5, none⟩ (.slice q1.ma q1.mn q1.mc)).setCell ⟨PW, 6, none⟩ (.slice q1.la q1.ln q1.lc)).setCell ⟨PW, 7, none⟩ (.slice q1.ha q1.hn q1.hc)).setCell ⟨PW, 8, none⟩ (.slice q1.aa q1.an q1.ac)).setCell ⟨PW, 9, none⟩ (.slice q1.xa q1.xn q1.xc)).setCell ⟨PW, 10, none⟩ (.bool q1.b))).heap.size q1) := ⟨(HO1.out.up HF.out (fun q hq => by omega)).d⟩
      clear HF HO1 HX3 HB3 HPW hpw hpl z0 y0 z1 y1 z2 y2 z3 y3 z4 y4 z5 y5 z6 y6 z7 y7 z8 y8 z9 y9 z10 y10 hzl
      generalize (((((((((((Z.setCell ⟨PW, 0, none⟩ (.int .i64 q1.i)).setCell ⟨PW, 1, none⟩ (.int .i64 q1.n)).setCell ⟨PW, 2, none⟩ (.int .i64 q1.d)).setCell ⟨PW, 3, none⟩ (.int .i64 q1.t)).setCell ⟨PW, 4, none⟩ (.int .i64 q1.s)).setCell ⟨PW, 5, none⟩ (.slice q1.ma q1.mn q1.mc)).setCell ⟨PW, 6, none⟩ (.slice q1.la q1.ln q1.lc)).setCell ⟨PW, 7, none⟩ (.slice q1.ha q1.hn q1.hc)).setCell ⟨PW, 8, none⟩ (.slice q1.aa q1.an q1.ac)).setCell ⟨PW, 9, none⟩ (.slice q1.xa q1.xn q1.xc)).setCell ⟨PW, 10, none⟩ (.bool q1.b)) = V9 at *
      go_upto_region 9 with (go_at_call 8; go_loud ((with_reducible refine (pnew_u i _ d W0 0 _ HU.out).mono ?_); rintro e z ⟨q2, rfl, hd2, ha2, hs2, hb⟩; have HD2 := Hk.mk hd2; have HA2 := Hk.mk ha2; have HS2 := Hk.mk hs2; have HB2 := Hk.mk (kw_step HB.out L0 hb); have HX2 := Hk.mk (HX.out.below hb); have HD12 := Hk.mk (HD1.out.later hb); clear hd2 ha2 hs2 hb HB HX HD1))
      have HB : Hk (Below w.heap.size w (z.alloc (.cells #[.int .i64 q2.i, .int .i64 q2.n, .int .i64 q2.d, .int .i64 q2.t, .int .i64 q2.s, .slice q2.ma q2.mn q2.mc, .slice q2.la q2.ln q2.lc, .slice q2.ha q2.hn q2.hc, .slice q2.aa q2.an q2.ac, .slice q2.xa q2.xn q2.xc, .bool q2.b] 28))) := ⟨kw_al HB2.out L0 (.cells #[.int .i64 q2.i, .int .i64 q2.n, .int .i64 q2.d, .int .i64 q2.t, .int .i64 q2.s, .slice q2.ma q2.mn q2.mc, .slice q2.la q2.ln q2.lc, .slice q2.ha q2.hn q2.hc, .slice q2.aa q2.an q2.ac, .slice q2.xa q2.xn q2.xc, .bool q2.b] 28)⟩
      have HX : Hk (Bk (z.alloc (.cells #[.int .i64 q2.i, .int .i64 q2.n, .int .i64 q2.d, .int .i64 q2.t, .int .i64 q2.s, .slice q2.ma q2.mn q2.mc, .slice q2.la q2.ln q2.lc, .slice q2.ha q2.hn q2.hc, .slice q2.aa q2.an q2.ac, .slice q2.xa q2.xn q2.xc, .bool q2.b] 28)) PW #[.int .i64 q1.i, .int .i64 q1.n, .int .i64 q1.d, .int .i64 q1.t, .int .i64 q1.s, .slice q1.ma q1.mn q1.mc, .slice q1.la q1.ln q1.lc, .slice q1.ha q1.hn q1.hc, .slice q1.aa q1.an q1.ac, .slice q1.xa q1.xn q1.xc, .bool q1.b]) := ⟨HX2.out.al _⟩
      have HQ : Hk (Bk (z.alloc (.cells #[.int .i64 q2.i, .int .i64 q2.n, .int .i64 q2.d, .int .i64 q2.t, .int .i64 q2.s, .slice q2.ma q2.mn q2.mc, .slice q2.la q2.ln q2.lc, .slice q2.ha q2.hn q2.hc, .slice q2.aa q2.an q2.ac, .slice q2.xa q2.xn q2.xc, .bool q2.b] 28)) z.heap.size #[.int .i64 q2.i, .int .i64 q2.n, .int .i64 q2.d, .int .i64 q2.t, .int .i64 q2.s, .slice q2.ma q2.mn q2.mc, .slice q2.la q2.ln q2.lc, .slice q2.ha q2.hn q2.hc, .slice q2.aa q2.an q2.ac, .slice q2.xa q2.xn q2.xc, .bool q2.b]) := ⟨Bk.new z #[.int .i64 q2.i, .int .i64 q2.n, .int .i64 q2.d, .int .i64 q2.t, .int .i64 q2.s, .slice q2.ma q2.mn q2.mc, .slice q2.la q2.ln q2.lc, .slice q2.ha q2.hn q2.hc, .slice q2.aa q2.an q2.ac, .slice q2.xa q2.xn q2.xc, .bool q2.b] 28⟩
      have HD1 : Hk (PvD (z.alloc (.cells #[.int .i64 q2.i, .int .i64 q2.n, .int .i64 q2.d, .int .i64 q2.t, .int .i64 q2.s, .slice q2.ma q2.mn q2.mc, .slice q2.la q2.ln q2.lc, .slice q2.ha q2.hn q2.hc, .slice q2.aa q2.an q2.ac, .slice q2.xa q2.xn q2.xc, .bool q2.b] 28)) (z.alloc (.cells #[.int .i64 q2.i, .int .i64 q2.n, .int .i64 q2.d, .int .i64 q2.t, .int .i64 q2.s, .slice q2.ma q2.mn q2.mc, .slice q2.la q2.ln q2.lc, .slice q2.ha q2.hn q2.hc, .slice q2.aa q2.an q2.ac, .slice q2.xa q2.xn q2.xc, .bool q2.b] 28)).heap.size q1) := ⟨HD12.out.later ((Below.refl _ _).alloc (Nat.le_refl _) _)⟩
      replace HD2 : Hk (PvD (z.alloc (.cells #[.int .i64 q2.i, .int .i64 q2.n, .int .i64 q2.d, .int .i64 q2.t, .int .i64 q2.s, .slice q2.ma q2.mn q2.mc, .slice q2.la q2.ln q2.lc, .slice q2.ha q2.hn q2.hc, .slice q2.aa q2.an q2.ac, .slice q2.xa q2.xn q2.xc, .bool q2.b] 28)) (z.alloc (.cells #[.int .i64 q2.i, .int .i64 q2.n, .int .i64 q2.d, .int .i64 q2.t, .int .i64 q2.s, .slice q2.ma q2.mn q2.mc, .slice q2.la q2.ln q2.lc, .slice q2.ha q2.hn q2.hc, .slice q2.aa q2.an q2.ac, .slice q2.xa q2.xn q2.xc, .bool q2.b] 28)).heap.size q2) := ⟨HD2.out.later ((Below.refl _ _).alloc (Nat.le_refl _) _)⟩
      have HE : Hk (q2.ab = q1.ab) := ⟨by rw [HA1.out, HA2.out]⟩
      clear HB2 HX2 HD12 HA1 HA2 HU
      generalize hpq : z.heap.size = PQ at *
      clear hpq
      generalize (z.alloc (.cells #[.int .i64 q2.i, .int .i64 q2.n, .int .i64 q2.d, .int .i64 q2.t, .int .i64 q2.s, .slice q2.ma q2.mn q2.mc, .slice q2.la q2.ln q2.lc, .slice q2.ha q2.hn q2.hc, .slice q2.aa q2.an q2.ac, .slice q2.xa q2.xn q2.xc, .bool q2.b] 28)) = V2 at *
      have c0 := HX.out.c 0; have c1 := HX.out.c 1; have c2 := HX.out.c 2; have c3 := HX.out.c 3; have c4 := HX.out.c 4; have c5 := HX.out.c 5; have c6 := HX.out.c 6; have c7 := HX.out.c 7; have c8 := HX.out.c 8; have c9 := HX.out.c 9; have c10 := HX.out.c 10; have d0 := HQ.out.c 0; have d1 := HQ.out.c 1; have d2 := HQ.out.c 2; have d3 := HQ.out.c 3; have d4 := HQ.out.c 4; have d5 := HQ.out.c 5; have d6 := HQ.out.c 6; have d7 := HQ.out.c 7; have d8 := HQ.out.c 8; have d9 := HQ.out.c 9; have d10 := HQ.out.c 10; have cl := HX.out.lt; have dl := HQ.out.lt; simp at c0 c1 c2 c3 c4 c5 c6 c7 c8 c9 c10 d0 d1 d2 d3 d4 d5 d6 d7 d8 d9 d10
      go_wp2_with (first | (go_at_call 9; (with_reducible refine (num28_any _ _).mono ?_); rintro e z2 ⟨rfl, hz⟩; rw [hz]; clear hz z2) | (go_at_call 10; go_loud ((with_reducible refine (eqp_as true q2 q1 _ HD2.out HD1.out HS2.out HS1.out ⟨⟨fun _ => rfl, fun _ => HE.out⟩⟩).mono ?_); rintro e z ⟨rfl, hb⟩; have HBE := Hk.mk (kw_step HB.out L0 hb); clear hb)))
      exact ⟨⟨j + 1, rfl, by omega, by omega, HBE⟩, by simp only [intOf]; omega⟩
    · go_wp2_with (go_at_call 11; (with_reducible refine (wakes28_any _).mono ?_); rintro e w' ⟨rfl, hb⟩)
      all_goals
        go_ret
        exact ⟨rfl, kw_step HB.out L0 hb⟩

theorem peerNews_own : ownKnob Try.prog.godebug = none := by kernel_rfl
theorem peerNews_laidOut : laidOutB Try.prog = true := by kernel_rfl
set_option maxRecDepth 100000 in
theorem peerNews_lifted (os : Os) (started : os.Started) (H : Type) (enc : TypeId × Value → H) :
    ReturnsInHanded {} Try.checked os 3 .any (Rows.peerNewsSpec.pre6 enc Try.prog Try.f3 Rows.peerNewsRow.domain false) (Rows.peerNewsSpec.post enc Try.prog Try.f3 false true false false) := by
  refine returnsInHanded_of_change (C := Try.checked) peerNews_own started (by kernel_rfl) Try.func3
    (ChangeSpec.witness6 (enc := enc) (C := Try.checked) false ⟨#[], #[.slice none 0 0], []⟩ 8 (by kernel_rfl) (by kernel_rfl) (by kernel_rfl) (by kernel_rfl)) ?_
  intro W base args ds gs before hval0 hW hcnd _
  have hval : ∀ (j : Nat) t v, Try.f3.params[j]? = some t → args[j]? = some v → Value.okWide Try.prog W .any base t v := hval0
  have hW' := hW
  obtain ⟨p, q, hA0, hV, rfl, hfz, hnd⟩ := hW
  have hA : DataW.TrodAll enc Try.prog W 0 (fun _ => true) true Try.f3.params.toList args.toList ds p := hA0
  rw [Try.params3] at hA hval
  obtain ⟨v0, vs0, d0, ds0, p0, q0, hargs, rfl, rfl, h0, r0⟩ := trodAll_cons hA
  obtain ⟨rfl, rfl, rfl⟩ := trodAll_nil r0
  obtain rfl : args = #[v0] := by cases args; simp_all
  obtain ⟨rfl, rfl⟩ := trodVars_none hV
  obtain ⟨a0, len0, cap0, rfl⟩ := okWide_slice Try.underlying22 (hval 0 22 v0 rfl rfl)
  have k0 := h0
  have lt0 : ∀ x ∈ p0, x.block < W.heap.size := by obtain ⟨m, hm⟩ := k0; exact DataW.trod_lt m _ _ _ hm
  have rows : Asks28 W a0 len0 cap0 := by obtain ⟨fuel, hf⟩ := h0; exact asks28_of hf
  clear hA0 hval0
  refine (peerNews_walk a0 len0 cap0 W rows).mono fun e W' ⟨he, bel⟩ => ?_
  subst he
  exact ⟨_, rfl, _, _, _, [], _, [], hW', trodAll_mk1 (shut_bool Try.underlying4 _), (trodAll_cons_mk (Below.trod peerNews_laidOut (by kernel_rfl) (of_decide_eq_true (by kernel_rfl)) k0 bel lt0) trodAll_mk0), rfl, bel.frame _, fun h => by cases h⟩
theorem peerNews_over : Rows.peerNewsRow.holds Try.pinned (OpenSpec.ofChange Rows.peerNewsSpec) :=
  OpenClaim.holds_of_wide 3 Try.f3 rfl rfl rfl rfl rfl rfl rfl ⟨rfl, rfl, rfl, rfl, rfl⟩ rfl rfl rfl rfl rfl (by kernel_rfl) Try.func3 (by kernel_rfl)
    (of_decide_eq_true (by kernel_rfl)) (by unfold Func.isWrapper; first | (rw [if_pos (by decide +kernel)]; kernel_rfl) | (rw [if_neg (by decide +kernel)]; exact ⟨rfl, rfl⟩))
    (fun os started H enc _ => peerNews_lifted os started H enc)
/-- The given statement of PeerNews. -/
theorem peerNews_holds : Rows.PeerNewsSaid := peerNews_over
end Go.Proofs.Ytdpblimhfmfbnaa

