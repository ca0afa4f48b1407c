import Derived.ChangeSame
import Derived.Deep.QuietTactic
import Derived.BigQuiet
import Derived.Deep.RegionWith
import Derived.Deep.RegionHeld3
import Derived.Deep.DeepCutAuto
import Derived.Deep.DeepFit
import Derived.Outline
import Derived.Test.YtejilcnldllhpaaUi
import Derived.Test.YtejilcnldllhpaaUj
import Derived.Test.YtejilcnldllhpaaUe
import Derived.Test.YtejilcnldllhpaaUb
/- For every list, CommandBytes answers true and leaves its argument as it was: whether any command may be, and its bytes, are the page's, or it is refused. No condition. -/
namespace Go.Proofs.Ytejilcnldllhpaa
open Go.ChangeShapes Go.WideShapes Go.ChangeAt Go.RowKit Go.Deep
set_option linter.unusedVariables false
set_option linter.unusedSimpArgs false
theorem qb23 {P : Program} {F : FuncId} {args : Array Value} {w : World} {r : Ending} (h : Calls P F args w fun e w' => e = r ∧ w = w') : Calls P F args w fun e w' => e = r ∧ Below w.heap.size w w' := h.mono fun _ _ h => ⟨h.1, h.2 ▸ Below.refl _ _⟩
theorem qd23 {P : Program} {F : FuncId} {args : Array Value} {w : World} {r : Ending} (h : Calls P F args w fun e w' => e = r ∧ ∃ m, w' = w.drewN m) : Calls P F args w fun e w' => e = r ∧ Below w.heap.size w w' := h.mono fun _ _ h => ⟨h.1, by obtain ⟨m, rfl⟩ := h.2; exact below_drewN (Below.refl _ _) m⟩
theorem own_nq23 {w : World} {base n c : Nat} {a : Option Addr} {xs : List Int} (h : OwnI w base (.slice a n c) n xs) : Nq w w.heap.size a n xs := by
  obtain ⟨a', c', e, _, hb⟩ := h.nq
  injection e with e1 e2 e3
  subst e1
  exact hb
set_option maxRecDepth 100000 in
set_option maxHeartbeats 6400000 in
theorem commandBytes_walk (a0 : Option Addr) (len cap : Nat) (w : World) (rows : Asks22 w a0 len cap) :
    Calls Try.prog 3 #[.slice a0 len cap] w fun e w' => e = .returned (.bool true) ∧ Below w.heap.size w w' := by
  obtain ⟨hl, hm, hall⟩ := rows
  have HALL := Hk.mk hall
  have L0 : w.heap.size ≤ w.heap.size := Nat.le_refl _
  clear hall
  go_enter Try.func3, Try.ntmps3
  go_wp2
  go_loopw [3] (fun i wr => ∃ (j : Nat), i = .int .i64 j ∧ j ≤ len ∧ j ≤ 10 ∧ Hk (Below w.heap.size w wr)) (fun i _ => 10 - (intOf i).toNat)
  case atStart => exact ⟨0, rfl, by omega, by omega, ⟨Below.refl _ _⟩⟩
  case round =>
    obtain ⟨j, rfl, hj, hj2, HB⟩ := hrel
    by_cases hlt : j < len ∧ j < 10
    · obtain ⟨g1, g2⟩ := hlt
      obtain ⟨b, off, p, s, k, n, a, m, c, u, t, wd, h, x, y, ax, nx, cx, ys, rfl, hbl, hmm, hnq, ⟨hnx, hcx, hxn, hbx⟩, k0, k1, k2, k3, k4, k5, k6, k7, k8, k9, k10⟩ := HALL.out j (by omega)
      have HCE : Hk (∀ X, Below w.heap.size w X → X.cell? ⟨b, off + j * 11, none⟩ = some (.int .i64 p) ∧ X.cell? ⟨b, off + j * 11 + 1, none⟩ = some (.int .i64 s) ∧ X.cell? ⟨b, off + j * 11 + 2, none⟩ = some (.int .i64 k) ∧ X.cell? ⟨b, off + j * 11 + 3, none⟩ = some (.int .i64 n) ∧ X.cell? ⟨b, off + j * 11 + 4, none⟩ = some (.slice a m c) ∧ X.cell? ⟨b, off + j * 11 + 5, none⟩ = some (.int .i64 t) ∧ X.cell? ⟨b, off + j * 11 + 6, none⟩ = some (.int .i64 wd) ∧ X.cell? ⟨b, off + j * 11 + 7, none⟩ = some (.int .i64 h) ∧ X.cell? ⟨b, off + j * 11 + 8, none⟩ = some (.int .i64 x) ∧ X.cell? ⟨b, off + j * 11 + 9, none⟩ = some (.int .i64 y) ∧ X.cell? ⟨b, off + j * 11 + 10, none⟩ = some (.slice ax nx cx)) := ⟨fun X hX => ⟨(hX.cell (p := ⟨b, off + j * 11, none⟩) hbl).trans k0, (hX.cell (p := ⟨b, off + j * 11 + 1, none⟩) hbl).trans k1, (hX.cell (p := ⟨b, off + j * 11 + 2, none⟩) hbl).trans k2, (hX.cell (p := ⟨b, off + j * 11 + 3, none⟩) hbl).trans k3, (hX.cell (p := ⟨b, off + j * 11 + 4, none⟩) hbl).trans k4, (hX.cell (p := ⟨b, off + j * 11 + 5, none⟩) hbl).trans k5, (hX.cell (p := ⟨b, off + j * 11 + 6, none⟩) hbl).trans k6, (hX.cell (p := ⟨b, off + j * 11 + 7, none⟩) hbl).trans k7, (hX.cell (p := ⟨b, off + j * 11 + 8, none⟩) hbl).trans k8, (hX.cell (p := ⟨b, off + j * 11 + 9, none⟩) hbl).trans k9, (hX.cell (p := ⟨b, off + j * 11 + 10, none⟩) hbl).trans k10⟩⟩
      have HBX : Hk (∀ X, Below w.heap.size w X → By X w.heap.size ax nx ys) := ⟨fun X hX => hbx.below hX (Nat.le_refl _)⟩
      have HNQ : Hk (∀ X, Below w.heap.size w X → Nq X X.heap.size a m u) := ⟨fun X hX => (hnq.below hX (Nat.le_refl _)).mono hX.size⟩
      have HBYT := Hk.mk hbx.byt
      have HXL := Hk.mk hbx.len
      have HUL := Hk.mk hnq.len
      clear k0 k1 k2 k3 k4 k5 k6 k7 k8 k9 k10 hnq hbx
      obtain ⟨d0, d1, d2, d3, d4, d5, d6, d7, d8, d9, d10⟩ := HCE.out _ HB.out
      have i1 : (0 : Int) ≤ (j : Int) := by omega
      have i2 : (j : Int) < (len : Int) := by omega
      cases hv : decide (300 < m ∨ 3000 < nx)
      case true =>
        have HV := Hk.mk hv
        clear hv
        go_wp2_with (go_at_call 15; (with_reducible refine (heavy22_as true p s k n a m c t wd h x y ax nx cx _ HV).mono ?_); rintro e w2 ⟨rfl, hb⟩)
        go_ret
        exact ⟨rfl, kw_step HB.out L0 hb⟩
      have HV0 := Hk.mk hv
      have hx3 : nx ≤ 3000 := by simp at hv; omega
      have hm3 : m ≤ 300 := by simp at hv; omega
      clear hv
      go_upto_region 7 with (first
        | (go_at_call 15; (with_reducible refine (heavy22_as false p s k n a m c t wd h x y ax nx cx _ HV0).mono ?_); rintro e z ⟨rfl, hb⟩; replace HB := Hk.mk (kw_step HB.out L0 hb); clear hb d0 d1 d2 d3 d4 d5 d6 d7 d8 d9 d10; obtain ⟨d0, d1, d2, d3, d4, d5, d6, d7, d8, d9, d10⟩ := HCE.out _ HB.out)
        | (go_at_call 16; (with_reducible refine (copyc_any p s k n a m c u t wd h x y _ (HNQ.out _ HB.out) (by omega)).mono ?_); rintro e z ⟨a2, c2, rfl, hmc2, ho2, hb⟩; have HO2 := Hk.mk ho2; clear ho2; replace HB := Hk.mk (kw_step HB.out L0 hb); clear hb d0 d1 d2 d3 d4 d5 d6 d7 d8 d9 d10; obtain ⟨d0, d1, d2, d3, d4, d5, d6, d7, d8, d9, d10⟩ := HCE.out _ HB.out))
      have HPQ := Hk.mk (Bk.new z #[.int .i64 p, .int .i64 s, .int .i64 k, .int .i64 n, .slice a2 m c2, .int .i64 t, .int .i64 wd, .int .i64 h, .int .i64 x, .int .i64 y] 28)
      have HBQ := Hk.mk (kw_al HB.out L0 (.cells #[.int .i64 p, .int .i64 s, .int .i64 k, .int .i64 n, .slice a2 m c2, .int .i64 t, .int .i64 wd, .int .i64 h, .int .i64 x, .int .i64 y] 28))
      have HOQ := Hk.mk (HO2.out.below ((Below.refl _ _).alloc (Nat.le_refl _) (.cells #[.int .i64 p, .int .i64 s, .int .i64 k, .int .i64 n, .slice a2 m c2, .int .i64 t, .int .i64 wd, .int .i64 h, .int .i64 x, .int .i64 y] 28)))
      clear HB HO2 d0 d1 d2 d3 d4 d5 d6 d7 d8 d9 d10
      generalize z.heap.size = Q at *
      generalize z.alloc (.cells #[.int .i64 p, .int .i64 s, .int .i64 k, .int .i64 n, .slice a2 m c2, .int .i64 t, .int .i64 wd, .int .i64 h, .int .i64 x, .int .i64 y] 28) = VQ at *
      obtain ⟨d0, d1, d2, d3, d4, d5, d6, d7, d8, d9, d10⟩ := HCE.out _ HBQ.out
      have e0 : VQ.cell? ⟨Q, 0, none⟩ = some (.int .i64 p) := HPQ.out.c 0
      have e1 : VQ.cell? ⟨Q, 1, none⟩ = some (.int .i64 s) := HPQ.out.c 1
      have e2 : VQ.cell? ⟨Q, 2, none⟩ = some (.int .i64 k) := HPQ.out.c 2
      have e3 : VQ.cell? ⟨Q, 3, none⟩ = some (.int .i64 n) := HPQ.out.c 3
      have e4 : VQ.cell? ⟨Q, 4, none⟩ = some (.slice a2 m c2) := HPQ.out.c 4
      have e5 : VQ.cell? ⟨Q, 5, none⟩ = some (.int .i64 t) := HPQ.out.c 5
      have e6 : VQ.cell? ⟨Q, 6, none⟩ = some (.int .i64 wd) := HPQ.out.c 6
      have e7 : VQ.cell? ⟨Q, 7, none⟩ = some (.int .i64 h) := HPQ.out.c 7
      have e8 : VQ.cell? ⟨Q, 8, none⟩ = some (.int .i64 x) := HPQ.out.c 8
      have e9 : VQ.cell? ⟨Q, 9, none⟩ = some (.int .i64 y) := HPQ.out.c 9
      have bQ := HPQ.out.lt
      have bV : b < VQ.heap.size := Nat.lt_of_lt_of_le hbl HBQ.out.size
      have HNQ2 : Hk (∀ X, Below VQ.heap.size VQ X → Nq X X.heap.size a2 m u) := ⟨fun X hX => ((own_nq23 HOQ.out).below hX (Nat.le_refl _)).mono hX.size⟩
      have HNR : Hk (∀ X, Below VQ.heap.size VQ X → Nq X X.heap.size a m u) := ⟨fun X hX => HNQ.out X (HBQ.out.trans (hX.mono HBQ.out.size))⟩
      clear HPQ HOQ
      have HV : Hk (Below VQ.heap.size VQ VQ) := ⟨Below.refl _ _⟩
      obtain ⟨hc, hf, hl', hn', hm'⟩ := kw_rules HV.out (Nat.le_refl _)
      cases hok : okC p s k ⟨n, u, t, wd, h, x, y⟩
      case false =>
        have OK := Hk.mk hok
        have HCK : Hk ((if okC p s k ⟨n, u, t, wd, h, x, y⟩ then (0 : Int) else 1) = 1) := ⟨by rw [hok]; rfl⟩
        clear hok
        go_upto_region 11 with (first
          | (go_at_call 17; (with_reducible refine (bytes22_no p s k n a2 m c2 u t wd h x y _ (HNQ2.out _ HV.out) (by omega) OK).mono ?_); rintro e z ⟨rfl, hb⟩; replace HV := Hk.mk (kw_step HV.out (Nat.le_refl _) hb); clear hb hc hf hl' hn' hm'; obtain ⟨hc, hf, hl', hn', hm'⟩ := kw_rules HV.out (Nat.le_refl _))
          | (go_at_call 18; (with_reducible refine (rcmd_as false p s k n a m c u t wd h x y _ (HNR.out _ HV.out) (by omega) OK).mono ?_); rintro e z ⟨rfl, hb⟩; replace HV := Hk.mk (kw_step HV.out (Nat.le_refl _) hb); clear hb hc hf hl' hn' hm'; obtain ⟨hc, hf, hl', hn', hm'⟩ := kw_rules HV.out (Nat.le_refl _))
          | (go_at_call 19; (with_reducible refine (lawnum22_any _ _).mono ?_); rintro e w' ⟨rfl, rfl⟩))
        generalize z = VA at *
        have q0 : VA.cell? ⟨Q, 0, none⟩ = some (.int .i64 p) := (hc _ _ bQ).trans e0
        have q1 : VA.cell? ⟨Q, 1, none⟩ = some (.int .i64 s) := (hc _ _ bQ).trans e1
        have q2 : VA.cell? ⟨Q, 2, none⟩ = some (.int .i64 k) := (hc _ _ bQ).trans e2
        have q3 : VA.cell? ⟨Q, 3, none⟩ = some (.int .i64 n) := (hc _ _ bQ).trans e3
        have q4 : VA.cell? ⟨Q, 4, none⟩ = some (.slice a2 m c2) := (hc _ _ bQ).trans e4
        have q5 : VA.cell? ⟨Q, 5, none⟩ = some (.int .i64 t) := (hc _ _ bQ).trans e5
        have q6 : VA.cell? ⟨Q, 6, none⟩ = some (.int .i64 wd) := (hc _ _ bQ).trans e6
        have q7 : VA.cell? ⟨Q, 7, none⟩ = some (.int .i64 h) := (hc _ _ bQ).trans e7
        have q8 : VA.cell? ⟨Q, 8, none⟩ = some (.int .i64 x) := (hc _ _ bQ).trans e8
        have q9 : VA.cell? ⟨Q, 9, none⟩ = some (.int .i64 y) := (hc _ _ bQ).trans e9
        have r0 : VA.cell? ⟨b, off + j * 11, none⟩ = some (.int .i64 p) := (hc _ _ bV).trans d0
        have r1 : VA.cell? ⟨b, off + j * 11 + 1, none⟩ = some (.int .i64 s) := (hc _ _ bV).trans d1
        have r2 : VA.cell? ⟨b, off + j * 11 + 2, none⟩ = some (.int .i64 k) := (hc _ _ bV).trans d2
        have r3 : VA.cell? ⟨b, off + j * 11 + 3, none⟩ = some (.int .i64 n) := (hc _ _ bV).trans d3
        have r4 : VA.cell? ⟨b, off + j * 11 + 4, none⟩ = some (.slice a m c) := (hc _ _ bV).trans d4
        have r5 : VA.cell? ⟨b, off + j * 11 + 5, none⟩ = some (.int .i64 t) := (hc _ _ bV).trans d5
        have r6 : VA.cell? ⟨b, off + j * 11 + 6, none⟩ = some (.int .i64 wd) := (hc _ _ bV).trans d6
        have r7 : VA.cell? ⟨b, off + j * 11 + 7, none⟩ = some (.int .i64 h) := (hc _ _ bV).trans d7
        have r8 : VA.cell? ⟨b, off + j * 11 + 8, none⟩ = some (.int .i64 x) := (hc _ _ bV).trans d8
        have r9 : VA.cell? ⟨b, off + j * 11 + 9, none⟩ = some (.int .i64 y) := (hc _ _ bV).trans d9
        have r10 : VA.cell? ⟨b, off + j * 11 + 10, none⟩ = some (.slice ax nx cx) := (hc _ _ bV).trans d10
        have bX : b < VA.heap.size := hl' _ bV
        have bQ2 : Q < VA.heap.size := hl' _ bQ
        have HN2 : Hk (∀ X, Below VA.heap.size VA X → Nq X X.heap.size a2 m u) := ⟨fun X hX => (HNQ2.out _ (HV.out.trans (hX.mono HV.out.size)))⟩
        have HN3 : Hk (∀ X, Below VA.heap.size VA X → Nq X X.heap.size a m u) := ⟨fun X hX => (HNR.out _ (HV.out.trans (hX.mono HV.out.size)))⟩
        have HEQ : Hk (eqcB p s k n u t wd h x y p s k n u t wd h x y = true) := ⟨by unfold eqcB; simp⟩
        clear hc hf hl' hn' hm'
        have L0V : VA.heap.size ≤ VA.heap.size := Nat.le_refl _
        apply reg_merge
        intro HG4
        apply reg_merge
        intro HG3
        apply reg_merge
        intro HG2
        apply reg_merge
        intro HG1
        refine wp_region_held_drew (S := fun Z => (∀ b o, b < VA.heap.size → Z.cell? ⟨b, o, none⟩ = VA.cell? ⟨b, o, none⟩)) (by kernel_rfl) (fun _ _ _ => rfl) (fun hHeld => ?_)
        have HB : Hk (Below VA.heap.size VA VA.drew) := ⟨(Below.refl _ _).drew⟩
        obtain ⟨W11, hWe⟩ : ∃ W11, VA.drew = W11 := ⟨_, rfl⟩
        rw [hWe] at HB hHeld ⊢
        clear hWe
        refine wpAnyH_take (i := 0) (v := ?_) rfl (by kernel_rfl) (by kernel_rfl) (by kernel_rfl) (fun _ _ _ h => h) (Or.inl ⟨by rfl, fun wX hSw => ?_⟩) (by assumption) ?_
        rotate_left
        · (try dsimp only at hSw); go_simp; try with_reducible rfl
        (try simp only [Act.put, List.getElem_toArray, List.getElem_cons_succ, List.getElem_cons_zero, List.setIfInBounds_toArray, List.set_cons_zero, List.set_cons_succ])
        refine wpAnyH_take (i := 3) (v := ?_) rfl (by kernel_rfl) (by kernel_rfl) (by kernel_rfl) (fun _ _ _ h => h) (Or.inl ⟨by rfl, fun wX hSw => ?_⟩) (by assumption) ?_
        rotate_left
        · (try dsimp only at hSw); go_simp; try with_reducible rfl
        (try simp only [Act.put, List.getElem_toArray, List.getElem_cons_succ, List.getElem_cons_zero, List.setIfInBounds_toArray, List.set_cons_zero, List.set_cons_succ])
        refine wpAnyH_ready (rs := [1]) (by kernel_rfl) (by simp) ?_
        refine AllReadyH.cons rfl (fun K hK => ?_) (AllReadyH.nil)
        · skip
          go_simp
          (first
        | (go_at_call 20; (with_reducible refine (check22_as 1 p s k n a2 m c2 u t wd h x y _ (HN2.out _ HB.out) (by omega) HCK).mono ?_); rintro e z ⟨rfl, hb⟩)
        | (go_at_call 19; (with_reducible refine (qb23 (lawnum22_any _ _)).mono ?_); rintro e z ⟨rfl, hb⟩)
        
        | (go_at_call 23; (with_reducible refine (eqc_as true p s k n a2 m c2 u t wd h x y p s k n a m c u t wd h x y _ (HN2.out _ HB.out) (by omega) (HN3.out _ HB.out) (by omega) HEQ).mono ?_); rintro e z ⟨rfl, hb⟩))
          replace HB := Hk.mk (kw_step HB.out L0V hb)
          clear hb
          refine hK.out _ _ ?_ (fun hHeld2 => ?_)
          · exact kw_s HB.out
          clear hK K hHeld
          have hHeld := hHeld2
          clear hHeld2
          (try simp only [Act.put, List.getElem_toArray, List.getElem_cons_succ, List.getElem_cons_zero, List.setIfInBounds_toArray, List.set_cons_zero, List.set_cons_succ])
          refine reg_cast (l' := #[true, true, false, true, false, false, false, false, false, false, false, false, false, false, false, false, false, false, false, false, false, false, false, false, false, false, false, false, false, false, false, false, false, false, false, false, false, false, false, false, false, false, false, false, false]) (by kernel_rfl) ?_
          revert hHeld
          revert HB
          revert z
          exact HG1.out
        intro W11 HB hHeld
        refine wpAnyH_ready (rs := [2]) (by kernel_rfl) (by simp) ?_
        refine AllReadyH.cons rfl (fun K hK => ?_) (AllReadyH.nil)
        · skip
          go_simp
          (first
        | (go_at_call 20; (with_reducible refine (check22_as 1 p s k n a2 m c2 u t wd h x y _ (HN2.out _ HB.out) (by omega) HCK).mono ?_); rintro e z ⟨rfl, hb⟩)
        | (go_at_call 19; (with_reducible refine (qb23 (lawnum22_any _ _)).mono ?_); rintro e z ⟨rfl, hb⟩)
        
        | (go_at_call 23; (with_reducible refine (eqc_as true p s k n a2 m c2 u t wd h x y p s k n a m c u t wd h x y _ (HN2.out _ HB.out) (by omega) (HN3.out _ HB.out) (by omega) HEQ).mono ?_); rintro e z ⟨rfl, hb⟩))
          replace HB := Hk.mk (kw_step HB.out L0V hb)
          clear hb
          refine hK.out _ _ ?_ (fun hHeld2 => ?_)
          · exact kw_s HB.out
          clear hK K hHeld
          have hHeld := hHeld2
          clear hHeld2
          (try simp only [Act.put, List.getElem_toArray, List.getElem_cons_succ, List.getElem_cons_zero, List.setIfInBounds_toArray, List.set_cons_zero, List.set_cons_succ])
          refine wpAnyH_take (i := 4) (v := ?_) rfl (by kernel_rfl) (by kernel_rfl) (by kernel_rfl) (fun _ _ _ h => h) (Or.inl ⟨by rfl, fun wX hSw => ?_⟩) (by assumption) ?_
          rotate_left
          · (try dsimp only at hSw); go_simp; try with_reducible rfl
          (try simp only [Act.put, List.getElem_toArray, List.getElem_cons_succ, List.getElem_cons_zero, List.setIfInBounds_toArray, List.set_cons_zero, List.set_cons_succ])
          refine wpAnyH_take (i := 5) (v := ?_) rfl (by kernel_rfl) (by kernel_rfl) (by kernel_rfl) (fun _ _ _ h => h) (Or.inl ⟨by rfl, fun wX hSw => ?_⟩) (by assumption) ?_
          rotate_left
          · (try dsimp only at hSw); go_simp; try with_reducible rfl
          (try simp only [Act.put, List.getElem_toArray, List.getElem_cons_succ, List.getElem_cons_zero, List.setIfInBounds_toArray, List.set_cons_zero, List.set_cons_succ])
          refine wpAnyH_take (i := 6) (v := ?_) rfl (by kernel_rfl) (by kernel_rfl) (by kernel_rfl) (fun _ _ _ h => h) (Or.inl ⟨by rfl, fun wX hSw => ?_⟩) (by assumption) ?_
          rotate_left
          · (try dsimp only at hSw); go_simp; try with_reducible rfl
          (try simp only [Act.put, List.getElem_toArray, List.getElem_cons_succ, List.getElem_cons_zero, List.setIfInBounds_toArray, List.set_cons_zero, List.set_cons_succ])
          refine wpAnyH_take (i := 8) (v := ?_) rfl (by kernel_rfl) (by kernel_rfl) (by kernel_rfl) (fun _ _ _ h => h) (Or.inl ⟨by rfl, fun wX hSw => ?_⟩) (by assumption) ?_
          rotate_left
          · (try dsimp only at hSw); go_simp; try with_reducible rfl
          (try simp only [Act.put, List.getElem_toArray, List.getElem_cons_succ, List.getElem_cons_zero, List.setIfInBounds_toArray, List.set_cons_zero, List.set_cons_succ])
          refine reg_cast (l' := #[true, true, true, true, true, true, true, false, true, false, false, false, false, false, false, false, false, false, false, false, false, false, false, false, false, false, false, false, false, false, false, false, false, false, false, false, false, false, false, false, false, false, false, false, false]) (by kernel_rfl) ?_
          revert hHeld
          revert HB
          revert z
          exact HG2.out
        intro W11 HB hHeld
        refine wpAnyH_ready (rs := [7]) (by kernel_rfl) (by simp) ?_
        refine AllReadyH.cons rfl (fun K hK => ?_) (AllReadyH.nil)
        · skip
          go_simp
          (first
        | (go_at_call 20; (with_reducible refine (check22_as 1 p s k n a2 m c2 u t wd h x y _ (HN2.out _ HB.out) (by omega) HCK).mono ?_); rintro e z ⟨rfl, hb⟩)
        | (go_at_call 19; (with_reducible refine (qb23 (lawnum22_any _ _)).mono ?_); rintro e z ⟨rfl, hb⟩)
        
        | (go_at_call 23; (with_reducible refine (eqc_as true p s k n a2 m c2 u t wd h x y p s k n a m c u t wd h x y _ (HN2.out _ HB.out) (by omega) (HN3.out _ HB.out) (by omega) HEQ).mono ?_); rintro e z ⟨rfl, hb⟩))
          replace HB := Hk.mk (kw_step HB.out L0V hb)
          clear hb
          refine hK.out _ _ ?_ (fun hHeld2 => ?_)
          · exact kw_s HB.out
          clear hK K hHeld
          have hHeld := hHeld2
          clear hHeld2
          (try simp only [Act.put, List.getElem_toArray, List.getElem_cons_succ, List.getElem_cons_zero, List.setIfInBounds_toArray, List.set_cons_zero, List.set_cons_succ])
          refine wpAnyH_take (i := 9) (v := ?_) rfl (by kernel_rfl) (by kernel_rfl) (by kernel_rfl) (fun _ _ _ h => h) (Or.inl ⟨by rfl, fun wX hSw => ?_⟩) (by assumption) ?_
          rotate_left
          · (try dsimp only at hSw); go_simp; try with_reducible rfl
          (try simp only [Act.put, List.getElem_toArray, List.getElem_cons_succ, List.getElem_cons_zero, List.setIfInBounds_toArray, List.set_cons_zero, List.set_cons_succ])
          refine wpAnyH_take (i := 10) (v := ?_) rfl (by kernel_rfl) (by kernel_rfl) (by kernel_rfl) (fun _ _ _ h => h) (Or.inl ⟨by rfl, fun wX hSw => ?_⟩) (by assumption) ?_
          rotate_left
          · (try dsimp only at hSw); go_simp; try with_reducible rfl
          (try simp only [Act.put, List.getElem_toArray, List.getElem_cons_succ, List.getElem_cons_zero, List.setIfInBounds_toArray, List.set_cons_zero, List.set_cons_succ])
          refine wpAnyH_take (i := 11) (v := ?_) rfl (by kernel_rfl) (by kernel_rfl) (by kernel_rfl) (fun _ _ _ h => h) (Or.inl ⟨by rfl, fun wX hSw => ?_⟩) (by assumption) ?_
          rotate_left
          · (try dsimp only at hSw); go_simp; try with_reducible rfl
          (try simp only [Act.put, List.getElem_toArray, List.getElem_cons_succ, List.getElem_cons_zero, List.setIfInBounds_toArray, List.set_cons_zero, List.set_cons_succ])
          refine wpAnyH_take (i := 12) (v := ?_) rfl (by kernel_rfl) (by kernel_rfl) (by kernel_rfl) (fun _ _ _ h => h) (Or.inl ⟨by rfl, fun wX hSw => ?_⟩) (by assumption) ?_
          rotate_left
          · (try dsimp only at hSw); go_simp; try with_reducible rfl
          (try simp only [Act.put, List.getElem_toArray, List.getElem_cons_succ, List.getElem_cons_zero, List.setIfInBounds_toArray, List.set_cons_zero, List.set_cons_succ])
          refine wpAnyH_take (i := 13) (v := ?_) rfl (by kernel_rfl) (by kernel_rfl) (by kernel_rfl) (fun _ _ _ h => h) (Or.inl ⟨by rfl, fun wX hSw => ?_⟩) (by assumption) ?_
          rotate_left
          · (try dsimp only at hSw); go_simp; try with_reducible rfl
          (try simp only [Act.put, List.getElem_toArray, List.getElem_cons_succ, List.getElem_cons_zero, List.setIfInBounds_toArray, List.set_cons_zero, List.set_cons_succ])
          refine wpAnyH_take (i := 14) (v := ?_) rfl (by kernel_rfl) (by kernel_rfl) (by kernel_rfl) (fun _ _ _ h => h) (Or.inl ⟨by rfl, fun wX hSw => ?_⟩) (by assumption) ?_
          rotate_left
          · (try dsimp only at hSw); go_simp; try with_reducible rfl
          (try simp only [Act.put, List.getElem_toArray, List.getElem_cons_succ, List.getElem_cons_zero, List.setIfInBounds_toArray, List.set_cons_zero, List.set_cons_succ])
          refine wpAnyH_take (i := 15) (v := ?_) rfl (by kernel_rfl) (by kernel_rfl) (by kernel_rfl) (fun _ _ _ h => h) (Or.inl ⟨by rfl, fun wX hSw => ?_⟩) (by assumption) ?_
          rotate_left
          · (try dsimp only at hSw); go_simp; try with_reducible rfl
          (try simp only [Act.put, List.getElem_toArray, List.getElem_cons_succ, List.getElem_cons_zero, List.setIfInBounds_toArray, List.set_cons_zero, List.set_cons_succ])
          refine wpAnyH_take (i := 16) (v := ?_) rfl (by kernel_rfl) (by kernel_rfl) (by kernel_rfl) (fun _ _ _ h => h) (Or.inl ⟨by rfl, fun wX hSw => ?_⟩) (by assumption) ?_
          rotate_left
          · (try dsimp only at hSw); go_simp; try with_reducible rfl
          (try simp only [Act.put, List.getElem_toArray, List.getElem_cons_succ, List.getElem_cons_zero, List.setIfInBounds_toArray, List.set_cons_zero, List.set_cons_succ])
          refine wpAnyH_take (i := 17) (v := ?_) rfl (by kernel_rfl) (by kernel_rfl) (by kernel_rfl) (fun _ _ _ h => h) (Or.inl ⟨by rfl, fun wX hSw => ?_⟩) (by assumption) ?_
          rotate_left
          · (try dsimp only at hSw); go_simp; try with_reducible rfl
          (try simp only [Act.put, List.getElem_toArray, List.getElem_cons_succ, List.getElem_cons_zero, List.setIfInBounds_toArray, List.set_cons_zero, List.set_cons_succ])
          refine wpAnyH_take (i := 18) (v := ?_) rfl (by kernel_rfl) (by kernel_rfl) (by kernel_rfl) (fun _ _ _ h => h) (Or.inl ⟨by rfl, fun wX hSw => ?_⟩) (by assumption) ?_
          rotate_left
          · (try dsimp only at hSw); go_simp; try with_reducible rfl
          (try simp only [Act.put, List.getElem_toArray, List.getElem_cons_succ, List.getElem_cons_zero, List.setIfInBounds_toArray, List.set_cons_zero, List.set_cons_succ])
          refine wpAnyH_take (i := 19) (v := ?_) rfl (by kernel_rfl) (by kernel_rfl) (by kernel_rfl) (fun _ _ _ h => h) (Or.inl ⟨by rfl, fun wX hSw => ?_⟩) (by assumption) ?_
          rotate_left
          · (try dsimp only at hSw); go_simp; try with_reducible rfl
          (try simp only [Act.put, List.getElem_toArray, List.getElem_cons_succ, List.getElem_cons_zero, List.setIfInBounds_toArray, List.set_cons_zero, List.set_cons_succ])
          refine wpAnyH_take (i := 20) (v := ?_) rfl (by kernel_rfl) (by kernel_rfl) (by kernel_rfl) (fun _ _ _ h => h) (Or.inl ⟨by rfl, fun wX hSw => ?_⟩) (by assumption) ?_
          rotate_left
          · (try dsimp only at hSw); go_simp; try with_reducible rfl
          (try simp only [Act.put, List.getElem_toArray, List.getElem_cons_succ, List.getElem_cons_zero, List.setIfInBounds_toArray, List.set_cons_zero, List.set_cons_succ])
          refine wpAnyH_take (i := 21) (v := ?_) rfl (by kernel_rfl) (by kernel_rfl) (by kernel_rfl) (fun _ _ _ h => h) (Or.inl ⟨by rfl, fun wX hSw => ?_⟩) (by assumption) ?_
          rotate_left
          · (try dsimp only at hSw); go_simp; try with_reducible rfl
          (try simp only [Act.put, List.getElem_toArray, List.getElem_cons_succ, List.getElem_cons_zero, List.setIfInBounds_toArray, List.set_cons_zero, List.set_cons_succ])
          refine wpAnyH_take (i := 22) (v := ?_) rfl (by kernel_rfl) (by kernel_rfl) (by kernel_rfl) (fun _ _ _ h => h) (Or.inl ⟨by rfl, fun wX hSw => ?_⟩) (by assumption) ?_
          rotate_left
          · (try dsimp only at hSw); go_simp; try with_reducible rfl
          (try simp only [Act.put, List.getElem_toArray, List.getElem_cons_succ, List.getElem_cons_zero, List.setIfInBounds_toArray, List.set_cons_zero, List.set_cons_succ])
          refine wpAnyH_take (i := 23) (v := ?_) rfl (by kernel_rfl) (by kernel_rfl) (by kernel_rfl) (fun _ _ _ h => h) (Or.inl ⟨by rfl, fun wX hSw => ?_⟩) (by assumption) ?_
          rotate_left
          · (try dsimp only at hSw); go_simp; try with_reducible rfl
          (try simp only [Act.put, List.getElem_toArray, List.getElem_cons_succ, List.getElem_cons_zero, List.setIfInBounds_toArray, List.set_cons_zero, List.set_cons_succ])
          refine wpAnyH_take (i := 24) (v := undef) rfl (by kernel_rfl) (by kernel_rfl) (by kernel_rfl) (fun _ _ _ h => h) (Or.inr ⟨by rfl, rfl⟩) (by assumption) ?_
          (try simp only [Act.put, List.getElem_toArray, List.getElem_cons_succ, List.getElem_cons_zero, List.setIfInBounds_toArray, List.set_cons_zero, List.set_cons_succ])
          refine wpAnyH_take (i := 25) (v := undef) rfl (by kernel_rfl) (by kernel_rfl) (by kernel_rfl) (fun _ _ _ h => h) (Or.inr ⟨by rfl, rfl⟩) (by assumption) ?_
          (try simp only [Act.put, List.getElem_toArray, List.getElem_cons_succ, List.getElem_cons_zero, List.setIfInBounds_toArray, List.set_cons_zero, List.set_cons_succ])
          refine wpAnyH_take (i := 26) (v := undef) rfl (by kernel_rfl) (by kernel_rfl) (by kernel_rfl) (fun _ _ _ h => h) (Or.inr ⟨by rfl, rfl⟩) (by assumption) ?_
          (try simp only [Act.put, List.getElem_toArray, List.getElem_cons_succ, List.getElem_cons_zero, List.setIfInBounds_toArray, List.set_cons_zero, List.set_cons_succ])
          refine wpAnyH_take (i := 27) (v := undef) rfl (by kernel_rfl) (by kernel_rfl) (by kernel_rfl) (fun _ _ _ h => h) (Or.inr ⟨by rfl, rfl⟩) (by assumption) ?_
          (try simp only [Act.put, List.getElem_toArray, List.getElem_cons_succ, List.getElem_cons_zero, List.setIfInBounds_toArray, List.set_cons_zero, List.set_cons_succ])
          refine wpAnyH_take (i := 28) (v := undef) rfl (by kernel_rfl) (by kernel_rfl) (by kernel_rfl) (fun _ _ _ h => h) (Or.inr ⟨by rfl, rfl⟩) (by assumption) ?_
          (try simp only [Act.put, List.getElem_toArray, List.getElem_cons_succ, List.getElem_cons_zero, List.setIfInBounds_toArray, List.set_cons_zero, List.set_cons_succ])
          refine wpAnyH_take (i := 29) (v := undef) rfl (by kernel_rfl) (by kernel_rfl) (by kernel_rfl) (fun _ _ _ h => h) (Or.inr ⟨by rfl, rfl⟩) (by assumption) ?_
          (try simp only [Act.put, List.getElem_toArray, List.getElem_cons_succ, List.getElem_cons_zero, List.setIfInBounds_toArray, List.set_cons_zero, List.set_cons_succ])
          refine wpAnyH_take (i := 30) (v := undef) rfl (by kernel_rfl) (by kernel_rfl) (by kernel_rfl) (fun _ _ _ h => h) (Or.inr ⟨by rfl, rfl⟩) (by assumption) ?_
          (try simp only [Act.put, List.getElem_toArray, List.getElem_cons_succ, List.getElem_cons_zero, List.setIfInBounds_toArray, List.set_cons_zero, List.set_cons_succ])
          refine wpAnyH_take (i := 31) (v := undef) rfl (by kernel_rfl) (by kernel_rfl) (by kernel_rfl) (fun _ _ _ h => h) (Or.inr ⟨by rfl, rfl⟩) (by assumption) ?_
          (try simp only [Act.put, List.getElem_toArray, List.getElem_cons_succ, List.getElem_cons_zero, List.setIfInBounds_toArray, List.set_cons_zero, List.set_cons_succ])
          refine wpAnyH_take (i := 32) (v := undef) rfl (by kernel_rfl) (by kernel_rfl) (by kernel_rfl) (fun _ _ _ h => h) (Or.inr ⟨by rfl, rfl⟩) (by assumption) ?_
          (try simp only [Act.put, List.getElem_toArray, List.getElem_cons_succ, List.getElem_cons_zero, List.setIfInBounds_toArray, List.set_cons_zero, List.set_cons_succ])
          refine wpAnyH_take (i := 33) (v := ?_) rfl (by kernel_rfl) (by kernel_rfl) (by kernel_rfl) (fun _ _ _ h => h) (Or.inl ⟨by rfl, fun wX hSw => ?_⟩) (by assumption) ?_
          rotate_left
          · (try dsimp only at hSw); go_simp; try with_reducible rfl
          (try simp only [Act.put, List.getElem_toArray, List.getElem_cons_succ, List.getElem_cons_zero, List.setIfInBounds_toArray, List.set_cons_zero, List.set_cons_succ])
          refine wpAnyH_take (i := 34) (v := ?_) rfl (by kernel_rfl) (by kernel_rfl) (by kernel_rfl) (fun _ _ _ h => h) (Or.inl ⟨by rfl, fun wX hSw => ?_⟩) (by assumption) ?_
          rotate_left
          · (try dsimp only at hSw); go_simp; try with_reducible rfl
          (try simp only [Act.put, List.getElem_toArray, List.getElem_cons_succ, List.getElem_cons_zero, List.setIfInBounds_toArray, List.set_cons_zero, List.set_cons_succ])
          refine wpAnyH_take (i := 35) (v := ?_) rfl (by kernel_rfl) (by kernel_rfl) (by kernel_rfl) (fun _ _ _ h => h) (Or.inl ⟨by rfl, fun wX hSw => ?_⟩) (by assumption) ?_
          rotate_left
          · (try dsimp only at hSw); go_simp; try with_reducible rfl
          (try simp only [Act.put, List.getElem_toArray, List.getElem_cons_succ, List.getElem_cons_zero, List.setIfInBounds_toArray, List.set_cons_zero, List.set_cons_succ])
          refine wpAnyH_take (i := 36) (v := ?_) rfl (by kernel_rfl) (by kernel_rfl) (by kernel_rfl) (fun _ _ _ h => h) (Or.inl ⟨by rfl, fun wX hSw => ?_⟩) (by assumption) ?_
          rotate_left
          · (try dsimp only at hSw); go_simp; try with_reducible rfl
          (try simp only [Act.put, List.getElem_toArray, List.getElem_cons_succ, List.getElem_cons_zero, List.setIfInBounds_toArray, List.set_cons_zero, List.set_cons_succ])
          refine wpAnyH_take (i := 37) (v := ?_) rfl (by kernel_rfl) (by kernel_rfl) (by kernel_rfl) (fun _ _ _ h => h) (Or.inl ⟨by rfl, fun wX hSw => ?_⟩) (by assumption) ?_
          rotate_left
          · (try dsimp only at hSw); go_simp; try with_reducible rfl
          (try simp only [Act.put, List.getElem_toArray, List.getElem_cons_succ, List.getElem_cons_zero, List.setIfInBounds_toArray, List.set_cons_zero, List.set_cons_succ])
          refine wpAnyH_take (i := 38) (v := ?_) rfl (by kernel_rfl) (by kernel_rfl) (by kernel_rfl) (fun _ _ _ h => h) (Or.inl ⟨by rfl, fun wX hSw => ?_⟩) (by assumption) ?_
          rotate_left
          · (try dsimp only at hSw); go_simp; try with_reducible rfl
          (try simp only [Act.put, List.getElem_toArray, List.getElem_cons_succ, List.getElem_cons_zero, List.setIfInBounds_toArray, List.set_cons_zero, List.set_cons_succ])
          refine wpAnyH_take (i := 39) (v := ?_) rfl (by kernel_rfl) (by kernel_rfl) (by kernel_rfl) (fun _ _ _ h => h) (Or.inl ⟨by rfl, fun wX hSw => ?_⟩) (by assumption) ?_
          rotate_left
          · (try dsimp only at hSw); go_simp; try with_reducible rfl
          (try simp only [Act.put, List.getElem_toArray, List.getElem_cons_succ, List.getElem_cons_zero, List.setIfInBounds_toArray, List.set_cons_zero, List.set_cons_succ])
          refine wpAnyH_take (i := 40) (v := ?_) rfl (by kernel_rfl) (by kernel_rfl) (by kernel_rfl) (fun _ _ _ h => h) (Or.inl ⟨by rfl, fun wX hSw => ?_⟩) (by assumption) ?_
          rotate_left
          · (try dsimp only at hSw); go_simp; try with_reducible rfl
          (try simp only [Act.put, List.getElem_toArray, List.getElem_cons_succ, List.getElem_cons_zero, List.setIfInBounds_toArray, List.set_cons_zero, List.set_cons_succ])
          refine wpAnyH_take (i := 41) (v := ?_) rfl (by kernel_rfl) (by kernel_rfl) (by kernel_rfl) (fun _ _ _ h => h) (Or.inl ⟨by rfl, fun wX hSw => ?_⟩) (by assumption) ?_
          rotate_left
          · (try dsimp only at hSw); go_simp; try with_reducible rfl
          (try simp only [Act.put, List.getElem_toArray, List.getElem_cons_succ, List.getElem_cons_zero, List.setIfInBounds_toArray, List.set_cons_zero, List.set_cons_succ])
          refine reg_cast (l' := #[true, true, true, true, true, true, true, true, true, true, true, true, true, true, true, true, true, true, true, true, true, true, true, true, true, true, true, true, true, true, true, true, true, true, true, true, true, true, true, true, true, true, false, false, false]) (by kernel_rfl) ?_
          revert hHeld
          revert HB
          revert z
          exact HG3.out
        intro W11 HB hHeld
        refine wpAnyH_ready (rs := [42]) (by kernel_rfl) (by simp) ?_
        refine AllReadyH.cons rfl (fun K hK => ?_) (AllReadyH.nil)
        · skip
          go_simp
          (first
        | (go_at_call 20; (with_reducible refine (check22_as 1 p s k n a2 m c2 u t wd h x y _ (HN2.out _ HB.out) (by omega) HCK).mono ?_); rintro e z ⟨rfl, hb⟩)
        | (go_at_call 19; (with_reducible refine (qb23 (lawnum22_any _ _)).mono ?_); rintro e z ⟨rfl, hb⟩)
        
        | (go_at_call 23; (with_reducible refine (eqc_as true p s k n a2 m c2 u t wd h x y p s k n a m c u t wd h x y _ (HN2.out _ HB.out) (by omega) (HN3.out _ HB.out) (by omega) HEQ).mono ?_); rintro e z ⟨rfl, hb⟩))
          replace HB := Hk.mk (kw_step HB.out L0V hb)
          clear hb
          refine hK.out _ _ ?_ (fun hHeld2 => ?_)
          · exact kw_s HB.out
          clear hK K hHeld
          have hHeld := hHeld2
          clear hHeld2
          (try simp only [Act.put, List.getElem_toArray, List.getElem_cons_succ, List.getElem_cons_zero, List.setIfInBounds_toArray, List.set_cons_zero, List.set_cons_succ])
          refine wpAnyH_take (i := 43) (v := ?_) rfl (by kernel_rfl) (by kernel_rfl) (by kernel_rfl) (fun _ _ _ h => h) (Or.inl ⟨by rfl, fun wX hSw => ?_⟩) (by assumption) ?_
          rotate_left
          · (try dsimp only at hSw); go_simp; try with_reducible rfl
          (try simp only [Act.put, List.getElem_toArray, List.getElem_cons_succ, List.getElem_cons_zero, List.setIfInBounds_toArray, List.set_cons_zero, List.set_cons_succ])
          refine wpAnyH_take (i := 44) (v := ?_) rfl (by kernel_rfl) (by kernel_rfl) (by kernel_rfl) (fun _ _ _ h => h) (Or.inl ⟨by rfl, fun wX hSw => ?_⟩) (by assumption) ?_
          rotate_left
          · (try dsimp only at hSw); go_simp; try with_reducible rfl
          (try simp only [Act.put, List.getElem_toArray, List.getElem_cons_succ, List.getElem_cons_zero, List.setIfInBounds_toArray, List.set_cons_zero, List.set_cons_succ])
          refine reg_cast (l' := #[true, true, true, true, true, true, true, true, true, true, true, true, true, true, true, true, true, true, true, true, true, true, true, true, true, true, true, true, true, true, true, true, true, true, true, true, true, true, true, true, true, true, true, true, true]) (by kernel_rfl) ?_
          revert hHeld
          revert HB
          revert z
          exact HG4.out
        intro W11 HB hHeld
        refine wpAnyH_done (by kernel_rfl) ?_ _
        go_wp2_with fail
        exact ⟨⟨j + 1, by go_num, by omega, by omega, ⟨HBQ.out.trans ((HV.out.trans (HB.out.mono HV.out.size)).mono HBQ.out.size)⟩⟩, by simp [intOf]; omega⟩
      have OK := Hk.mk hok
      have HCK : Hk ((if okC p s k ⟨n, u, t, wd, h, x, y⟩ then (0 : Int) else 1) = 0) := ⟨by rw [hok]; rfl⟩
      obtain ⟨hh1, hh2, hh3⟩ := bytes_head hok
      obtain ⟨bs, hbs⟩ : ∃ bs, bytesC p s k ⟨n, u, t, wd, h, x, y⟩ = bs := ⟨_, rfl⟩
      rw [hbs] at hh2 hh3
      obtain ⟨L, hL⟩ : ∃ L, bs.length = L := ⟨_, rfl⟩
      rw [hL] at hh2 hh3
      have HBS := Hk.mk hbs
      have HBL := Hk.mk hL
      clear hbs hL hok hh1
      go_upto_region 11 with (first
        | (go_at_call 17; (with_reducible refine (bytes22_as p s k n a2 m c2 u t wd h x y bs L _ (HNQ2.out _ HV.out) (by omega) OK HBS HBL).mono ?_); rintro e VB ⟨v, rfl, ho, hb⟩; obtain ⟨a7, c7, rfl, -, hby7, -⟩ := ho.by_; have HYB := Hk.mk hby7; clear ho hby7; replace HV := Hk.mk (kw_step HV.out (Nat.le_refl _) hb); clear hb hc hf hl' hn' hm'; obtain ⟨hc, hf, hl', hn', hm'⟩ := kw_rules HV.out (Nat.le_refl _); have HVB : Hk (Below VB.heap.size VB VB) := ⟨Below.refl _ _⟩)
        | (go_at_call 18; (with_reducible refine (rcmd_as true p s k n a m c u t wd h x y _ (HNR.out _ HV.out) (by omega) OK).mono ?_); rintro e z ⟨rfl, hb⟩; replace HVB := Hk.mk (kw_step HVB.out (Nat.le_refl _) hb); replace HV := Hk.mk (kw_step HV.out (Nat.le_refl _) hb); clear hb hc hf hl' hn' hm'; obtain ⟨hc, hf, hl', hn', hm'⟩ := kw_rules HV.out (Nat.le_refl _))
        | (go_at_call 19; (with_reducible refine (lawnum22_any _ _).mono ?_); rintro e w' ⟨rfl, rfl⟩))
      generalize z = VA at *
      have q0 : VA.cell? ⟨Q, 0, none⟩ = some (.int .i64 p) := (hc _ _ bQ).trans e0
      have q1 : VA.cell? ⟨Q, 1, none⟩ = some (.int .i64 s) := (hc _ _ bQ).trans e1
      have q2 : VA.cell? ⟨Q, 2, none⟩ = some (.int .i64 k) := (hc _ _ bQ).trans e2
      have q3 : VA.cell? ⟨Q, 3, none⟩ = some (.int .i64 n) := (hc _ _ bQ).trans e3
      have q4 : VA.cell? ⟨Q, 4, none⟩ = some (.slice a2 m c2) := (hc _ _ bQ).trans e4
      have q5 : VA.cell? ⟨Q, 5, none⟩ = some (.int .i64 t) := (hc _ _ bQ).trans e5
      have q6 : VA.cell? ⟨Q, 6, none⟩ = some (.int .i64 wd) := (hc _ _ bQ).trans e6
      have q7 : VA.cell? ⟨Q, 7, none⟩ = some (.int .i64 h) := (hc _ _ bQ).trans e7
      have q8 : VA.cell? ⟨Q, 8, none⟩ = some (.int .i64 x) := (hc _ _ bQ).trans e8
      have q9 : VA.cell? ⟨Q, 9, none⟩ = some (.int .i64 y) := (hc _ _ bQ).trans e9
      have r0 : VA.cell? ⟨b, off + j * 11, none⟩ = some (.int .i64 p) := (hc _ _ bV).trans d0
      have r1 : VA.cell? ⟨b, off + j * 11 + 1, none⟩ = some (.int .i64 s) := (hc _ _ bV).trans d1
      have r2 : VA.cell? ⟨b, off + j * 11 + 2, none⟩ = some (.int .i64 k) := (hc _ _ bV).trans d2
      have r3 : VA.cell? ⟨b, off + j * 11 + 3, none⟩ = some (.int .i64 n) := (hc _ _ bV).trans d3
      have r4 : VA.cell? ⟨b, off + j * 11 + 4, none⟩ = some (.slice a m c) := (hc _ _ bV).trans d4
      have r5 : VA.cell? ⟨b, off + j * 11 + 5, none⟩ = some (.int .i64 t) := (hc _ _ bV).trans d5
      have r6 : VA.cell? ⟨b, off + j * 11 + 6, none⟩ = some (.int .i64 wd) := (hc _ _ bV).trans d6
      have r7 : VA.cell? ⟨b, off + j * 11 + 7, none⟩ = some (.int .i64 h) := (hc _ _ bV).trans d7
      have r8 : VA.cell? ⟨b, off + j * 11 + 8, none⟩ = some (.int .i64 x) := (hc _ _ bV).trans d8
      have r9 : VA.cell? ⟨b, off + j * 11 + 9, none⟩ = some (.int .i64 y) := (hc _ _ bV).trans d9
      have r10 : VA.cell? ⟨b, off + j * 11 + 10, none⟩ = some (.slice ax nx cx) := (hc _ _ bV).trans d10
      have bX : b < VA.heap.size := hl' _ bV
      have bQ2 : Q < VA.heap.size := hl' _ bQ
      have HN2 : Hk (∀ X, Below VA.heap.size VA X → Nq X X.heap.size a2 m u) := ⟨fun X hX => (HNQ2.out _ (HV.out.trans (hX.mono HV.out.size)))⟩
      have HN3 : Hk (∀ X, Below VA.heap.size VA X → Nq X X.heap.size a m u) := ⟨fun X hX => (HNR.out _ (HV.out.trans (hX.mono HV.out.size)))⟩
      have HEQ : Hk (eqcB p s k n u t wd h x y p s k n u t wd h x y = true) := ⟨by unfold eqcB; simp⟩
      clear hc hf hl' hn' hm'
      have HYA : Hk (∀ X, Below VA.heap.size VA X → By X X.heap.size a7 L bs) := ⟨fun X hX => (HYB.out.below (HVB.out.trans (hX.mono HVB.out.size)) (Nat.le_refl _)).mono (Nat.le_trans HVB.out.size hX.size)⟩
      clear HYB
      have L0V : VA.heap.size ≤ VA.heap.size := Nat.le_refl _
      apply reg_merge
      intro HG6
      apply reg_merge
      intro HG5
      apply reg_merge
      intro HG4
      apply reg_merge
      intro HG3
      apply reg_merge
      intro HG2
      apply reg_merge
      intro HG1
      refine wp_region_held_drew (S := fun Z => (∀ b o, b < VA.heap.size → Z.cell? ⟨b, o, none⟩ = VA.cell? ⟨b, o, none⟩)) (by kernel_rfl) (fun _ _ _ => rfl) (fun hHeld => ?_)
      have HB : Hk (Below VA.heap.size VA VA.drew) := ⟨(Below.refl _ _).drew⟩
      obtain ⟨W11, hWe⟩ : ∃ W11, VA.drew = W11 := ⟨_, rfl⟩
      rw [hWe] at HB hHeld ⊢
      clear hWe
      refine wpAnyH_take (i := 0) (v := ?_) rfl (by kernel_rfl) (by kernel_rfl) (by kernel_rfl) (fun _ _ _ h => h) (Or.inl ⟨by rfl, fun wX hSw => ?_⟩) (by assumption) ?_
      rotate_left
      · (try dsimp only at hSw); go_simp; try with_reducible rfl
      (try simp only [Act.put, List.getElem_toArray, List.getElem_cons_succ, List.getElem_cons_zero, List.setIfInBounds_toArray, List.set_cons_zero, List.set_cons_succ])
      refine wpAnyH_take (i := 3) (v := ?_) rfl (by kernel_rfl) (by kernel_rfl) (by kernel_rfl) (fun _ _ _ h => h) (Or.inl ⟨by rfl, fun wX hSw => ?_⟩) (by assumption) ?_
      rotate_left
      · (try dsimp only at hSw); go_simp; try with_reducible rfl
      (try simp only [Act.put, List.getElem_toArray, List.getElem_cons_succ, List.getElem_cons_zero, List.setIfInBounds_toArray, List.set_cons_zero, List.set_cons_succ])
      refine wpAnyH_ready (rs := [1]) (by kernel_rfl) (by simp) ?_
      refine AllReadyH.cons rfl (fun K hK => ?_) (AllReadyH.nil)
      · skip
        go_simp
        (first
      | (go_at_call 20; (with_reducible refine (check22_as 0 p s k n a2 m c2 u t wd h x y _ (HN2.out _ HB.out) (by omega) HCK).mono ?_); rintro e z ⟨rfl, hb⟩)
      | (go_at_call 19; (with_reducible refine (qb23 (lawnum22_any _ _)).mono ?_); rintro e z ⟨rfl, hb⟩)
      | (go_at_call 22; (with_reducible refine (rbytes21_as p s k n a m c u t wd h x y bs L _ (HN3.out _ HB.out) (by omega) OK HBS HBL).mono ?_); rintro e z ⟨v8, rfl, ho8, hb⟩; obtain ⟨a8, c8, rfl, -, -, -⟩ := ho8.by_; have HO8 := Hk.mk (ho8.weak (kw_le HB.out L0V)); clear ho8) | (go_at_call 21; (with_reducible refine (qd23 (eqb_yes a7 a8 L c7 c8 bs _ (HYA.out _ HB.out) (own_byC HO8.out) (by omega))).mono ?_); rintro e z ⟨rfl, hb⟩)
      | (go_at_call 23; (with_reducible refine (eqc_as true p s k n a2 m c2 u t wd h x y p s k n a m c u t wd h x y _ (HN2.out _ HB.out) (by omega) (HN3.out _ HB.out) (by omega) HEQ).mono ?_); rintro e z ⟨rfl, hb⟩))
        replace HB := Hk.mk (kw_step HB.out L0V hb)
        clear hb
        refine hK.out _ _ ?_ (fun hHeld2 => ?_)
        · exact kw_s HB.out
        clear hK K hHeld
        have hHeld := hHeld2
        clear hHeld2
        (try simp only [Act.put, List.getElem_toArray, List.getElem_cons_succ, List.getElem_cons_zero, List.setIfInBounds_toArray, List.set_cons_zero, List.set_cons_succ])
        refine reg_cast (l' := #[true, true, false, true, false, false, false, false, false, false, false, false, false, false, false, false, false, false, false, false, false, false, false, false, false, false, false, false, false, false, false, false, false, false, false, false, false, false, false, false, false, false, false, false, false]) (by kernel_rfl) ?_
        revert hHeld
        revert HB
        revert z
        exact HG1.out
      intro W11 HB hHeld
      refine wpAnyH_ready (rs := [2]) (by kernel_rfl) (by simp) ?_
      refine AllReadyH.cons rfl (fun K hK => ?_) (AllReadyH.nil)
      · skip
        go_simp
        (first
      | (go_at_call 20; (with_reducible refine (check22_as 0 p s k n a2 m c2 u t wd h x y _ (HN2.out _ HB.out) (by omega) HCK).mono ?_); rintro e z ⟨rfl, hb⟩)
      | (go_at_call 19; (with_reducible refine (qb23 (lawnum22_any _ _)).mono ?_); rintro e z ⟨rfl, hb⟩)
      | (go_at_call 22; (with_reducible refine (rbytes21_as p s k n a m c u t wd h x y bs L _ (HN3.out _ HB.out) (by omega) OK HBS HBL).mono ?_); rintro e z ⟨v8, rfl, ho8, hb⟩; obtain ⟨a8, c8, rfl, -, -, -⟩ := ho8.by_; have HO8 := Hk.mk (ho8.weak (kw_le HB.out L0V)); clear ho8) | (go_at_call 21; (with_reducible refine (qd23 (eqb_yes a7 a8 L c7 c8 bs _ (HYA.out _ HB.out) (own_byC HO8.out) (by omega))).mono ?_); rintro e z ⟨rfl, hb⟩)
      | (go_at_call 23; (with_reducible refine (eqc_as true p s k n a2 m c2 u t wd h x y p s k n a m c u t wd h x y _ (HN2.out _ HB.out) (by omega) (HN3.out _ HB.out) (by omega) HEQ).mono ?_); rintro e z ⟨rfl, hb⟩))
        replace HB := Hk.mk (kw_step HB.out L0V hb)
        clear hb
        refine hK.out _ _ ?_ (fun hHeld2 => ?_)
        · exact kw_s HB.out
        clear hK K hHeld
        have hHeld := hHeld2
        clear hHeld2
        (try simp only [Act.put, List.getElem_toArray, List.getElem_cons_succ, List.getElem_cons_zero, List.setIfInBounds_toArray, List.set_cons_zero, List.set_cons_succ])
        refine wpAnyH_take (i := 4) (v := ?_) rfl (by kernel_rfl) (by kernel_rfl) (by kernel_rfl) (fun _ _ _ h => h) (Or.inl ⟨by rfl, fun wX hSw => ?_⟩) (by assumption) ?_
        rotate_left
        · (try dsimp only at hSw); go_simp; try with_reducible rfl
        (try simp only [Act.put, List.getElem_toArray, List.getElem_cons_succ, List.getElem_cons_zero, List.setIfInBounds_toArray, List.set_cons_zero, List.set_cons_succ])
        refine wpAnyH_take (i := 5) (v := ?_) rfl (by kernel_rfl) (by kernel_rfl) (by kernel_rfl) (fun _ _ _ h => h) (Or.inl ⟨by rfl, fun wX hSw => ?_⟩) (by assumption) ?_
        rotate_left
        · (try dsimp only at hSw); go_simp; try with_reducible rfl
        (try simp only [Act.put, List.getElem_toArray, List.getElem_cons_succ, List.getElem_cons_zero, List.setIfInBounds_toArray, List.set_cons_zero, List.set_cons_succ])
        refine wpAnyH_take (i := 6) (v := ?_) rfl (by kernel_rfl) (by kernel_rfl) (by kernel_rfl) (fun _ _ _ h => h) (Or.inl ⟨by rfl, fun wX hSw => ?_⟩) (by assumption) ?_
        rotate_left
        · (try dsimp only at hSw); go_simp; try with_reducible rfl
        (try simp only [Act.put, List.getElem_toArray, List.getElem_cons_succ, List.getElem_cons_zero, List.setIfInBounds_toArray, List.set_cons_zero, List.set_cons_succ])
        refine wpAnyH_take (i := 8) (v := ?_) rfl (by kernel_rfl) (by kernel_rfl) (by kernel_rfl) (fun _ _ _ h => h) (Or.inl ⟨by rfl, fun wX hSw => ?_⟩) (by assumption) ?_
        rotate_left
        · (try dsimp only at hSw); go_simp; try with_reducible rfl
        (try simp only [Act.put, List.getElem_toArray, List.getElem_cons_succ, List.getElem_cons_zero, List.setIfInBounds_toArray, List.set_cons_zero, List.set_cons_succ])
        refine reg_cast (l' := #[true, true, true, true, true, true, true, false, true, false, false, false, false, false, false, false, false, false, false, false, false, false, false, false, false, false, false, false, false, false, false, false, false, false, false, false, false, false, false, false, false, false, false, false, false]) (by kernel_rfl) ?_
        revert hHeld
        revert HB
        revert z
        exact HG2.out
      intro W11 HB hHeld
      refine wpAnyH_ready (rs := [7]) (by kernel_rfl) (by simp) ?_
      refine AllReadyH.cons rfl (fun K hK => ?_) (AllReadyH.nil)
      · skip
        go_simp
        (first
      | (go_at_call 20; (with_reducible refine (check22_as 0 p s k n a2 m c2 u t wd h x y _ (HN2.out _ HB.out) (by omega) HCK).mono ?_); rintro e z ⟨rfl, hb⟩)
      | (go_at_call 19; (with_reducible refine (qb23 (lawnum22_any _ _)).mono ?_); rintro e z ⟨rfl, hb⟩)
      | (go_at_call 22; (with_reducible refine (rbytes21_as p s k n a m c u t wd h x y bs L _ (HN3.out _ HB.out) (by omega) OK HBS HBL).mono ?_); rintro e z ⟨v8, rfl, ho8, hb⟩; obtain ⟨a8, c8, rfl, -, -, -⟩ := ho8.by_; have HO8 := Hk.mk (ho8.weak (kw_le HB.out L0V)); clear ho8) | (go_at_call 21; (with_reducible refine (qd23 (eqb_yes a7 a8 L c7 c8 bs _ (HYA.out _ HB.out) (own_byC HO8.out) (by omega))).mono ?_); rintro e z ⟨rfl, hb⟩)
      | (go_at_call 23; (with_reducible refine (eqc_as true p s k n a2 m c2 u t wd h x y p s k n a m c u t wd h x y _ (HN2.out _ HB.out) (by omega) (HN3.out _ HB.out) (by omega) HEQ).mono ?_); rintro e z ⟨rfl, hb⟩))
        replace HB := Hk.mk (kw_step HB.out L0V hb)
        clear hb
        refine hK.out _ _ ?_ (fun hHeld2 => ?_)
        · exact kw_s HB.out
        clear hK K hHeld
        have hHeld := hHeld2
        clear hHeld2
        (try simp only [Act.put, List.getElem_toArray, List.getElem_cons_succ, List.getElem_cons_zero, List.setIfInBounds_toArray, List.set_cons_zero, List.set_cons_succ])
        refine wpAnyH_take (i := 9) (v := ?_) rfl (by kernel_rfl) (by kernel_rfl) (by kernel_rfl) (fun _ _ _ h => h) (Or.inl ⟨by rfl, fun wX hSw => ?_⟩) (by assumption) ?_
        rotate_left
        · (try dsimp only at hSw); go_simp; try with_reducible rfl
        (try simp only [Act.put, List.getElem_toArray, List.getElem_cons_succ, List.getElem_cons_zero, List.setIfInBounds_toArray, List.set_cons_zero, List.set_cons_succ])
        refine wpAnyH_take (i := 10) (v := ?_) rfl (by kernel_rfl) (by kernel_rfl) (by kernel_rfl) (fun _ _ _ h => h) (Or.inl ⟨by rfl, fun wX hSw => ?_⟩) (by assumption) ?_
        rotate_left
        · (try dsimp only at hSw); go_simp; try with_reducible rfl
        (try simp only [Act.put, List.getElem_toArray, List.getElem_cons_succ, List.getElem_cons_zero, List.setIfInBounds_toArray, List.set_cons_zero, List.set_cons_succ])
        refine wpAnyH_take (i := 11) (v := ?_) rfl (by kernel_rfl) (by kernel_rfl) (by kernel_rfl) (fun _ _ _ h => h) (Or.inl ⟨by rfl, fun wX hSw => ?_⟩) (by assumption) ?_
        rotate_left
        · (try dsimp only at hSw); go_simp; try with_reducible rfl
        (try simp only [Act.put, List.getElem_toArray, List.getElem_cons_succ, List.getElem_cons_zero, List.setIfInBounds_toArray, List.set_cons_zero, List.set_cons_succ])
        refine wpAnyH_take (i := 12) (v := ?_) rfl (by kernel_rfl) (by kernel_rfl) (by kernel_rfl) (fun _ _ _ h => h) (Or.inl ⟨by rfl, fun wX hSw => ?_⟩) (by assumption) ?_
        rotate_left
        · (try dsimp only at hSw); go_simp; try with_reducible rfl
        (try simp only [Act.put, List.getElem_toArray, List.getElem_cons_succ, List.getElem_cons_zero, List.setIfInBounds_toArray, List.set_cons_zero, List.set_cons_succ])
        refine wpAnyH_take (i := 13) (v := ?_) rfl (by kernel_rfl) (by kernel_rfl) (by kernel_rfl) (fun _ _ _ h => h) (Or.inl ⟨by rfl, fun wX hSw => ?_⟩) (by assumption) ?_
        rotate_left
        · (try dsimp only at hSw); go_simp; try with_reducible rfl
        (try simp only [Act.put, List.getElem_toArray, List.getElem_cons_succ, List.getElem_cons_zero, List.setIfInBounds_toArray, List.set_cons_zero, List.set_cons_succ])
        refine wpAnyH_take (i := 14) (v := ?_) rfl (by kernel_rfl) (by kernel_rfl) (by kernel_rfl) (fun _ _ _ h => h) (Or.inl ⟨by rfl, fun wX hSw => ?_⟩) (by assumption) ?_
        rotate_left
        · (try dsimp only at hSw); go_simp; try with_reducible rfl
        (try simp only [Act.put, List.getElem_toArray, List.getElem_cons_succ, List.getElem_cons_zero, List.setIfInBounds_toArray, List.set_cons_zero, List.set_cons_succ])
        refine wpAnyH_take (i := 15) (v := undef) rfl (by kernel_rfl) (by kernel_rfl) (by kernel_rfl) (fun _ _ _ h => h) (Or.inr ⟨by rfl, rfl⟩) (by assumption) ?_
        (try simp only [Act.put, List.getElem_toArray, List.getElem_cons_succ, List.getElem_cons_zero, List.setIfInBounds_toArray, List.set_cons_zero, List.set_cons_succ])
        refine wpAnyH_take (i := 16) (v := undef) rfl (by kernel_rfl) (by kernel_rfl) (by kernel_rfl) (fun _ _ _ h => h) (Or.inr ⟨by rfl, rfl⟩) (by assumption) ?_
        (try simp only [Act.put, List.getElem_toArray, List.getElem_cons_succ, List.getElem_cons_zero, List.setIfInBounds_toArray, List.set_cons_zero, List.set_cons_succ])
        refine wpAnyH_take (i := 17) (v := undef) rfl (by kernel_rfl) (by kernel_rfl) (by kernel_rfl) (fun _ _ _ h => h) (Or.inr ⟨by rfl, rfl⟩) (by assumption) ?_
        (try simp only [Act.put, List.getElem_toArray, List.getElem_cons_succ, List.getElem_cons_zero, List.setIfInBounds_toArray, List.set_cons_zero, List.set_cons_succ])
        refine wpAnyH_take (i := 18) (v := ?_) rfl (by kernel_rfl) (by kernel_rfl) (by kernel_rfl) (fun _ _ _ h => h) (Or.inl ⟨by rfl, fun wX hSw => ?_⟩) (by assumption) ?_
        rotate_left
        · (try dsimp only at hSw); go_simp; try with_reducible rfl
        (try simp only [Act.put, List.getElem_toArray, List.getElem_cons_succ, List.getElem_cons_zero, List.setIfInBounds_toArray, List.set_cons_zero, List.set_cons_succ])
        refine wpAnyH_take (i := 19) (v := ?_) rfl (by kernel_rfl) (by kernel_rfl) (by kernel_rfl) (fun _ _ _ h => h) (Or.inl ⟨by rfl, fun wX hSw => ?_⟩) (by assumption) ?_
        rotate_left
        · (try dsimp only at hSw); go_simp; try with_reducible rfl
        (try simp only [Act.put, List.getElem_toArray, List.getElem_cons_succ, List.getElem_cons_zero, List.setIfInBounds_toArray, List.set_cons_zero, List.set_cons_succ])
        refine wpAnyH_take (i := 20) (v := ?_) rfl (by kernel_rfl) (by kernel_rfl) (by kernel_rfl) (fun _ _ _ h => h) (Or.inl ⟨by rfl, fun wX hSw => ?_⟩) (by assumption) ?_
        rotate_left
        · (try dsimp only at hSw); go_simp; try with_reducible rfl
        (try simp only [Act.put, List.getElem_toArray, List.getElem_cons_succ, List.getElem_cons_zero, List.setIfInBounds_toArray, List.set_cons_zero, List.set_cons_succ])
        refine wpAnyH_take (i := 21) (v := ?_) rfl (by kernel_rfl) (by kernel_rfl) (by kernel_rfl) (fun _ _ _ h => h) (Or.inl ⟨by rfl, fun wX hSw => ?_⟩) (by assumption) ?_
        rotate_left
        · (try dsimp only at hSw); go_simp; try with_reducible rfl
        (try simp only [Act.put, List.getElem_toArray, List.getElem_cons_succ, List.getElem_cons_zero, List.setIfInBounds_toArray, List.set_cons_zero, List.set_cons_succ])
        refine wpAnyH_take (i := 22) (v := ?_) rfl (by kernel_rfl) (by kernel_rfl) (by kernel_rfl) (fun _ _ _ h => h) (Or.inl ⟨by rfl, fun wX hSw => ?_⟩) (by assumption) ?_
        rotate_left
        · (try dsimp only at hSw); go_simp; try with_reducible rfl
        (try simp only [Act.put, List.getElem_toArray, List.getElem_cons_succ, List.getElem_cons_zero, List.setIfInBounds_toArray, List.set_cons_zero, List.set_cons_succ])
        refine wpAnyH_take (i := 23) (v := ?_) rfl (by kernel_rfl) (by kernel_rfl) (by kernel_rfl) (fun _ _ _ h => h) (Or.inl ⟨by rfl, fun wX hSw => ?_⟩) (by assumption) ?_
        rotate_left
        · (try dsimp only at hSw); go_simp; try with_reducible rfl
        (try simp only [Act.put, List.getElem_toArray, List.getElem_cons_succ, List.getElem_cons_zero, List.setIfInBounds_toArray, List.set_cons_zero, List.set_cons_succ])
        refine wpAnyH_take (i := 24) (v := ?_) rfl (by kernel_rfl) (by kernel_rfl) (by kernel_rfl) (fun _ _ _ h => h) (Or.inl ⟨by rfl, fun wX hSw => ?_⟩) (by assumption) ?_
        rotate_left
        · (try dsimp only at hSw); go_simp; try with_reducible rfl
        (try simp only [Act.put, List.getElem_toArray, List.getElem_cons_succ, List.getElem_cons_zero, List.setIfInBounds_toArray, List.set_cons_zero, List.set_cons_succ])
        refine wpAnyH_take (i := 25) (v := ?_) rfl (by kernel_rfl) (by kernel_rfl) (by kernel_rfl) (fun _ _ _ h => h) (Or.inl ⟨by rfl, fun wX hSw => ?_⟩) (by assumption) ?_
        rotate_left
        · (try dsimp only at hSw); go_simp; try with_reducible rfl
        (try simp only [Act.put, List.getElem_toArray, List.getElem_cons_succ, List.getElem_cons_zero, List.setIfInBounds_toArray, List.set_cons_zero, List.set_cons_succ])
        refine wpAnyH_take (i := 26) (v := ?_) rfl (by kernel_rfl) (by kernel_rfl) (by kernel_rfl) (fun _ _ _ h => h) (Or.inl ⟨by rfl, fun wX hSw => ?_⟩) (by assumption) ?_
        rotate_left
        · (try dsimp only at hSw); go_simp; try with_reducible rfl
        (try simp only [Act.put, List.getElem_toArray, List.getElem_cons_succ, List.getElem_cons_zero, List.setIfInBounds_toArray, List.set_cons_zero, List.set_cons_succ])
        refine wpAnyH_take (i := 27) (v := ?_) rfl (by kernel_rfl) (by kernel_rfl) (by kernel_rfl) (fun _ _ _ h => h) (Or.inl ⟨by rfl, fun wX hSw => ?_⟩) (by assumption) ?_
        rotate_left
        · (try dsimp only at hSw); go_simp; try with_reducible rfl
        (try simp only [Act.put, List.getElem_toArray, List.getElem_cons_succ, List.getElem_cons_zero, List.setIfInBounds_toArray, List.set_cons_zero, List.set_cons_succ])
        refine wpAnyH_take (i := 28) (v := ?_) rfl (by kernel_rfl) (by kernel_rfl) (by kernel_rfl) (fun _ _ _ h => h) (Or.inl ⟨by rfl, fun wX hSw => ?_⟩) (by assumption) ?_
        rotate_left
        · (try dsimp only at hSw); go_simp; try with_reducible rfl
        (try simp only [Act.put, List.getElem_toArray, List.getElem_cons_succ, List.getElem_cons_zero, List.setIfInBounds_toArray, List.set_cons_zero, List.set_cons_succ])
        refine wpAnyH_take (i := 29) (v := ?_) rfl (by kernel_rfl) (by kernel_rfl) (by kernel_rfl) (fun _ _ _ h => h) (Or.inl ⟨by rfl, fun wX hSw => ?_⟩) (by assumption) ?_
        rotate_left
        · (try dsimp only at hSw); go_simp; try with_reducible rfl
        (try simp only [Act.put, List.getElem_toArray, List.getElem_cons_succ, List.getElem_cons_zero, List.setIfInBounds_toArray, List.set_cons_zero, List.set_cons_succ])
        refine reg_cast (l' := #[true, true, true, true, true, true, true, true, true, true, true, true, true, true, true, true, true, true, true, true, true, true, true, true, true, true, true, true, true, true, false, false, false, false, false, false, false, false, false, false, false, false, false, false, false]) (by kernel_rfl) ?_
        revert hHeld
        revert HB
        revert z
        exact HG3.out
      intro W11 HB hHeld
      refine wpAnyH_ready (rs := [30]) (by kernel_rfl) (by simp) ?_
      refine AllReadyH.cons rfl (fun K hK => ?_) (AllReadyH.nil)
      · skip
        go_simp
        (first
      | (go_at_call 20; (with_reducible refine (check22_as 0 p s k n a2 m c2 u t wd h x y _ (HN2.out _ HB.out) (by omega) HCK).mono ?_); rintro e z ⟨rfl, hb⟩)
      | (go_at_call 19; (with_reducible refine (qb23 (lawnum22_any _ _)).mono ?_); rintro e z ⟨rfl, hb⟩)
      | (go_at_call 22; (with_reducible refine (rbytes21_as p s k n a m c u t wd h x y bs L _ (HN3.out _ HB.out) (by omega) OK HBS HBL).mono ?_); rintro e z ⟨v8, rfl, ho8, hb⟩; obtain ⟨a8, c8, rfl, -, -, -⟩ := ho8.by_; have HO8 := Hk.mk (ho8.weak (kw_le HB.out L0V)); clear ho8) | (go_at_call 21; (with_reducible refine (qd23 (eqb_yes a7 a8 L c7 c8 bs _ (HYA.out _ HB.out) (own_byC HO8.out) (by omega))).mono ?_); rintro e z ⟨rfl, hb⟩)
      | (go_at_call 23; (with_reducible refine (eqc_as true p s k n a2 m c2 u t wd h x y p s k n a m c u t wd h x y _ (HN2.out _ HB.out) (by omega) (HN3.out _ HB.out) (by omega) HEQ).mono ?_); rintro e z ⟨rfl, hb⟩))
        replace HB := Hk.mk (kw_step HB.out L0V hb)
        clear hb
        refine hK.out _ _ ?_ (fun hHeld2 => ?_)
        · exact kw_s HB.out
        clear hK K hHeld
        have hHeld := hHeld2
        clear hHeld2
        (try simp only [Act.put, List.getElem_toArray, List.getElem_cons_succ, List.getElem_cons_zero, List.setIfInBounds_toArray, List.set_cons_zero, List.set_cons_succ])
        refine reg_cast (l' := #[true, true, true, true, true, true, true, true, true, true, true, true, true, true, true, true, true, true, true, true, true, true, true, true, true, true, true, true, true, true, true, false, false, false, false, false, false, false, false, false, false, false, false, false, false]) (by kernel_rfl) ?_
        revert hHeld
        revert HO8
        revert HB
        revert c8
        revert a8
        revert z
        exact HG4.out
      intro W11 a8 c8 HB HO8 hHeld
      refine wpAnyH_ready (rs := [31]) (by kernel_rfl) (by simp) ?_
      refine AllReadyH.cons rfl (fun K hK => ?_) (AllReadyH.nil)
      · skip
        go_simp
        (first
      | (go_at_call 20; (with_reducible refine (check22_as 0 p s k n a2 m c2 u t wd h x y _ (HN2.out _ HB.out) (by omega) HCK).mono ?_); rintro e z ⟨rfl, hb⟩)
      | (go_at_call 19; (with_reducible refine (qb23 (lawnum22_any _ _)).mono ?_); rintro e z ⟨rfl, hb⟩)
      | (go_at_call 22; (with_reducible refine (rbytes21_as p s k n a m c u t wd h x y bs L _ (HN3.out _ HB.out) (by omega) OK HBS HBL).mono ?_); rintro e z ⟨v8, rfl, ho8, hb⟩; obtain ⟨a8, c8, rfl, -, -, -⟩ := ho8.by_; have HO8 := Hk.mk (ho8.weak (kw_le HB.out L0V)); clear ho8) | (go_at_call 21; (with_reducible refine (qd23 (eqb_yes a7 a8 L c7 c8 bs _ (HYA.out _ HB.out) (own_byC HO8.out) (by omega))).mono ?_); rintro e z ⟨rfl, hb⟩)
      | (go_at_call 23; (with_reducible refine (eqc_as true p s k n a2 m c2 u t wd h x y p s k n a m c u t wd h x y _ (HN2.out _ HB.out) (by omega) (HN3.out _ HB.out) (by omega) HEQ).mono ?_); rintro e z ⟨rfl, hb⟩))
        replace HO8 := Hk.mk (HO8.out.below hb)
        replace HB := Hk.mk (kw_step HB.out L0V hb)
        clear hb
        refine hK.out _ _ ?_ (fun hHeld2 => ?_)
        · exact kw_s HB.out
        clear hK K hHeld
        have hHeld := hHeld2
        clear hHeld2
        (try simp only [Act.put, List.getElem_toArray, List.getElem_cons_succ, List.getElem_cons_zero, List.setIfInBounds_toArray, List.set_cons_zero, List.set_cons_succ])
        refine wpAnyH_take (i := 32) (v := ?_) rfl (by kernel_rfl) (by kernel_rfl) (by kernel_rfl) (fun _ _ _ h => h) (Or.inl ⟨by rfl, fun wX hSw => ?_⟩) (by assumption) ?_
        rotate_left
        · (try dsimp only at hSw); go_simp; try with_reducible rfl
        (try simp only [Act.put, List.getElem_toArray, List.getElem_cons_succ, List.getElem_cons_zero, List.setIfInBounds_toArray, List.set_cons_zero, List.set_cons_succ])
        refine wpAnyH_take (i := 33) (v := ?_) rfl (by kernel_rfl) (by kernel_rfl) (by kernel_rfl) (fun _ _ _ h => h) (Or.inl ⟨by rfl, fun wX hSw => ?_⟩) (by assumption) ?_
        rotate_left
        · (try dsimp only at hSw); go_simp; try with_reducible rfl
        (try simp only [Act.put, List.getElem_toArray, List.getElem_cons_succ, List.getElem_cons_zero, List.setIfInBounds_toArray, List.set_cons_zero, List.set_cons_succ])
        refine wpAnyH_take (i := 34) (v := ?_) rfl (by kernel_rfl) (by kernel_rfl) (by kernel_rfl) (fun _ _ _ h => h) (Or.inl ⟨by rfl, fun wX hSw => ?_⟩) (by assumption) ?_
        rotate_left
        · (try dsimp only at hSw); go_simp; try with_reducible rfl
        (try simp only [Act.put, List.getElem_toArray, List.getElem_cons_succ, List.getElem_cons_zero, List.setIfInBounds_toArray, List.set_cons_zero, List.set_cons_succ])
        refine wpAnyH_take (i := 35) (v := ?_) rfl (by kernel_rfl) (by kernel_rfl) (by kernel_rfl) (fun _ _ _ h => h) (Or.inl ⟨by rfl, fun wX hSw => ?_⟩) (by assumption) ?_
        rotate_left
        · (try dsimp only at hSw); go_simp; try with_reducible rfl
        (try simp only [Act.put, List.getElem_toArray, List.getElem_cons_succ, List.getElem_cons_zero, List.setIfInBounds_toArray, List.set_cons_zero, List.set_cons_succ])
        refine wpAnyH_take (i := 36) (v := ?_) rfl (by kernel_rfl) (by kernel_rfl) (by kernel_rfl) (fun _ _ _ h => h) (Or.inl ⟨by rfl, fun wX hSw => ?_⟩) (by assumption) ?_
        rotate_left
        · (try dsimp only at hSw); go_simp; try with_reducible rfl
        (try simp only [Act.put, List.getElem_toArray, List.getElem_cons_succ, List.getElem_cons_zero, List.setIfInBounds_toArray, List.set_cons_zero, List.set_cons_succ])
        refine wpAnyH_take (i := 37) (v := ?_) rfl (by kernel_rfl) (by kernel_rfl) (by kernel_rfl) (fun _ _ _ h => h) (Or.inl ⟨by rfl, fun wX hSw => ?_⟩) (by assumption) ?_
        rotate_left
        · (try dsimp only at hSw); go_simp; try with_reducible rfl
        (try simp only [Act.put, List.getElem_toArray, List.getElem_cons_succ, List.getElem_cons_zero, List.setIfInBounds_toArray, List.set_cons_zero, List.set_cons_succ])
        refine wpAnyH_take (i := 38) (v := ?_) rfl (by kernel_rfl) (by kernel_rfl) (by kernel_rfl) (fun _ _ _ h => h) (Or.inl ⟨by rfl, fun wX hSw => ?_⟩) (by assumption) ?_
        rotate_left
        · (try dsimp only at hSw); go_simp; try with_reducible rfl
        (try simp only [Act.put, List.getElem_toArray, List.getElem_cons_succ, List.getElem_cons_zero, List.setIfInBounds_toArray, List.set_cons_zero, List.set_cons_succ])
        refine wpAnyH_take (i := 39) (v := ?_) rfl (by kernel_rfl) (by kernel_rfl) (by kernel_rfl) (fun _ _ _ h => h) (Or.inl ⟨by rfl, fun wX hSw => ?_⟩) (by assumption) ?_
        rotate_left
        · (try dsimp only at hSw); go_simp; try with_reducible rfl
        (try simp only [Act.put, List.getElem_toArray, List.getElem_cons_succ, List.getElem_cons_zero, List.setIfInBounds_toArray, List.set_cons_zero, List.set_cons_succ])
        refine wpAnyH_take (i := 40) (v := ?_) rfl (by kernel_rfl) (by kernel_rfl) (by kernel_rfl) (fun _ _ _ h => h) (Or.inl ⟨by rfl, fun wX hSw => ?_⟩) (by assumption) ?_
        rotate_left
        · (try dsimp only at hSw); go_simp; try with_reducible rfl
        (try simp only [Act.put, List.getElem_toArray, List.getElem_cons_succ, List.getElem_cons_zero, List.setIfInBounds_toArray, List.set_cons_zero, List.set_cons_succ])
        refine wpAnyH_take (i := 41) (v := ?_) rfl (by kernel_rfl) (by kernel_rfl) (by kernel_rfl) (fun _ _ _ h => h) (Or.inl ⟨by rfl, fun wX hSw => ?_⟩) (by assumption) ?_
        rotate_left
        · (try dsimp only at hSw); go_simp; try with_reducible rfl
        (try simp only [Act.put, List.getElem_toArray, List.getElem_cons_succ, List.getElem_cons_zero, List.setIfInBounds_toArray, List.set_cons_zero, List.set_cons_succ])
        refine reg_cast (l' := #[true, true, true, true, true, true, true, true, true, true, true, true, true, true, true, true, true, true, true, true, true, true, true, true, true, true, true, true, true, true, true, true, true, true, true, true, true, true, true, true, true, true, false, false, false]) (by kernel_rfl) ?_
        revert hHeld
        revert HO8
        revert HB
        revert c8
        revert a8
        revert z
        exact HG5.out
      intro W11 a8 c8 HB HO8 hHeld
      refine wpAnyH_ready (rs := [42]) (by kernel_rfl) (by simp) ?_
      refine AllReadyH.cons rfl (fun K hK => ?_) (AllReadyH.nil)
      · skip
        go_simp
        (first
      | (go_at_call 20; (with_reducible refine (check22_as 0 p s k n a2 m c2 u t wd h x y _ (HN2.out _ HB.out) (by omega) HCK).mono ?_); rintro e z ⟨rfl, hb⟩)
      | (go_at_call 19; (with_reducible refine (qb23 (lawnum22_any _ _)).mono ?_); rintro e z ⟨rfl, hb⟩)
      | (go_at_call 22; (with_reducible refine (rbytes21_as p s k n a m c u t wd h x y bs L _ (HN3.out _ HB.out) (by omega) OK HBS HBL).mono ?_); rintro e z ⟨v8, rfl, ho8, hb⟩; obtain ⟨a8, c8, rfl, -, -, -⟩ := ho8.by_; have HO8 := Hk.mk (ho8.weak (kw_le HB.out L0V)); clear ho8) | (go_at_call 21; (with_reducible refine (qd23 (eqb_yes a7 a8 L c7 c8 bs _ (HYA.out _ HB.out) (own_byC HO8.out) (by omega))).mono ?_); rintro e z ⟨rfl, hb⟩)
      | (go_at_call 23; (with_reducible refine (eqc_as true p s k n a2 m c2 u t wd h x y p s k n a m c u t wd h x y _ (HN2.out _ HB.out) (by omega) (HN3.out _ HB.out) (by omega) HEQ).mono ?_); rintro e z ⟨rfl, hb⟩))
        replace HO8 := Hk.mk (HO8.out.below hb)
        replace HB := Hk.mk (kw_step HB.out L0V hb)
        clear hb
        refine hK.out _ _ ?_ (fun hHeld2 => ?_)
        · exact kw_s HB.out
        clear hK K hHeld
        have hHeld := hHeld2
        clear hHeld2
        (try simp only [Act.put, List.getElem_toArray, List.getElem_cons_succ, List.getElem_cons_zero, List.setIfInBounds_toArray, List.set_cons_zero, List.set_cons_succ])
        refine wpAnyH_take (i := 43) (v := ?_) rfl (by kernel_rfl) (by kernel_rfl) (by kernel_rfl) (fun _ _ _ h => h) (Or.inl ⟨by rfl, fun wX hSw => ?_⟩) (by assumption) ?_
        rotate_left
        · (try dsimp only at hSw); go_simp; try with_reducible rfl
        (try simp only [Act.put, List.getElem_toArray, List.getElem_cons_succ, List.getElem_cons_zero, List.setIfInBounds_toArray, List.set_cons_zero, List.set_cons_succ])
        refine wpAnyH_take (i := 44) (v := ?_) rfl (by kernel_rfl) (by kernel_rfl) (by kernel_rfl) (fun _ _ _ h => h) (Or.inl ⟨by rfl, fun wX hSw => ?_⟩) (by assumption) ?_
        rotate_left
        · (try dsimp only at hSw); go_simp; try with_reducible rfl
        (try simp only [Act.put, List.getElem_toArray, List.getElem_cons_succ, List.getElem_cons_zero, List.setIfInBounds_toArray, List.set_cons_zero, List.set_cons_succ])
        refine reg_cast (l' := #[true, true, true, true, true, true, true, true, true, true, true, true, true, true, true, true, true, true, true, true, true, true, true, true, true, true, true, true, true, true, true, true, true, true, true, true, true, true, true, true, true, true, true, true, true]) (by kernel_rfl) ?_
        revert hHeld
        revert HO8
        revert HB
        revert c8
        revert a8
        revert z
        exact HG6.out
      intro W11 a8 c8 HB HO8 hHeld
      refine wpAnyH_done (by kernel_rfl) ?_ _
      go_wp2_with fail
      exact ⟨⟨j + 1, by go_num, by omega, by omega, ⟨HBQ.out.trans ((HV.out.trans (HB.out.mono HV.out.size)).mono HBQ.out.size)⟩⟩, by simp [intOf]; omega⟩
    · go_wp2_with (go_at_call 24; (with_reducible refine (wakes22_any _).mono ?_); rintro e w' ⟨rfl, hb⟩)
      all_goals
        go_ret
        exact ⟨rfl, kw_step HB.out L0 hb⟩

theorem commandBytes_own : ownKnob Try.prog.godebug = none := by kernel_rfl
theorem commandBytes_laidOut : laidOutB Try.prog = true := by kernel_rfl
set_option maxRecDepth 100000 in
theorem commandBytes_lifted (os : Os) (started : os.Started) (H : Type) (enc : TypeId × Value → H) :
    ReturnsInHanded {} Try.checked os 3 .any (Rows.commandBytesSpec.pre6 enc Try.prog Try.f3 Rows.commandBytesRow.domain false) (Rows.commandBytesSpec.post enc Try.prog Try.f3 false true false false) := by
  refine returnsInHanded_of_change (C := Try.checked) commandBytes_own started (by kernel_rfl) Try.func3
    (ChangeSpec.witness6 (enc := enc) (C := Try.checked) false ⟨#[], #[.slice none 0 0], []⟩ 8 (by kernel_rfl) (by kernel_rfl) (by kernel_rfl) (by kernel_rfl)) ?_
  intro W base args ds gs before hval0 hW hcnd _
  have hval : ∀ (j : Nat) t v, Try.f3.params[j]? = some t → args[j]? = some v → Value.okWide Try.prog W .any base t v := hval0
  have hW' := hW
  obtain ⟨p, q, hA0, hV, rfl, hfz, hnd⟩ := hW
  have hA : DataW.TrodAll enc Try.prog W 0 (fun _ => true) true Try.f3.params.toList args.toList ds p := hA0
  rw [Try.params3] at hA hval
  obtain ⟨v0, vs0, d0, ds0, p0, q0, hargs, rfl, rfl, h0, r0⟩ := trodAll_cons hA
  obtain ⟨rfl, rfl, rfl⟩ := trodAll_nil r0
  obtain rfl : args = #[v0] := by cases args; simp_all
  obtain ⟨rfl, rfl⟩ := trodVars_none hV
  obtain ⟨a0, len0, cap0, rfl⟩ := okWide_slice Try.underlying22 (hval 0 22 v0 rfl rfl)
  have k0 := h0
  have lt0 : ∀ x ∈ p0, x.block < W.heap.size := by obtain ⟨m, hm⟩ := k0; exact DataW.trod_lt m _ _ _ hm
  have rows : Asks22 W a0 len0 cap0 := by obtain ⟨fuel, hf⟩ := h0; exact asks22_of hf
  clear hA0 hval0
  refine (commandBytes_walk a0 len0 cap0 W rows).mono fun e W' ⟨he, bel⟩ => ?_
  subst he
  exact ⟨_, rfl, _, _, _, [], _, [], hW', trodAll_mk1 (shut_bool Try.underlying4 _), (trodAll_cons_mk (Below.trod commandBytes_laidOut (by kernel_rfl) (of_decide_eq_true (by kernel_rfl)) k0 bel lt0) trodAll_mk0), rfl, bel.frame _, fun h => by cases h⟩
theorem commandBytes_over : Rows.commandBytesRow.holds Try.pinned (OpenSpec.ofChange Rows.commandBytesSpec) :=
  OpenClaim.holds_of_wide 3 Try.f3 rfl rfl rfl rfl rfl rfl rfl ⟨rfl, rfl, rfl, rfl, rfl⟩ rfl rfl rfl rfl rfl (by kernel_rfl) Try.func3 (by kernel_rfl)
    (of_decide_eq_true (by kernel_rfl)) (by unfold Func.isWrapper; first | (rw [if_pos (by decide +kernel)]; kernel_rfl) | (rw [if_neg (by decide +kernel)]; exact ⟨rfl, rfl⟩))
    (fun os started H enc _ => commandBytes_lifted os started H enc)
/-- The given statement of CommandBytes. -/
theorem commandBytes_holds : Rows.CommandBytesSaid := commandBytes_over
end Go.Proofs.Ytejilcnldllhpaa

