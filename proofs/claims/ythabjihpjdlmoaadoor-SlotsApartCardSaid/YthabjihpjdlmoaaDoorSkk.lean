import Derived.Deep.QuietTactic
import Derived.BigQuiet
import Derived.Deep.RegionWith
import Derived.Deep.RegionHeld3
import Derived.Deep.DeepCutAuto
import Derived.Deep.DeepFit
import Derived.Outline
import Derived.Test.YthabjihpjdlmoaaDoorSkj
/- Layer 12: sink. -/
namespace Go.Proofs.YthabjihpjdlmoaaDoor
open Go.RowKit Go.Deep
set_option linter.unusedVariables false
set_option linter.unusedSimpArgs false
structure LeastQ (G : Nat → PrQ) (n i j L : Nat) : Prop where
  a : L = i ∨ ((L = 2 * i + 1 ∨ L = 2 * i + 2) ∧ L < n ∧ ltQ (G L) (G i) = true)
  b : 1 ≤ j → 2 * i + 1 < n → leQ (G L) (G (2 * i + 1))
  c : 2 ≤ j → 2 * i + 2 < n → leQ (G L) (G (2 * i + 2))
theorem LeastQ.le {G : Nat → PrQ} {n i j L : Nat} (h : LeastQ G n i j L) : leQ (G L) (G i) := by
  rcases h.a with e | ⟨_, _, e⟩
  · rw [e]; exact leQ_refl _
  · exact leQ_of_lt e
theorem lt_le {a b c : PrQ} (h : ltQ a b = true) (k : leQ b c) : ltQ a c = true := by rw [leQ_iff] at k; rw [ltQ_iff] at *; omega
theorem LeastQ.take1 {G : Nat → PrQ} {n i L : Nat} (h : LeastQ G n i 0 L) (hd : 2 * i + 1 < n) (hl : ltQ (G (2 * i + 1)) (G L) = true) : LeastQ G n i 1 (2 * i + 1) :=
  ⟨Or.inr ⟨Or.inl rfl, hd, lt_le hl h.le⟩, fun _ _ => leQ_refl _, fun h => by omega⟩
theorem LeastQ.keep1 {G : Nat → PrQ} {n i L : Nat} (h : LeastQ G n i 0 L) (hl : 2 * i + 1 < n → ltQ (G (2 * i + 1)) (G L) = false) : LeastQ G n i 1 L :=
  ⟨h.a, fun _ hn => hl hn, fun h => by omega⟩
theorem LeastQ.take2 {G : Nat → PrQ} {n i L : Nat} (h : LeastQ G n i 1 L) (hd : 2 * i + 2 < n) (hl : ltQ (G (2 * i + 2)) (G L) = true) : LeastQ G n i 2 (2 * i + 2) :=
  ⟨Or.inr ⟨Or.inr rfl, hd, lt_le hl h.le⟩, fun _ hn => leQ_trans (leQ_of_lt hl) (h.b (Nat.le_refl _) hn), fun _ _ => leQ_refl _⟩
theorem LeastQ.keep2 {G : Nat → PrQ} {n i L : Nat} (h : LeastQ G n i 1 L) (hl : 2 * i + 2 < n → ltQ (G (2 * i + 2)) (G L) = false) : LeastQ G n i 2 L :=
  ⟨h.a, fun _ hn => h.b (Nat.le_refl _) hn, fun _ hn => hl hn⟩
set_option maxRecDepth 1000000 in
set_option maxHeartbeats 3200000 in
theorem sink_any (base Q g n cap : Nat) (F : Nat → PrQ) (w : World) (h : Hq w base Q (some ⟨g, 0, none⟩) n cap F) (hp : DnQ F n 0) (hn : n ≤ 200000000000) :
    Calls Tryd.prog 114 #[.pointer (some ⟨Q, 0, none⟩)] w fun e w' => e = .returned (.tuple #[]) ∧ ∃ G, Hq w' base Q (some ⟨g, 0, none⟩) n cap G ∧ HpQ G n ∧ (∀ x, cntQ G x n = cntQ F x n) ∧ Fr (MQ Q (some ⟨g, 0, none⟩)) w w' := by
  have HH := Hk.mk h
  have HP0 := Hk.mk hp
  have hgQ : g ≠ Q := h.ne g rfl
  clear h hp
  go_enter Tryd.func114, Tryd.ntmps114
  go_wp2_with fail
  go_loopw [2] (fun i wr => ∃ (i' : Nat) (G : Nat → PrQ), i = .int .i64 i' ∧ i' ≤ n ∧ Hk (Hq wr base Q (some ⟨g, 0, none⟩) n cap G) ∧ Hk (DnQ G n i') ∧ Hk (∀ x, cntQ G x n = cntQ F x n) ∧ Hk (Fr (MQ Q (some ⟨g, 0, none⟩)) w wr)) (fun i _ => n - (intOf i).toNat)
  case atStart => exact ⟨0, F, rfl, Nat.zero_le _, HH, HP0, ⟨fun _ => rfl⟩, ⟨Fr.refl _ _⟩⟩
  case round =>
    obtain ⟨i, G, rfl, hin, HQ, HU, HC, HF⟩ := hrel
    have i0 : (0 : Int) ≤ (i : Int) := by omega
    have i9 : (i : Int) ≤ 200000000000 := by omega
    obtain ⟨d1, hd1⟩ : ∃ d, d = 2 * i + 1 := ⟨_, rfl⟩
    obtain ⟨d2, hd2⟩ : ∃ d, d = 2 * i + 2 := ⟨_, rfl⟩
    go_wp2_with fail
    rw [show (2 : Int) * (i : Int) + 1 = (d1 : Int) by omega, show (2 : Int) * (i : Int) + 2 = (d2 : Int) by omega]
    have HD1 := Hk.mk hd1
    have HD2 := Hk.mk hd2
    have l1 : (d1 : Int) ≤ 600000000000 := by omega
    have l2 : (d2 : Int) ≤ 600000000000 := by omega
    clear hd1 hd2
    have ix0 : ∀ (a b : Int) (w : World), (Instr.index 153 (.agg #[.int .i64 a, .int .i64 b]) (.int .i64 0)).run Tryd.prog w = .ok (.int .i64 a) w := fun _ _ _ => by kernel_rfl
    have ix1 : ∀ (a b : Int) (w : World), (Instr.index 153 (.agg #[.int .i64 a, .int .i64 b]) (.int .i64 1)).run Tryd.prog w = .ok (.int .i64 b) w := fun _ _ _ => by kernel_rfl
    obtain ⟨wo, rfl⟩ : ∃ wo : World, wo = wr := ⟨wr, rfl⟩
    go_loopw [3, 14] (fun l s wr => ∃ (j L : Nat), s = .int .i64 j ∧ j ≤ 2 ∧ l = .int .i64 L ∧ Hk (LeastQ G n i j L) ∧ Hk (Hq wr base Q (some ⟨g, 0, none⟩) n cap G) ∧ Hk (Fr (MQ Q (some ⟨g, 0, none⟩)) w wr)) (fun _ s _ => 2 - (intOf s).toNat)
    case atStart => exact ⟨0, i, rfl, by omega, rfl, ⟨⟨Or.inl rfl, fun h => by omega, fun h => by omega⟩⟩, HQ, HF⟩
    case round =>
      clear HQ HF
      obtain ⟨j, L, rfl, hj, rfl, HL, HQ, HF⟩ := hrel
      have hLi9 : L < n ∨ n ≤ i := by
        have := HD1.out; have := HD2.out
        rcases HL.out.a with e | ⟨_, e, _⟩ <;> omega
      rcases (show j = 0 ∨ j = 1 ∨ j = 2 by omega) with rfl | rfl | rfl
      · by_cases hd : d1 < n
        · skip
          obtain ⟨x, hx⟩ : ∃ x, G d1 = x := ⟨_, rfl⟩
          obtain ⟨y, hy⟩ : ∃ y, G L = y := ⟨_, rfl⟩
          obtain ⟨r, hr⟩ : ∃ r, ltQ x y = r := ⟨_, rfl⟩
          have HR := Hk.mk hr
          have HX := Hk.mk hx
          have HY := Hk.mk hy
          clear hr hx hy
          have qQ := HQ.out.cell
          have ql := HQ.out.lt
          have hgs := (HQ.out.row.lt g rfl).2
          have c1 := HQ.out.at1 (k := d1) (by have := HD1.out; have := HD2.out; omega)
          have c2 := HQ.out.at2 (k := d1) (by have := HD1.out; have := HD2.out; omega)
          rw [HX.out] at c1 c2
          have c3 := HQ.out.at1 (k := L) (by have := HD1.out; have := HD2.out; omega)
          have c4 := HQ.out.at2 (k := L) (by have := HD1.out; have := HD2.out; omega)
          rw [HY.out] at c3 c4
          have s1 : (0 : Int) ≤ (d1 : Int) := by omega
          have s2 : (d1 : Int) < (n : Int) := by omega
          have s3 : (0 : Int) ≤ (L : Int) := by omega
          have s4 : (L : Int) < (n : Int) := by have := HD1.out; have := HD2.out; omega
          go_wp2_with fail
          have L0V : wr.heap.size ≤ wr.heap.size := Nat.le_refl _
          apply reg_merge
          intro HG1
          refine wp_region_held_drew (S := fun Z => (∀ b o, b < wr.heap.size → Z.cell? ⟨b, o, none⟩ = wr.cell? ⟨b, o, none⟩)) (by kernel_rfl) (fun _ _ _ => rfl) (fun hHeld => ?_)
          have HB : Hk (Below wr.heap.size wr wr.drew) := ⟨(Below.refl _ _).drew⟩
          obtain ⟨WZ, hWe⟩ : ∃ WZ, wr.drew = WZ := ⟨_, rfl⟩
          rw [hWe] at HB hHeld ⊢
          clear hWe
          refine wpAnyH_take (i := 0) (v := ?_) rfl (by kernel_rfl) (by kernel_rfl) (by kernel_rfl) (fun _ _ _ h => h) (Or.inl ⟨by rfl, fun wX hSw => ?_⟩) (by assumption) ?_
          rotate_left
          · (try dsimp only at hSw); go_simp; try with_reducible rfl
          (try simp only [Act.put, List.getElem_toArray, List.getElem_cons_succ, List.getElem_cons_zero, List.setIfInBounds_toArray, List.set_cons_zero, List.set_cons_succ])
          refine wpAnyH_take (i := 1) (v := ?_) rfl (by kernel_rfl) (by kernel_rfl) (by kernel_rfl) (fun _ _ _ h => h) (Or.inl ⟨by rfl, fun wX hSw => ?_⟩) (by assumption) ?_
          rotate_left
          · (try dsimp only at hSw); go_simp; try with_reducible rfl
          (try simp only [Act.put, List.getElem_toArray, List.getElem_cons_succ, List.getElem_cons_zero, List.setIfInBounds_toArray, List.set_cons_zero, List.set_cons_succ])
          refine wpAnyH_take (i := 2) (v := ?_) rfl (by kernel_rfl) (by kernel_rfl) (by kernel_rfl) (fun _ _ _ h => h) (Or.inl ⟨by rfl, fun wX hSw => ?_⟩) (by assumption) ?_
          rotate_left
          · (try dsimp only at hSw); go_simp; try with_reducible rfl
          (try simp only [Act.put, List.getElem_toArray, List.getElem_cons_succ, List.getElem_cons_zero, List.setIfInBounds_toArray, List.set_cons_zero, List.set_cons_succ])
          refine wpAnyH_take (i := 3) (v := ?_) rfl (by kernel_rfl) (by kernel_rfl) (by kernel_rfl) (fun _ _ _ h => h) (Or.inl ⟨by rfl, fun wX hSw => ?_⟩) (by assumption) ?_
          rotate_left
          · (try dsimp only at hSw); go_simp; try with_reducible rfl
          (try simp only [Act.put, List.getElem_toArray, List.getElem_cons_succ, List.getElem_cons_zero, List.setIfInBounds_toArray, List.set_cons_zero, List.set_cons_succ])
          refine wpAnyH_take (i := 4) (v := ?_) rfl (by kernel_rfl) (by kernel_rfl) (by kernel_rfl) (fun _ _ _ h => h) (Or.inl ⟨by rfl, fun wX hSw => ?_⟩) (by assumption) ?_
          rotate_left
          · (try dsimp only at hSw); go_simp; try with_reducible rfl
          (try simp only [Act.put, List.getElem_toArray, List.getElem_cons_succ, List.getElem_cons_zero, List.setIfInBounds_toArray, List.set_cons_zero, List.set_cons_succ])
          refine wpAnyH_take (i := 5) (v := ?_) rfl (by kernel_rfl) (by kernel_rfl) (by kernel_rfl) (fun _ _ _ h => h) (Or.inl ⟨by rfl, fun wX hSw => ?_⟩) (by assumption) ?_
          rotate_left
          · (try dsimp only at hSw); go_simp; try with_reducible rfl
          (try simp only [Act.put, List.getElem_toArray, List.getElem_cons_succ, List.getElem_cons_zero, List.setIfInBounds_toArray, List.set_cons_zero, List.set_cons_succ])
          refine wpAnyH_take (i := 6) (v := ?_) rfl (by kernel_rfl) (by kernel_rfl) (by kernel_rfl) (fun _ _ _ h => h) (Or.inl ⟨by rfl, fun wX hSw => ?_⟩) (by assumption) ?_
          rotate_left
          · (try dsimp only at hSw); go_simp; try with_reducible rfl
          (try simp only [Act.put, List.getElem_toArray, List.getElem_cons_succ, List.getElem_cons_zero, List.setIfInBounds_toArray, List.set_cons_zero, List.set_cons_succ])
          refine wpAnyH_take (i := 7) (v := ?_) rfl (by kernel_rfl) (by kernel_rfl) (by kernel_rfl) (fun _ _ _ h => h) (Or.inl ⟨by rfl, fun wX hSw => ?_⟩) (by assumption) ?_
          rotate_left
          · (try dsimp only at hSw); go_simp; try with_reducible rfl
          (try simp only [Act.put, List.getElem_toArray, List.getElem_cons_succ, List.getElem_cons_zero, List.setIfInBounds_toArray, List.set_cons_zero, List.set_cons_succ])
          refine wpAnyH_take (i := 8) (v := ?_) rfl (by kernel_rfl) (by kernel_rfl) (by kernel_rfl) (fun _ _ _ h => h) (Or.inl ⟨by rfl, fun wX hSw => ?_⟩) (by assumption) ?_
          rotate_left
          · (try dsimp only at hSw); go_simp; try with_reducible rfl
          (try simp only [Act.put, List.getElem_toArray, List.getElem_cons_succ, List.getElem_cons_zero, List.setIfInBounds_toArray, List.set_cons_zero, List.set_cons_succ])
          refine wpAnyH_take (i := 9) (v := ?_) rfl (by kernel_rfl) (by kernel_rfl) (by kernel_rfl) (fun _ _ _ h => h) (Or.inl ⟨by rfl, fun wX hSw => ?_⟩) (by assumption) ?_
          rotate_left
          · (try dsimp only at hSw); go_simp; try with_reducible rfl
          (try simp only [Act.put, List.getElem_toArray, List.getElem_cons_succ, List.getElem_cons_zero, List.setIfInBounds_toArray, List.set_cons_zero, List.set_cons_succ])
          refine wpAnyH_take (i := 10) (v := ?_) rfl (by kernel_rfl) (by kernel_rfl) (by kernel_rfl) (fun _ _ _ h => h) (Or.inl ⟨by rfl, fun wX hSw => ?_⟩) (by assumption) ?_
          rotate_left
          · (try dsimp only at hSw); go_simp; try with_reducible rfl
          (try simp only [Act.put, List.getElem_toArray, List.getElem_cons_succ, List.getElem_cons_zero, List.setIfInBounds_toArray, List.set_cons_zero, List.set_cons_succ])
          refine wpAnyH_take (i := 11) (v := ?_) rfl (by kernel_rfl) (by kernel_rfl) (by kernel_rfl) (fun _ _ _ h => h) (Or.inl ⟨by rfl, fun wX hSw => ?_⟩) (by assumption) ?_
          rotate_left
          · (try dsimp only at hSw); go_simp; try with_reducible rfl
          (try simp only [Act.put, List.getElem_toArray, List.getElem_cons_succ, List.getElem_cons_zero, List.setIfInBounds_toArray, List.set_cons_zero, List.set_cons_succ])
          refine wpAnyH_take (i := 12) (v := ?_) rfl (by kernel_rfl) (by kernel_rfl) (by kernel_rfl) (fun _ _ _ h => h) (Or.inl ⟨by rfl, fun wX hSw => ?_⟩) (by assumption) ?_
          rotate_left
          · (try dsimp only at hSw); go_simp; try with_reducible rfl
          (try simp only [Act.put, List.getElem_toArray, List.getElem_cons_succ, List.getElem_cons_zero, List.setIfInBounds_toArray, List.set_cons_zero, List.set_cons_succ])
          refine wpAnyH_take (i := 13) (v := ?_) rfl (by kernel_rfl) (by kernel_rfl) (by kernel_rfl) (fun _ _ _ h => h) (Or.inl ⟨by rfl, fun wX hSw => ?_⟩) (by assumption) ?_
          rotate_left
          · (try dsimp only at hSw); go_simp; try with_reducible rfl
          (try simp only [Act.put, List.getElem_toArray, List.getElem_cons_succ, List.getElem_cons_zero, List.setIfInBounds_toArray, List.set_cons_zero, List.set_cons_succ])
          refine wpAnyH_take (i := 14) (v := ?_) rfl (by kernel_rfl) (by kernel_rfl) (by kernel_rfl) (fun _ _ _ h => h) (Or.inl ⟨by rfl, fun wX hSw => ?_⟩) (by assumption) ?_
          rotate_left
          · (try dsimp only at hSw); go_simp; try with_reducible rfl
          (try simp only [Act.put, List.getElem_toArray, List.getElem_cons_succ, List.getElem_cons_zero, List.setIfInBounds_toArray, List.set_cons_zero, List.set_cons_succ])
          refine wpAnyH_take (i := 15) (v := ?_) rfl (by kernel_rfl) (by kernel_rfl) (by kernel_rfl) (fun _ _ _ h => h) (Or.inl ⟨by rfl, fun wX hSw => ?_⟩) (by assumption) ?_
          rotate_left
          · (try dsimp only at hSw); go_simp; try with_reducible rfl
          (try simp only [Act.put, List.getElem_toArray, List.getElem_cons_succ, List.getElem_cons_zero, List.setIfInBounds_toArray, List.set_cons_zero, List.set_cons_succ])
          refine wpAnyH_take (i := 16) (v := ?_) rfl (by kernel_rfl) (by kernel_rfl) (by kernel_rfl) (fun _ _ _ h => h) (Or.inl ⟨by rfl, fun wX hSw => ?_⟩) (by assumption) ?_
          rotate_left
          · (try dsimp only at hSw); go_simp; try with_reducible rfl
          (try simp only [Act.put, List.getElem_toArray, List.getElem_cons_succ, List.getElem_cons_zero, List.setIfInBounds_toArray, List.set_cons_zero, List.set_cons_succ])
          refine wpAnyH_take (i := 17) (v := ?_) rfl (by kernel_rfl) (by kernel_rfl) (by kernel_rfl) (fun _ _ _ h => h) (Or.inl ⟨by rfl, fun wX hSw => ?_⟩) (by assumption) ?_
          rotate_left
          · (try dsimp only at hSw); go_simp; try with_reducible rfl
          (try simp only [Act.put, List.getElem_toArray, List.getElem_cons_succ, List.getElem_cons_zero, List.setIfInBounds_toArray, List.set_cons_zero, List.set_cons_succ])
          refine wpAnyH_take (i := 18) (v := ?_) rfl (by kernel_rfl) (by kernel_rfl) (by kernel_rfl) (fun _ _ _ h => h) (Or.inl ⟨by rfl, fun wX hSw => ?_⟩) (by assumption) ?_
          rotate_left
          · (try dsimp only at hSw); go_simp; try with_reducible rfl
          (try simp only [Act.put, List.getElem_toArray, List.getElem_cons_succ, List.getElem_cons_zero, List.setIfInBounds_toArray, List.set_cons_zero, List.set_cons_succ])
          refine wpAnyH_take (i := 19) (v := ?_) rfl (by kernel_rfl) (by kernel_rfl) (by kernel_rfl) (fun _ _ _ h => h) (Or.inl ⟨by rfl, fun wX hSw => ?_⟩) (by assumption) ?_
          rotate_left
          · (try dsimp only at hSw); go_simp; try with_reducible rfl
          (try simp only [Act.put, List.getElem_toArray, List.getElem_cons_succ, List.getElem_cons_zero, List.setIfInBounds_toArray, List.set_cons_zero, List.set_cons_succ])
          refine wpAnyH_take (i := 20) (v := ?_) rfl (by kernel_rfl) (by kernel_rfl) (by kernel_rfl) (fun _ _ _ h => h) (Or.inl ⟨by rfl, fun wX hSw => ?_⟩) (by assumption) ?_
          rotate_left
          · (try dsimp only at hSw); go_simp; try with_reducible rfl
          (try simp only [Act.put, List.getElem_toArray, List.getElem_cons_succ, List.getElem_cons_zero, List.setIfInBounds_toArray, List.set_cons_zero, List.set_cons_succ])
          refine wpAnyH_take (i := 21) (v := ?_) rfl (by kernel_rfl) (by kernel_rfl) (by kernel_rfl) (fun _ _ _ h => h) (Or.inl ⟨by rfl, fun wX hSw => ?_⟩) (by assumption) ?_
          rotate_left
          · (try dsimp only at hSw); go_simp; try with_reducible rfl
          (try simp only [Act.put, List.getElem_toArray, List.getElem_cons_succ, List.getElem_cons_zero, List.setIfInBounds_toArray, List.set_cons_zero, List.set_cons_succ])
          refine wpAnyH_ready (rs := [22]) (by kernel_rfl) (by simp) ?_
          refine AllReadyH.cons rfl (fun K hK => ?_) (AllReadyH.nil)
          · skip
            go_simp
            ((go_at_call 113; (with_reducible refine (before_as r x y _ HR).mono ?_); rintro e z ⟨rfl, hb⟩))
            replace HB := Hk.mk (kw_step HB.out L0V hb)
            clear hb
            refine hK.out _ _ ?_ (fun hHeld2 => ?_)
            · exact kw_s HB.out
            clear hK K hHeld
            have hHeld := hHeld2
            clear hHeld2
            (try simp only [Act.put, List.getElem_toArray, List.getElem_cons_succ, List.getElem_cons_zero, List.setIfInBounds_toArray, List.set_cons_zero, List.set_cons_succ])
            refine wpAnyH_take (i := 23) (v := ?_) rfl (by kernel_rfl) (by kernel_rfl) (by kernel_rfl) (fun _ _ _ h => h) (Or.inl ⟨by rfl, fun wX hSw => ?_⟩) (by assumption) ?_
            rotate_left
            · (try dsimp only at hSw); go_simp; try with_reducible rfl
            (try simp only [Act.put, List.getElem_toArray, List.getElem_cons_succ, List.getElem_cons_zero, List.setIfInBounds_toArray, List.set_cons_zero, List.set_cons_succ])
            refine reg_cast (l' := #[true, true, true, true, true, true, true, true, true, true, true, true, true, true, true, true, true, true, true, true, true, true, true, true]) (by kernel_rfl) ?_
            revert hHeld
            revert HB
            revert z
            exact HG1.out
          intro WZ HB hHeld
          refine wpAnyH_done (by kernel_rfl) ?_ _
          have HQ2 := Hk.mk (HQ.out.later HB.out)
          have HF2 := Hk.mk (HF.out.trans (Fr.of_all HB.out))
          clear hHeld qQ ql hgs c1 c2 c3 c4 HQ HF HB L0V
          cases r
          case true =>
            have HL2 : Hk (LeastQ G n i 1 d1) := ⟨by have hd1 := HD1.out; rw [hd1]; exact HL.out.take1 (by omega) (by rw [← hd1, HX.out, HY.out]; exact HR.out)⟩
            clear HL
            go_wp2_with fail
            first
            | exact ⟨⟨1, d1, by first | rfl | go_num, by omega, by first | rfl | go_num, HL2, HQ2, HF2⟩, by simp [intOf]⟩
            | (go_roundw; (case rel => exact ⟨1, d1, by first | rfl | go_num, by omega, by first | rfl | go_num, HL2, HQ2, HF2⟩); (case measure => simp [intOf]))
          case false =>
            have HL2 : Hk (LeastQ G n i 1 L) := ⟨HL.out.keep1 (fun _ => by rw [← HD1.out, HX.out, HY.out]; exact HR.out)⟩
            clear HL
            go_wp2_with fail
            first
            | exact ⟨⟨1, L, by first | rfl | go_num, by omega, by first | rfl | go_num, HL2, HQ2, HF2⟩, by simp [intOf]⟩
            | (go_roundw; (case rel => exact ⟨1, L, by first | rfl | go_num, by omega, by first | rfl | go_num, HL2, HQ2, HF2⟩); (case measure => simp [intOf]))
        · have qQ := HQ.out.cell
          have dn : decide ((d1 : Int) < (n : Int)) = false := by simp; omega
          have HL2 : Hk (LeastQ G n i 1 L) := ⟨HL.out.keep1 (fun h => by have := HD1.out; omega)⟩
          clear HL
          go_wp2_with fail
          go_quiet (fail)
          go_wp2
          first
          | exact ⟨⟨1, L, by first | rfl | go_num, by omega, by first | rfl | go_num, HL2, ⟨HQ.out.drewN _⟩, ⟨HF.out.drewN _⟩⟩, by simp [intOf]⟩
          | (go_roundw; (case rel => exact ⟨1, L, by first | rfl | go_num, by omega, by first | rfl | go_num, HL2, ⟨HQ.out.drewN _⟩, ⟨HF.out.drewN _⟩⟩); (case measure => simp [intOf]))
      · by_cases hd : d2 < n
        · skip
          obtain ⟨x, hx⟩ : ∃ x, G d2 = x := ⟨_, rfl⟩
          obtain ⟨y, hy⟩ : ∃ y, G L = y := ⟨_, rfl⟩
          obtain ⟨r, hr⟩ : ∃ r, ltQ x y = r := ⟨_, rfl⟩
          have HR := Hk.mk hr
          have HX := Hk.mk hx
          have HY := Hk.mk hy
          clear hr hx hy
          have qQ := HQ.out.cell
          have ql := HQ.out.lt
          have hgs := (HQ.out.row.lt g rfl).2
          have c1 := HQ.out.at1 (k := d2) (by have := HD1.out; have := HD2.out; omega)
          have c2 := HQ.out.at2 (k := d2) (by have := HD1.out; have := HD2.out; omega)
          rw [HX.out] at c1 c2
          have c3 := HQ.out.at1 (k := L) (by have := HD1.out; have := HD2.out; omega)
          have c4 := HQ.out.at2 (k := L) (by have := HD1.out; have := HD2.out; omega)
          rw [HY.out] at c3 c4
          have s1 : (0 : Int) ≤ (d2 : Int) := by omega
          have s2 : (d2 : Int) < (n : Int) := by omega
          have s3 : (0 : Int) ≤ (L : Int) := by omega
          have s4 : (L : Int) < (n : Int) := by have := HD1.out; have := HD2.out; omega
          go_wp2_with fail
          have L0V : wr.heap.size ≤ wr.heap.size := Nat.le_refl _
          apply reg_merge
          intro HG1
          refine wp_region_held_drew (S := fun Z => (∀ b o, b < wr.heap.size → Z.cell? ⟨b, o, none⟩ = wr.cell? ⟨b, o, none⟩)) (by kernel_rfl) (fun _ _ _ => rfl) (fun hHeld => ?_)
          have HB : Hk (Below wr.heap.size wr wr.drew) := ⟨(Below.refl _ _).drew⟩
          obtain ⟨WZ, hWe⟩ : ∃ WZ, wr.drew = WZ := ⟨_, rfl⟩
          rw [hWe] at HB hHeld ⊢
          clear hWe
          refine wpAnyH_take (i := 0) (v := ?_) rfl (by kernel_rfl) (by kernel_rfl) (by kernel_rfl) (fun _ _ _ h => h) (Or.inl ⟨by rfl, fun wX hSw => ?_⟩) (by assumption) ?_
          rotate_left
          · (try dsimp only at hSw); go_simp; try with_reducible rfl
          (try simp only [Act.put, List.getElem_toArray, List.getElem_cons_succ, List.getElem_cons_zero, List.setIfInBounds_toArray, List.set_cons_zero, List.set_cons_succ])
          refine wpAnyH_take (i := 1) (v := ?_) rfl (by kernel_rfl) (by kernel_rfl) (by kernel_rfl) (fun _ _ _ h => h) (Or.inl ⟨by rfl, fun wX hSw => ?_⟩) (by assumption) ?_
          rotate_left
          · (try dsimp only at hSw); go_simp; try with_reducible rfl
          (try simp only [Act.put, List.getElem_toArray, List.getElem_cons_succ, List.getElem_cons_zero, List.setIfInBounds_toArray, List.set_cons_zero, List.set_cons_succ])
          refine wpAnyH_take (i := 2) (v := ?_) rfl (by kernel_rfl) (by kernel_rfl) (by kernel_rfl) (fun _ _ _ h => h) (Or.inl ⟨by rfl, fun wX hSw => ?_⟩) (by assumption) ?_
          rotate_left
          · (try dsimp only at hSw); go_simp; try with_reducible rfl
          (try simp only [Act.put, List.getElem_toArray, List.getElem_cons_succ, List.getElem_cons_zero, List.setIfInBounds_toArray, List.set_cons_zero, List.set_cons_succ])
          refine wpAnyH_take (i := 3) (v := ?_) rfl (by kernel_rfl) (by kernel_rfl) (by kernel_rfl) (fun _ _ _ h => h) (Or.inl ⟨by rfl, fun wX hSw => ?_⟩) (by assumption) ?_
          rotate_left
          · (try dsimp only at hSw); go_simp; try with_reducible rfl
          (try simp only [Act.put, List.getElem_toArray, List.getElem_cons_succ, List.getElem_cons_zero, List.setIfInBounds_toArray, List.set_cons_zero, List.set_cons_succ])
          refine wpAnyH_take (i := 4) (v := ?_) rfl (by kernel_rfl) (by kernel_rfl) (by kernel_rfl) (fun _ _ _ h => h) (Or.inl ⟨by rfl, fun wX hSw => ?_⟩) (by assumption) ?_
          rotate_left
          · (try dsimp only at hSw); go_simp; try with_reducible rfl
          (try simp only [Act.put, List.getElem_toArray, List.getElem_cons_succ, List.getElem_cons_zero, List.setIfInBounds_toArray, List.set_cons_zero, List.set_cons_succ])
          refine wpAnyH_take (i := 5) (v := ?_) rfl (by kernel_rfl) (by kernel_rfl) (by kernel_rfl) (fun _ _ _ h => h) (Or.inl ⟨by rfl, fun wX hSw => ?_⟩) (by assumption) ?_
          rotate_left
          · (try dsimp only at hSw); go_simp; try with_reducible rfl
          (try simp only [Act.put, List.getElem_toArray, List.getElem_cons_succ, List.getElem_cons_zero, List.setIfInBounds_toArray, List.set_cons_zero, List.set_cons_succ])
          refine wpAnyH_take (i := 6) (v := ?_) rfl (by kernel_rfl) (by kernel_rfl) (by kernel_rfl) (fun _ _ _ h => h) (Or.inl ⟨by rfl, fun wX hSw => ?_⟩) (by assumption) ?_
          rotate_left
          · (try dsimp only at hSw); go_simp; try with_reducible rfl
          (try simp only [Act.put, List.getElem_toArray, List.getElem_cons_succ, List.getElem_cons_zero, List.setIfInBounds_toArray, List.set_cons_zero, List.set_cons_succ])
          refine wpAnyH_take (i := 7) (v := ?_) rfl (by kernel_rfl) (by kernel_rfl) (by kernel_rfl) (fun _ _ _ h => h) (Or.inl ⟨by rfl, fun wX hSw => ?_⟩) (by assumption) ?_
          rotate_left
          · (try dsimp only at hSw); go_simp; try with_reducible rfl
          (try simp only [Act.put, List.getElem_toArray, List.getElem_cons_succ, List.getElem_cons_zero, List.setIfInBounds_toArray, List.set_cons_zero, List.set_cons_succ])
          refine wpAnyH_take (i := 8) (v := ?_) rfl (by kernel_rfl) (by kernel_rfl) (by kernel_rfl) (fun _ _ _ h => h) (Or.inl ⟨by rfl, fun wX hSw => ?_⟩) (by assumption) ?_
          rotate_left
          · (try dsimp only at hSw); go_simp; try with_reducible rfl
          (try simp only [Act.put, List.getElem_toArray, List.getElem_cons_succ, List.getElem_cons_zero, List.setIfInBounds_toArray, List.set_cons_zero, List.set_cons_succ])
          refine wpAnyH_take (i := 9) (v := ?_) rfl (by kernel_rfl) (by kernel_rfl) (by kernel_rfl) (fun _ _ _ h => h) (Or.inl ⟨by rfl, fun wX hSw => ?_⟩) (by assumption) ?_
          rotate_left
          · (try dsimp only at hSw); go_simp; try with_reducible rfl
          (try simp only [Act.put, List.getElem_toArray, List.getElem_cons_succ, List.getElem_cons_zero, List.setIfInBounds_toArray, List.set_cons_zero, List.set_cons_succ])
          refine wpAnyH_take (i := 10) (v := ?_) rfl (by kernel_rfl) (by kernel_rfl) (by kernel_rfl) (fun _ _ _ h => h) (Or.inl ⟨by rfl, fun wX hSw => ?_⟩) (by assumption) ?_
          rotate_left
          · (try dsimp only at hSw); go_simp; try with_reducible rfl
          (try simp only [Act.put, List.getElem_toArray, List.getElem_cons_succ, List.getElem_cons_zero, List.setIfInBounds_toArray, List.set_cons_zero, List.set_cons_succ])
          refine wpAnyH_take (i := 11) (v := ?_) rfl (by kernel_rfl) (by kernel_rfl) (by kernel_rfl) (fun _ _ _ h => h) (Or.inl ⟨by rfl, fun wX hSw => ?_⟩) (by assumption) ?_
          rotate_left
          · (try dsimp only at hSw); go_simp; try with_reducible rfl
          (try simp only [Act.put, List.getElem_toArray, List.getElem_cons_succ, List.getElem_cons_zero, List.setIfInBounds_toArray, List.set_cons_zero, List.set_cons_succ])
          refine wpAnyH_take (i := 12) (v := ?_) rfl (by kernel_rfl) (by kernel_rfl) (by kernel_rfl) (fun _ _ _ h => h) (Or.inl ⟨by rfl, fun wX hSw => ?_⟩) (by assumption) ?_
          rotate_left
          · (try dsimp only at hSw); go_simp; try with_reducible rfl
          (try simp only [Act.put, List.getElem_toArray, List.getElem_cons_succ, List.getElem_cons_zero, List.setIfInBounds_toArray, List.set_cons_zero, List.set_cons_succ])
          refine wpAnyH_take (i := 13) (v := ?_) rfl (by kernel_rfl) (by kernel_rfl) (by kernel_rfl) (fun _ _ _ h => h) (Or.inl ⟨by rfl, fun wX hSw => ?_⟩) (by assumption) ?_
          rotate_left
          · (try dsimp only at hSw); go_simp; try with_reducible rfl
          (try simp only [Act.put, List.getElem_toArray, List.getElem_cons_succ, List.getElem_cons_zero, List.setIfInBounds_toArray, List.set_cons_zero, List.set_cons_succ])
          refine wpAnyH_take (i := 14) (v := ?_) rfl (by kernel_rfl) (by kernel_rfl) (by kernel_rfl) (fun _ _ _ h => h) (Or.inl ⟨by rfl, fun wX hSw => ?_⟩) (by assumption) ?_
          rotate_left
          · (try dsimp only at hSw); go_simp; try with_reducible rfl
          (try simp only [Act.put, List.getElem_toArray, List.getElem_cons_succ, List.getElem_cons_zero, List.setIfInBounds_toArray, List.set_cons_zero, List.set_cons_succ])
          refine wpAnyH_take (i := 15) (v := ?_) rfl (by kernel_rfl) (by kernel_rfl) (by kernel_rfl) (fun _ _ _ h => h) (Or.inl ⟨by rfl, fun wX hSw => ?_⟩) (by assumption) ?_
          rotate_left
          · (try dsimp only at hSw); go_simp; try with_reducible rfl
          (try simp only [Act.put, List.getElem_toArray, List.getElem_cons_succ, List.getElem_cons_zero, List.setIfInBounds_toArray, List.set_cons_zero, List.set_cons_succ])
          refine wpAnyH_take (i := 16) (v := ?_) rfl (by kernel_rfl) (by kernel_rfl) (by kernel_rfl) (fun _ _ _ h => h) (Or.inl ⟨by rfl, fun wX hSw => ?_⟩) (by assumption) ?_
          rotate_left
          · (try dsimp only at hSw); go_simp; try with_reducible rfl
          (try simp only [Act.put, List.getElem_toArray, List.getElem_cons_succ, List.getElem_cons_zero, List.setIfInBounds_toArray, List.set_cons_zero, List.set_cons_succ])
          refine wpAnyH_take (i := 17) (v := ?_) rfl (by kernel_rfl) (by kernel_rfl) (by kernel_rfl) (fun _ _ _ h => h) (Or.inl ⟨by rfl, fun wX hSw => ?_⟩) (by assumption) ?_
          rotate_left
          · (try dsimp only at hSw); go_simp; try with_reducible rfl
          (try simp only [Act.put, List.getElem_toArray, List.getElem_cons_succ, List.getElem_cons_zero, List.setIfInBounds_toArray, List.set_cons_zero, List.set_cons_succ])
          refine wpAnyH_take (i := 18) (v := ?_) rfl (by kernel_rfl) (by kernel_rfl) (by kernel_rfl) (fun _ _ _ h => h) (Or.inl ⟨by rfl, fun wX hSw => ?_⟩) (by assumption) ?_
          rotate_left
          · (try dsimp only at hSw); go_simp; try with_reducible rfl
          (try simp only [Act.put, List.getElem_toArray, List.getElem_cons_succ, List.getElem_cons_zero, List.setIfInBounds_toArray, List.set_cons_zero, List.set_cons_succ])
          refine wpAnyH_take (i := 19) (v := ?_) rfl (by kernel_rfl) (by kernel_rfl) (by kernel_rfl) (fun _ _ _ h => h) (Or.inl ⟨by rfl, fun wX hSw => ?_⟩) (by assumption) ?_
          rotate_left
          · (try dsimp only at hSw); go_simp; try with_reducible rfl
          (try simp only [Act.put, List.getElem_toArray, List.getElem_cons_succ, List.getElem_cons_zero, List.setIfInBounds_toArray, List.set_cons_zero, List.set_cons_succ])
          refine wpAnyH_take (i := 20) (v := ?_) rfl (by kernel_rfl) (by kernel_rfl) (by kernel_rfl) (fun _ _ _ h => h) (Or.inl ⟨by rfl, fun wX hSw => ?_⟩) (by assumption) ?_
          rotate_left
          · (try dsimp only at hSw); go_simp; try with_reducible rfl
          (try simp only [Act.put, List.getElem_toArray, List.getElem_cons_succ, List.getElem_cons_zero, List.setIfInBounds_toArray, List.set_cons_zero, List.set_cons_succ])
          refine wpAnyH_take (i := 21) (v := ?_) rfl (by kernel_rfl) (by kernel_rfl) (by kernel_rfl) (fun _ _ _ h => h) (Or.inl ⟨by rfl, fun wX hSw => ?_⟩) (by assumption) ?_
          rotate_left
          · (try dsimp only at hSw); go_simp; try with_reducible rfl
          (try simp only [Act.put, List.getElem_toArray, List.getElem_cons_succ, List.getElem_cons_zero, List.setIfInBounds_toArray, List.set_cons_zero, List.set_cons_succ])
          refine wpAnyH_ready (rs := [22]) (by kernel_rfl) (by simp) ?_
          refine AllReadyH.cons rfl (fun K hK => ?_) (AllReadyH.nil)
          · skip
            go_simp
            ((go_at_call 113; (with_reducible refine (before_as r x y _ HR).mono ?_); rintro e z ⟨rfl, hb⟩))
            replace HB := Hk.mk (kw_step HB.out L0V hb)
            clear hb
            refine hK.out _ _ ?_ (fun hHeld2 => ?_)
            · exact kw_s HB.out
            clear hK K hHeld
            have hHeld := hHeld2
            clear hHeld2
            (try simp only [Act.put, List.getElem_toArray, List.getElem_cons_succ, List.getElem_cons_zero, List.setIfInBounds_toArray, List.set_cons_zero, List.set_cons_succ])
            refine wpAnyH_take (i := 23) (v := ?_) rfl (by kernel_rfl) (by kernel_rfl) (by kernel_rfl) (fun _ _ _ h => h) (Or.inl ⟨by rfl, fun wX hSw => ?_⟩) (by assumption) ?_
            rotate_left
            · (try dsimp only at hSw); go_simp; try with_reducible rfl
            (try simp only [Act.put, List.getElem_toArray, List.getElem_cons_succ, List.getElem_cons_zero, List.setIfInBounds_toArray, List.set_cons_zero, List.set_cons_succ])
            refine reg_cast (l' := #[true, true, true, true, true, true, true, true, true, true, true, true, true, true, true, true, true, true, true, true, true, true, true, true]) (by kernel_rfl) ?_
            revert hHeld
            revert HB
            revert z
            exact HG1.out
          intro WZ HB hHeld
          refine wpAnyH_done (by kernel_rfl) ?_ _
          have HQ2 := Hk.mk (HQ.out.later HB.out)
          have HF2 := Hk.mk (HF.out.trans (Fr.of_all HB.out))
          clear hHeld qQ ql hgs c1 c2 c3 c4 HQ HF HB L0V
          cases r
          case true =>
            have HL2 : Hk (LeastQ G n i 2 d2) := ⟨by have hd2 := HD2.out; rw [hd2]; exact HL.out.take2 (by omega) (by rw [← HD2.out, HX.out, HY.out]; exact HR.out)⟩
            clear HL
            go_wp2_with fail
            first
            | exact ⟨⟨2, d2, by first | rfl | go_num, by omega, by first | rfl | go_num, HL2, HQ2, HF2⟩, by simp [intOf]⟩
            | (go_roundw; (case rel => exact ⟨2, d2, by first | rfl | go_num, by omega, by first | rfl | go_num, HL2, HQ2, HF2⟩); (case measure => simp [intOf]))
          case false =>
            have HL2 : Hk (LeastQ G n i 2 L) := ⟨HL.out.keep2 (fun _ => by rw [← HD2.out, HX.out, HY.out]; exact HR.out)⟩
            clear HL
            go_wp2_with fail
            first
            | exact ⟨⟨2, L, by first | rfl | go_num, by omega, by first | rfl | go_num, HL2, HQ2, HF2⟩, by simp [intOf]⟩
            | (go_roundw; (case rel => exact ⟨2, L, by first | rfl | go_num, by omega, by first | rfl | go_num, HL2, HQ2, HF2⟩); (case measure => simp [intOf]))
        · have qQ := HQ.out.cell
          have dn : decide ((d2 : Int) < (n : Int)) = false := by simp; omega
          have HL2 : Hk (LeastQ G n i 2 L) := ⟨HL.out.keep2 (fun h => by have := HD2.out; omega)⟩
          clear HL
          go_wp2_with fail
          go_quiet (fail)
          go_wp2
          first
          | exact ⟨⟨2, L, by first | rfl | go_num, by omega, by first | rfl | go_num, HL2, ⟨HQ.out.drewN _⟩, ⟨HF.out.drewN _⟩⟩, by simp [intOf]⟩
          | (go_roundw; (case rel => exact ⟨2, L, by first | rfl | go_num, by omega, by first | rfl | go_num, HL2, ⟨HQ.out.drewN _⟩, ⟨HF.out.drewN _⟩⟩); (case measure => simp [intOf]))
      · by_cases hLi : L = i
        · subst hLi
          have HS := Hk.mk (HU.out.stop (fun h => HL.out.b (by omega) h) (fun h => HL.out.c (by omega) h))
          clear HL HU
          go_wp2_with fail
          refine bodyPost_ret (results_none rfl _ _ _) rfl ?_
          exact ⟨rfl, G, HQ.out, HS.out, HC.out, HF.out⟩
        · obtain ⟨hc9, hLn, hlt⟩ : (L = 2 * i + 1 ∨ L = 2 * i + 2) ∧ L < n ∧ ltQ (G L) (G i) = true := by
            rcases HL.out.a with e | e
            · exact absurd e hLi
            · exact e
          have HS := Hk.mk (HU.out.go hc9 hLn hlt (fun h => HL.out.b (by omega) h) (fun h => HL.out.c (by omega) h))
          have dL : ((L : Int) == (i : Int)) = false := by simpa using fun e : (L : Int) = (i : Int) => hLi (by omega)
          have hiL : i < L := by omega
          clear HL HU hlt
          obtain ⟨x, hx⟩ : ∃ x, G i = x := ⟨_, rfl⟩
          obtain ⟨y, hy⟩ : ∃ y, G L = y := ⟨_, rfl⟩
          have HX := Hk.mk hx
          have HY := Hk.mk hy
          clear hx hy
          have qQ := HQ.out.cell
          have c1 := HQ.out.at1 (k := i) (by have := HD1.out; have := HD2.out; omega)
          have c2 := HQ.out.at2 (k := i) (by have := HD1.out; have := HD2.out; omega)
          rw [HX.out] at c1 c2
          have c3 := HQ.out.at1 (k := L) (by have := HD1.out; have := HD2.out; omega)
          have c4 := HQ.out.at2 (k := L) (by have := HD1.out; have := HD2.out; omega)
          rw [HY.out] at c3 c4
          have f1 := HQ.out.fzr (i * 2)
          have f2 := HQ.out.fzr (i * 2 + 1)
          have f3 := HQ.out.fzr (L * 2)
          have f4 := HQ.out.fzr (L * 2 + 1)
          have s2 : (i : Int) < (n : Int) := by omega
          have s3 : (0 : Int) ≤ (L : Int) := by omega
          have s4 : (L : Int) < (n : Int) := by omega
          have HQ3 : Hk (Hq ((((wr.setCell ⟨g, i * 2, none⟩ (.int .i64 y.1)).setCell ⟨g, i * 2 + 1, none⟩ (.int .i64 y.2)).setCell ⟨g, L * 2, none⟩ (.int .i64 x.1)).setCell ⟨g, L * 2 + 1, none⟩ (.int .i64 x.2)) base Q (some ⟨g, 0, none⟩) n cap (swpQ G i L)) := ⟨by
            have := (HQ.out.put (k := i) (by omega) y).put (k := L) (by omega) x
            unfold swpQ
            rw [HX.out, HY.out]
            exact this⟩
          have hM : ∀ j, j = g → MQ Q (some ⟨g, 0, none⟩) j := fun j e => Or.inr ⟨_, rfl, e.symm⟩
          have HF3 : Hk (Fr (MQ Q (some ⟨g, 0, none⟩)) w ((((wr.setCell ⟨g, i * 2, none⟩ (.int .i64 y.1)).setCell ⟨g, i * 2 + 1, none⟩ (.int .i64 y.2)).setCell ⟨g, L * 2, none⟩ (.int .i64 x.1)).setCell ⟨g, L * 2 + 1, none⟩ (.int .i64 x.2))) :=
            ⟨(((HF.out.setCell (p := ⟨g, i * 2, none⟩) (fun h => hM _ rfl) _).setCell (p := ⟨g, i * 2 + 1, none⟩) (fun h => hM _ rfl) _).setCell (p := ⟨g, L * 2, none⟩) (fun h => hM _ rfl) _).setCell (p := ⟨g, L * 2 + 1, none⟩) (fun h => hM _ rfl) _⟩
          have HC3 : Hk (∀ x, cntQ (swpQ G i L) x n = cntQ F x n) := ⟨fun x => by rw [cntQ_swp G x (by omega) (by omega)]; exact HC.out x⟩
          clear HC HQ HF hM
          go_wp2_with fail
          go_region
          clear qQ c1 c2 c3 c4 f1 f2 f3 f4
          go_wp2_with fail
          go_roundw
          case rel =>
            first
              | exact ⟨L, swpQ G i L, by go_num, by omega, HQ3, HS, HC3, HF3⟩
              | exact ⟨L, swpQ G i L, by go_num, by omega, ⟨HQ3.out.drewN _⟩, HS, HC3, ⟨HF3.out.drewN _⟩⟩
          case measure => simp [intOf]; omega
end Go.Proofs.YthabjihpjdlmoaaDoor
