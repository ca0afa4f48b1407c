import Derived.Deep.QuietTactic
import Derived.BigQuiet
import Derived.Deep.RegionWith
import Derived.Deep.RegionHeld3
import Derived.Deep.DeepCutAuto
import Derived.Deep.DeepFit
import Derived.Outline
import Derived.Test.YtjjodfdmbiebnaaQxk
/- For every list of acts, QueueExact answers true and leaves its argument as it was: whatever is put in, and taken out, each call answers what the page says. No condition. -/
namespace Go.Proofs.Ytjjodfdmbiebnaa
open Go.ChangeShapes Go.WideShapes Go.ChangeAt Go.RowKit Go.Deep
set_option linter.unusedVariables false
set_option linter.unusedSimpArgs false
theorem qwithin (i : Int) (hi : Fx.I64 i) (w : World) : Calls Try.prog 47 #[.int .i64 i, .int .i64 5] w fun e w' => (∃ r : Int, e = .returned (.int .i64 r)) ∧ w = w' := by
  go_enter Try.func47, Try.ntmps47
  go_wp2
  go_ret
  exact ⟨⟨_, rfl⟩, rfl⟩
theorem Iq.sl {w : World} {S n : Nat} {v v' : Value} {P : Nat → PrQ} (h : Iq w S v v' n P) : ∃ a c a' c', v = .slice a n c ∧ v' = .slice a' n c' := by
  rcases h.rk.2 with ⟨e, rfl⟩ | ⟨g, cap, cur, e, _⟩
  · rcases h.rv.2 with ⟨e', _⟩ | ⟨g', cap', cur', e', _⟩
    · exact ⟨_, _, _, _, e, e'⟩
    · exact ⟨_, _, _, _, e, e'⟩
  · rcases h.rv.2 with ⟨e', rfl⟩ | ⟨g', cap', cur', e', _⟩
    · exact ⟨_, _, _, _, e, e'⟩
    · exact ⟨_, _, _, _, e, e'⟩
theorem cnt_rpop (P : Nat → PrQ) {b m : Nat} (hb : b < m + 1) (x : PrQ) : cntQ P x (m + 1) = cntQ (updQ P b (P m)) x m + (if P b = x then 1 else 0) := by
  have h := cntQ_upd P x (P m) b hb
  have e : updQ P b (P m) m = P m := by
    by_cases c : m = b
    · subst c; exact updQ_at _ _ _
    · exact updQ_far c
  have h2 : cntQ (updQ P b (P m)) x (m + 1) = cntQ (updQ P b (P m)) x m + (if updQ P b (P m) m = x then 1 else 0) := rfl
  rw [e] at h2
  omega
theorem cnt_push (P : Nat → PrQ) (n : Nat) (p x : PrQ) : cntQ (updQ P n p) x (n + 1) = cntQ P x n + (if p = x then 1 else 0) := by
  show cntQ (updQ P n p) x n + _ = _
  rw [cntQ_congr (G := P) fun k hk => updQ_far (by omega), updQ_at]
theorem min_same {F P : Nat → PrQ} {n b : Nat} (hp : HpQ F n) (hn : 0 < n) (hb : b < n) (hm : ∀ j, j < n → leQ (P b) (P j)) (hc : ∀ x, cntQ F x n = cntQ P x n) : F 0 = P b := by
  have h1 := cntQ_has (F := F) (k := 0) hn
  rw [hc] at h1
  obtain ⟨j, hj, e⟩ := cntQ_pos h1
  have h2 := cntQ_has (F := P) hb
  rw [← hc] at h2
  obtain ⟨q, hq, e2⟩ := cntQ_pos h2
  have a1 := hm j hj
  rw [e] at a1
  have a2 := hp.min q hq
  rw [e2] at a2
  exact leQ_anti a2 a1
set_option maxRecDepth 1000000 in
set_option maxHeartbeats 6400000 in
theorem queueExact_walk (a : Option Addr) (len cap : Nat) (w : World) (rows : Asks12 w a len cap) :
    Calls Try.prog 11 #[.slice a len cap] w fun e w' => e = .returned (.bool true) ∧ Below w.heap.size w w' := by
  obtain ⟨hl, hm, D, L, hall⟩ := rows
  have HAQ := Hk.mk hall
  clear hall
  have L0 : w.heap.size ≤ w.heap.size := Nat.le_refl _
  go_enter Try.func11, Try.ntmps11
  go_wp2_with (go_at_call 46; (with_reducible refine (qnew _ w.heap.size (Nat.le_refl _)).mono ?_); rintro e z ⟨Q, rfl, hQ, hq, hb⟩; have HQ := Hk.mk hq; have HB := Hk.mk hb; clear hq hb hQ)
  have hbz := (Below.refl z.heap.size z).alloc (Nat.le_refl _) (.cells #[.slice none 0 0, .slice none 0 0] 76)
  have HQ1 := Hk.mk (HQ.out.later hbz)
  have HB1 := Hk.mk (HB.out.trans (hbz.mono HB.out.size))
  have hbk := Bk.new z #[.slice none 0 0, .slice none 0 0] 76
  have HRQ1 : Hk (Rq (z.alloc (.cells #[.slice none 0 0, .slice none 0 0] 76)) w.heap.size z.heap.size (.slice none 0 0) (.slice none 0 0) 0 (fun _ => (0, 0))) := ⟨⟨hbk.c 0, hbk.c 1, hbk.f 0, hbk.f 1, hbk.lt, HB.out.size, Iq.nil _ _ _, by simp [Value.ownBlock], by simp [Value.ownBlock]⟩⟩
  have HDS1 : Hk (∀ j, MQ Q none j → ¬ MR z.heap.size (.slice none 0 0) (.slice none 0 0) j) := ⟨fun j hj hm => by
    have h1 := HQ.out.mlt j hj
    rcases hm with e | e | e
    · omega
    · simp [Value.ownBlock] at e
    · simp [Value.ownBlock] at e⟩
  clear hbz hbk HQ HB
  obtain ⟨R, hR⟩ : ∃ R, z.heap.size = R := ⟨_, rfl⟩
  rw [hR] at HRQ1 HDS1 ⊢
  clear hR
  go_loopw [5] (fun i wr => ∃ (k n : Nat) (a1 : Option Addr) (c1 : Nat) (F P : Nat → PrQ) (v v' : Value), i = .int .i64 k ∧ k ≤ 80 ∧ n ≤ k ∧ Hk (Hq wr w.heap.size Q a1 n c1 F) ∧ Hk (HpQ F n) ∧ Hk (Rq wr w.heap.size R v v' n P) ∧ Hk (∀ x, cntQ F x n = cntQ P x n) ∧ Hk (∀ j, MQ Q a1 j → ¬ MR R v v' j) ∧ Hk (Below w.heap.size w wr)) (fun i _ => 80 - (intOf i).toNat)
  case atStart => exact ⟨0, 0, none, 0, _, _, _, _, rfl, by omega, by omega, HQ1, ⟨fun k h0 h => by omega⟩, HRQ1, ⟨fun _ => rfl⟩, HDS1, HB1⟩
  case round =>
    clear HQ1 HRQ1 HDS1 HB1
    obtain ⟨k, n, a1, c1, F, P, v, v', rfl, hk, hnk, HQ, HP, HRQ, HC, HDS, HB⟩ := hrel
    by_cases hlt : k < len ∧ k < 80
    · obtain ⟨g1, g2⟩ := hlt
      obtain ⟨b, off, rfl, hb, hd, d0, d1, d2⟩ := HAQ.out k g1
      obtain ⟨p, hp⟩ : ∃ p, L k = p := ⟨_, rfl⟩
      rw [hp] at d1 d2
      have HD := Hk.mk hd
      clear hp hd
      have k0 : (0 : Int) ≤ (k : Int) := by omega
      have k1 : (k : Int) < (len : Int) := by omega
      have e0 := (HB.out.cell (p := ⟨b, off + k * 3, none⟩) hb).trans d0
      generalize D k = dd at *
      go_wp2_with (go_at_call 47; (with_reducible refine (qwithin dd HD.out _).mono ?_); rintro e z ⟨⟨r, rfl⟩, rfl⟩)
      · have HBS := HB
        clear HB e0
        have L0V : w.heap.size ≤ w.heap.size := Nat.le_refl _
        apply reg_merge
        intro HG1
        refine wp_region_held_drew (S := fun Z => (∀ b o, b < w.heap.size → Z.cell? ⟨b, o, none⟩ = w.cell? ⟨b, o, none⟩)) (by kernel_rfl) (kw_s HBS.out.drew) (fun hHeld => ?_)
        have HB := Hk.mk HBS.out.drew
        have hb := (Below.refl wr.heap.size wr).drew
        replace HQ := Hk.mk (HQ.out.later hb)
        replace HRQ := Hk.mk (HRQ.out.later hb)
        clear hb
        obtain ⟨WY, hWe⟩ : ∃ WY, wr.drew = WY := ⟨_, rfl⟩
        rw [hWe] at HB hHeld HQ HRQ ⊢
        clear hWe
        refine wpAnyH_take (i := 0) (v := ?_) rfl (by kernel_rfl) (by kernel_rfl) (by kernel_rfl) (fun _ _ _ h => h) (Or.inl ⟨by rfl, fun wX hSw => ?_⟩) (by assumption) ?_
        rotate_left
        · (try dsimp only at hSw); go_simp; try with_reducible rfl
        (try simp only [Act.put, List.getElem_toArray, List.getElem_cons_succ, List.getElem_cons_zero, List.setIfInBounds_toArray, List.set_cons_zero, List.set_cons_succ])
        refine wpAnyH_take (i := 1) (v := ?_) rfl (by kernel_rfl) (by kernel_rfl) (by kernel_rfl) (fun _ _ _ h => h) (Or.inl ⟨by rfl, fun wX hSw => ?_⟩) (by assumption) ?_
        rotate_left
        · (try dsimp only at hSw); go_simp; try with_reducible rfl
        (try simp only [Act.put, List.getElem_toArray, List.getElem_cons_succ, List.getElem_cons_zero, List.setIfInBounds_toArray, List.set_cons_zero, List.set_cons_succ])
        refine wpAnyH_take (i := 2) (v := ?_) rfl (by kernel_rfl) (by kernel_rfl) (by kernel_rfl) (fun _ _ _ h => h) (Or.inl ⟨by rfl, fun wX hSw => ?_⟩) (by assumption) ?_
        rotate_left
        · (try dsimp only at hSw); go_simp; try with_reducible rfl
        (try simp only [Act.put, List.getElem_toArray, List.getElem_cons_succ, List.getElem_cons_zero, List.setIfInBounds_toArray, List.set_cons_zero, List.set_cons_succ])
        refine wpAnyH_take (i := 3) (v := ?_) rfl (by kernel_rfl) (by kernel_rfl) (by kernel_rfl) (fun _ _ _ h => h) (Or.inl ⟨by rfl, fun wX hSw => ?_⟩) (by assumption) ?_
        rotate_left
        · (try dsimp only at hSw); go_simp; try with_reducible rfl
        (try simp only [Act.put, List.getElem_toArray, List.getElem_cons_succ, List.getElem_cons_zero, List.setIfInBounds_toArray, List.set_cons_zero, List.set_cons_succ])
        refine wpAnyH_take (i := 4) (v := ?_) rfl (by kernel_rfl) (by kernel_rfl) (by kernel_rfl) (fun _ _ _ h => h) (Or.inl ⟨by rfl, fun wX hSw => ?_⟩) (by assumption) ?_
        rotate_left
        · (try dsimp only at hSw); go_simp; try with_reducible rfl
        (try simp only [Act.put, List.getElem_toArray, List.getElem_cons_succ, List.getElem_cons_zero, List.setIfInBounds_toArray, List.set_cons_zero, List.set_cons_succ])
        refine wpAnyH_take (i := 5) (v := ?_) rfl (by kernel_rfl) (by kernel_rfl) (by kernel_rfl) (fun _ _ _ h => h) (Or.inl ⟨by rfl, fun wX hSw => ?_⟩) (by assumption) ?_
        rotate_left
        · (try dsimp only at hSw); go_simp; try with_reducible rfl
        (try simp only [Act.put, List.getElem_toArray, List.getElem_cons_succ, List.getElem_cons_zero, List.setIfInBounds_toArray, List.set_cons_zero, List.set_cons_succ])
        refine wpAnyH_take (i := 6) (v := ?_) rfl (by kernel_rfl) (by kernel_rfl) (by kernel_rfl) (fun _ _ _ h => h) (Or.inl ⟨by rfl, fun wX hSw => ?_⟩) (by assumption) ?_
        rotate_left
        · (try dsimp only at hSw); go_simp; try with_reducible rfl
        (try simp only [Act.put, List.getElem_toArray, List.getElem_cons_succ, List.getElem_cons_zero, List.setIfInBounds_toArray, List.set_cons_zero, List.set_cons_succ])
        refine wpAnyH_take (i := 7) (v := ?_) rfl (by kernel_rfl) (by kernel_rfl) (by kernel_rfl) (fun _ _ _ h => h) (Or.inl ⟨by rfl, fun wX hSw => ?_⟩) (by assumption) ?_
        rotate_left
        · (try dsimp only at hSw); go_simp; try with_reducible rfl
        (try simp only [Act.put, List.getElem_toArray, List.getElem_cons_succ, List.getElem_cons_zero, List.setIfInBounds_toArray, List.set_cons_zero, List.set_cons_succ])
        refine wpAnyH_take (i := 8) (v := ?_) rfl (by kernel_rfl) (by kernel_rfl) (by kernel_rfl) (fun _ _ _ h => h) (Or.inl ⟨by rfl, fun wX hSw => ?_⟩) (by assumption) ?_
        rotate_left
        · (try dsimp only at hSw); go_simp; try with_reducible rfl
        (try simp only [Act.put, List.getElem_toArray, List.getElem_cons_succ, List.getElem_cons_zero, List.setIfInBounds_toArray, List.set_cons_zero, List.set_cons_succ])
        refine wpAnyH_take (i := 9) (v := ?_) rfl (by kernel_rfl) (by kernel_rfl) (by kernel_rfl) (fun _ _ _ h => h) (Or.inl ⟨by rfl, fun wX hSw => ?_⟩) (by assumption) ?_
        rotate_left
        · (try dsimp only at hSw); go_simp; try with_reducible rfl
        (try simp only [Act.put, List.getElem_toArray, List.getElem_cons_succ, List.getElem_cons_zero, List.setIfInBounds_toArray, List.set_cons_zero, List.set_cons_succ])
        refine wpAnyH_take (i := 10) (v := ?_) rfl (by kernel_rfl) (by kernel_rfl) (by kernel_rfl) (fun _ _ _ h => h) (Or.inl ⟨by rfl, fun wX hSw => ?_⟩) (by assumption) ?_
        rotate_left
        · (try dsimp only at hSw); go_simp; try with_reducible rfl
        (try simp only [Act.put, List.getElem_toArray, List.getElem_cons_succ, List.getElem_cons_zero, List.setIfInBounds_toArray, List.set_cons_zero, List.set_cons_succ])
        refine wpAnyH_ready (rs := [11]) (by kernel_rfl) (by simp) ?_
        refine AllReadyH.cons rfl (fun K hK => ?_) (AllReadyH.nil)
        · skip
          ((go_simp; (go_at_call 48; (with_reducible refine (qpush_at w.heap.size Q n c1 a1 F p.1 p.2 p ⟨rfl⟩ _ HQ.out HP.out (by omega)).mono ?_); rintro e z ⟨rfl, g2, c2, G2, hr⟩; have HQ2 := Hk.mk hr.q; have HP2 := Hk.mk hr.hp; have HC2 := Hk.mk hr.cn; have HRQ2 := Hk.mk (HRQ.out.fr hr.fr (fun j hj hm => HDS.out j hm hj)); have HDS2 : Hk (∀ j, MQ Q (some ⟨g2, 0, none⟩) j → ¬ MR R v v' j) := ⟨fun j hj hm => (by rcases hj with e | ⟨ad, e, e2⟩; exact HDS.out j (Or.inl e) hm; injection e with e; subst e; simp only at e2; rcases hr.nw with h | h; exact HDS.out j (Or.inr ⟨_, h, e2⟩) hm; have := (HRQ.out.mlt j hm).2; omega)⟩; replace HB := Hk.mk (HB.out.trans (HQ.out.bel hr.fr)); clear hr)))
          refine hK.out _ _ ?_ (fun hHeld2 => ?_)
          · exact kw_s HB.out
          clear hK K hHeld
          have hHeld := hHeld2
          clear hHeld2
          (try simp only [Act.put, List.getElem_toArray, List.getElem_cons_succ, List.getElem_cons_zero, List.setIfInBounds_toArray, List.set_cons_zero, List.set_cons_succ])
          clear HQ HRQ
          refine reg_cast (l' := #[true, true, true, true, true, true, true, true, true, true, true, true]) (by kernel_rfl) ?_
          revert hHeld
          revert HDS2
          revert HRQ2
          revert HC2
          revert HP2
          revert HQ2
          revert HB
          revert G2
          revert c2
          revert g2
          revert z
          exact HG1.out
        intro WY g2 c2 G2 HB HQ2 HP2 HC2 HRQ2 HDS2 hHeld
        refine wpAnyH_done (by kernel_rfl) ?_ _
        clear HBS hHeld
        go_wp2_with fail
        have HBS := HB
        clear HB
        have L0V : w.heap.size ≤ w.heap.size := Nat.le_refl _
        apply reg_merge
        intro HG1
        refine wp_region_held_drew (S := fun Z => (∀ b o, b < w.heap.size → Z.cell? ⟨b, o, none⟩ = w.cell? ⟨b, o, none⟩)) (by kernel_rfl) (kw_s HBS.out.drew) (fun hHeld => ?_)
        have HB := Hk.mk HBS.out.drew
        have hb := (Below.refl WY.heap.size WY).drew
        replace HQ2 := Hk.mk (HQ2.out.later hb)
        replace HRQ2 := Hk.mk (HRQ2.out.later hb)
        clear hb
        obtain ⟨WX, hWe⟩ : ∃ WX, WY.drew = WX := ⟨_, rfl⟩
        rw [hWe] at HB hHeld HQ2 HRQ2 ⊢
        clear hWe
        refine wpAnyH_take (i := 0) (v := ?_) rfl (by kernel_rfl) (by kernel_rfl) (by kernel_rfl) (fun _ _ _ h => h) (Or.inl ⟨by rfl, fun wX hSw => ?_⟩) (by assumption) ?_
        rotate_left
        · (try dsimp only at hSw); go_simp; try with_reducible rfl
        (try simp only [Act.put, List.getElem_toArray, List.getElem_cons_succ, List.getElem_cons_zero, List.setIfInBounds_toArray, List.set_cons_zero, List.set_cons_succ])
        refine wpAnyH_take (i := 1) (v := ?_) rfl (by kernel_rfl) (by kernel_rfl) (by kernel_rfl) (fun _ _ _ h => h) (Or.inl ⟨by rfl, fun wX hSw => ?_⟩) (by assumption) ?_
        rotate_left
        · (try dsimp only at hSw); go_simp; try with_reducible rfl
        (try simp only [Act.put, List.getElem_toArray, List.getElem_cons_succ, List.getElem_cons_zero, List.setIfInBounds_toArray, List.set_cons_zero, List.set_cons_succ])
        refine wpAnyH_take (i := 2) (v := ?_) rfl (by kernel_rfl) (by kernel_rfl) (by kernel_rfl) (fun _ _ _ h => h) (Or.inl ⟨by rfl, fun wX hSw => ?_⟩) (by assumption) ?_
        rotate_left
        · (try dsimp only at hSw); go_simp; try with_reducible rfl
        (try simp only [Act.put, List.getElem_toArray, List.getElem_cons_succ, List.getElem_cons_zero, List.setIfInBounds_toArray, List.set_cons_zero, List.set_cons_succ])
        refine wpAnyH_take (i := 3) (v := ?_) rfl (by kernel_rfl) (by kernel_rfl) (by kernel_rfl) (fun _ _ _ h => h) (Or.inl ⟨by rfl, fun wX hSw => ?_⟩) (by assumption) ?_
        rotate_left
        · (try dsimp only at hSw); go_simp; try with_reducible rfl
        (try simp only [Act.put, List.getElem_toArray, List.getElem_cons_succ, List.getElem_cons_zero, List.setIfInBounds_toArray, List.set_cons_zero, List.set_cons_succ])
        refine wpAnyH_take (i := 4) (v := ?_) rfl (by kernel_rfl) (by kernel_rfl) (by kernel_rfl) (fun _ _ _ h => h) (Or.inl ⟨by rfl, fun wX hSw => ?_⟩) (by assumption) ?_
        rotate_left
        · (try dsimp only at hSw); go_simp; try with_reducible rfl
        (try simp only [Act.put, List.getElem_toArray, List.getElem_cons_succ, List.getElem_cons_zero, List.setIfInBounds_toArray, List.set_cons_zero, List.set_cons_succ])
        refine wpAnyH_take (i := 5) (v := ?_) rfl (by kernel_rfl) (by kernel_rfl) (by kernel_rfl) (fun _ _ _ h => h) (Or.inl ⟨by rfl, fun wX hSw => ?_⟩) (by assumption) ?_
        rotate_left
        · (try dsimp only at hSw); go_simp; try with_reducible rfl
        (try simp only [Act.put, List.getElem_toArray, List.getElem_cons_succ, List.getElem_cons_zero, List.setIfInBounds_toArray, List.set_cons_zero, List.set_cons_succ])
        refine wpAnyH_take (i := 6) (v := ?_) rfl (by kernel_rfl) (by kernel_rfl) (by kernel_rfl) (fun _ _ _ h => h) (Or.inl ⟨by rfl, fun wX hSw => ?_⟩) (by assumption) ?_
        rotate_left
        · (try dsimp only at hSw); go_simp; try with_reducible rfl
        (try simp only [Act.put, List.getElem_toArray, List.getElem_cons_succ, List.getElem_cons_zero, List.setIfInBounds_toArray, List.set_cons_zero, List.set_cons_succ])
        refine wpAnyH_take (i := 7) (v := ?_) rfl (by kernel_rfl) (by kernel_rfl) (by kernel_rfl) (fun _ _ _ h => h) (Or.inl ⟨by rfl, fun wX hSw => ?_⟩) (by assumption) ?_
        rotate_left
        · (try dsimp only at hSw); go_simp; try with_reducible rfl
        (try simp only [Act.put, List.getElem_toArray, List.getElem_cons_succ, List.getElem_cons_zero, List.setIfInBounds_toArray, List.set_cons_zero, List.set_cons_succ])
        refine wpAnyH_take (i := 8) (v := ?_) rfl (by kernel_rfl) (by kernel_rfl) (by kernel_rfl) (fun _ _ _ h => h) (Or.inl ⟨by rfl, fun wX hSw => ?_⟩) (by assumption) ?_
        rotate_left
        · (try dsimp only at hSw); go_simp; try with_reducible rfl
        (try simp only [Act.put, List.getElem_toArray, List.getElem_cons_succ, List.getElem_cons_zero, List.setIfInBounds_toArray, List.set_cons_zero, List.set_cons_succ])
        refine wpAnyH_take (i := 9) (v := ?_) rfl (by kernel_rfl) (by kernel_rfl) (by kernel_rfl) (fun _ _ _ h => h) (Or.inl ⟨by rfl, fun wX hSw => ?_⟩) (by assumption) ?_
        rotate_left
        · (try dsimp only at hSw); go_simp; try with_reducible rfl
        (try simp only [Act.put, List.getElem_toArray, List.getElem_cons_succ, List.getElem_cons_zero, List.setIfInBounds_toArray, List.set_cons_zero, List.set_cons_succ])
        refine wpAnyH_take (i := 10) (v := ?_) rfl (by kernel_rfl) (by kernel_rfl) (by kernel_rfl) (fun _ _ _ h => h) (Or.inl ⟨by rfl, fun wX hSw => ?_⟩) (by assumption) ?_
        rotate_left
        · (try dsimp only at hSw); go_simp; try with_reducible rfl
        (try simp only [Act.put, List.getElem_toArray, List.getElem_cons_succ, List.getElem_cons_zero, List.setIfInBounds_toArray, List.set_cons_zero, List.set_cons_succ])
        refine wpAnyH_ready (rs := [11]) (by kernel_rfl) (by simp) ?_
        refine AllReadyH.cons rfl (fun K hK => ?_) (AllReadyH.nil)
        · skip
          ((go_simp; (go_at_call 49; (with_reducible refine (rpush_any w.heap.size R n v v' P p p.1 p.2 ⟨rfl⟩ _ HRQ2.out (by omega)).mono ?_); rintro e z ⟨rfl, u3, u4, hrq, hf, hnw⟩; have HRQ3 := Hk.mk hrq; have HQ3 := Hk.mk (HQ2.out.fr hf (HDS2.out Q (Or.inl rfl)) (fun j hj => HDS2.out j (MQ.own hj))); have HDS3 : Hk (∀ j, MQ Q (some ⟨g2, 0, none⟩) j → ¬ MR R u3 u4 j) := ⟨fun j hj hm => (by rcases hnw j hm with h | h; exact HDS2.out j hj h; have := HQ2.out.mlt j hj; omega)⟩; replace HB := Hk.mk (HB.out.trans (HRQ2.out.bel hf)); clear hrq hf hnw)))
          refine hK.out _ _ ?_ (fun hHeld2 => ?_)
          · exact kw_s HB.out
          clear hK K hHeld
          have hHeld := hHeld2
          clear hHeld2
          (try simp only [Act.put, List.getElem_toArray, List.getElem_cons_succ, List.getElem_cons_zero, List.setIfInBounds_toArray, List.set_cons_zero, List.set_cons_succ])
          clear HQ2 HRQ2
          refine reg_cast (l' := #[true, true, true, true, true, true, true, true, true, true, true, true]) (by kernel_rfl) ?_
          revert hHeld
          revert HDS3
          revert HRQ3
          revert HQ3
          revert HB
          revert u4
          revert u3
          revert z
          exact HG1.out
        intro WX u3 u4 HB HQ3 HRQ3 HDS3 hHeld
        refine wpAnyH_done (by kernel_rfl) ?_ _
        clear HBS hHeld L0V
        have HC4 : Hk (∀ x, cntQ G2 x (n + 1) = cntQ (updQ P n p) x (n + 1)) := ⟨fun x => by rw [HC2.out x, cnt_push, HC.out x]⟩
        clear HC HC2 HP d0 d1 d2
        obtain ⟨ar, cr, ar', cr', rfl, rfl⟩ := HRQ3.out.iq.sl
        have r0 := HRQ3.out.c0
        go_wp2_with fail
        go_quiet ((go_at_call 52; exact Calls.quiet_of_same ((qlen _ w.heap.size Q (n + 1) _ _ _ (HQ3.out.drewN _)).mono (fun _ _ h => ⟨h.1, h.2.symm⟩))))
        go_wp2
        exact ⟨⟨k + 1, n + 1, _, _, G2, _, _, _, by go_num, by omega, by omega, ⟨HQ3.out.drewN _⟩, HP2, ⟨HRQ3.out.drewN _⟩, HC4, HDS3, ⟨below_drewN HB.out _⟩⟩, by simp [intOf]; omega⟩
      · clear e0
        rcases Nat.eq_zero_or_pos n with h0 | h0
        · subst h0
          obtain ⟨ar, cr, ar', cr', rfl, rfl⟩ := HRQ.out.iq.sl
          have r0 := HRQ.out.c0
          go_wp2_with (first
            | (go_at_call 50; (with_reducible refine (pop_nil w.heap.size Q _ _ F _ HQ.out).mono ?_); rintro e z ⟨rfl, rfl⟩)
            | (go_at_call 51; (with_reducible refine (rpop_nil R _ _ _ r0).mono ?_); rintro e z ⟨rfl, rfl⟩))
          go_quiet ((go_at_call 52; exact Calls.quiet_of_same ((qlen _ w.heap.size Q 0 _ _ _ (HQ.out.drewN _)).mono (fun _ _ h => ⟨h.1, h.2.symm⟩))))
          go_wp2
          exact ⟨⟨k + 1, 0, _, _, F, _, _, _, by go_num, by omega, by omega, ⟨HQ.out.drewN _⟩, HP, ⟨HRQ.out.drewN _⟩, HC, HDS, ⟨below_drewN HB.out _⟩⟩, by simp [intOf]; omega⟩
        · obtain ⟨m, rfl⟩ : ∃ m, n = m + 1 := ⟨n - 1, by omega⟩
          obtain ⟨g6, c6, g7, c7, rfl, rfl⟩ := HRQ.out.iq.form (by omega)
          obtain ⟨x, hx⟩ : ∃ x, F 0 = x := ⟨_, rfl⟩
          have HX := Hk.mk hx
          clear hx
          go_wp2_with (first
            | (go_at_call 50; (with_reducible refine (pop_any w.heap.size Q m _ _ F _ HQ.out HP.out (by omega)).mono ?_); rintro e z ⟨rfl, G, hq, hp2, hc2, hf⟩; rw [HX.out] at hc2 ⊢; have HQ2 := Hk.mk hq; have HP2 := Hk.mk hp2; have HC2 := Hk.mk hc2; have HRQ2 := Hk.mk (HRQ.out.fr hf (fun j hj hm => HDS.out j hm hj)); have HB2 := Hk.mk (HB.out.trans (HQ.out.bel hf)); clear hq hp2 hc2 hf)
            | (go_at_call 51; (with_reducible refine (rpop_any w.heap.size R m g6 c6 g7 c7 P _ HRQ2.out (by omega)).mono ?_); rintro e z ⟨bm, hbm, hmin, rfl, hrq, hf⟩; have hsame := min_same HP.out (by omega) hbm hmin HC.out; rw [HX.out] at hsame; rw [← hsame]; have HCP := Hk.mk (fun y => cnt_rpop P hbm y); have HSM := Hk.mk hsame; have HRQ3 := Hk.mk hrq; have HQ3 := Hk.mk (HQ2.out.fr hf (HDS.out Q (Or.inl rfl)) (fun j hj => HDS.out j (MQ.own hj))); have HB3 := Hk.mk (HB2.out.trans (HRQ2.out.bel hf)); have r0 := hrq.c0; clear hbm hmin hrq hf hsame))
          have HC3 : Hk (∀ y, cntQ G y m = cntQ (updQ P bm (P m)) y m) := ⟨fun y => by have h1 := HC.out y; have h2 := HC2.out y; have h3 := HCP.out y; rw [← HSM.out] at h3; omega⟩
          have HDS3 : Hk (∀ j, MQ Q a1 j → ¬ MR R (.slice (some ⟨g6, 0, none⟩) m c6) (.slice (some ⟨g7, 0, none⟩) m c7) j) := ⟨fun j hj hm => HDS.out j hj (by simpa [MR, Value.ownBlock] using hm)⟩
          go_quiet ((go_at_call 52; exact Calls.quiet_of_same ((qlen _ w.heap.size Q m _ _ _ (HQ3.out.drewN _)).mono (fun _ _ h => ⟨h.1, h.2.symm⟩))))
          go_wp2
          exact ⟨⟨k + 1, m, _, _, G, _, _, _, by go_num, by omega, by omega, ⟨HQ3.out.drewN _⟩, HP2, ⟨HRQ3.out.drewN _⟩, HC3, HDS3, ⟨below_drewN HB3.out _⟩⟩, by simp [intOf]; omega⟩
    · clear HQ HP HRQ HC HDS
      by_cases g1 : k < len
      · have k1 : (k : Int) < (len : Int) := by omega
        have k2 : ¬ ((k : Int) < 80) := by omega
        go_wp2_with (go_at_call 53; (with_reducible refine (wakes12_any _).mono ?_); rintro e z ⟨rfl, hb⟩; have HB2 := Hk.mk (HB.out.trans (hb.mono HB.out.size)); clear hb)
        go_ret
        exact ⟨rfl, HB2.out⟩
      · have k1 : ¬ ((k : Int) < (len : Int)) := by omega
        go_wp2_with (go_at_call 53; (with_reducible refine (wakes12_any _).mono ?_); rintro e z ⟨rfl, hb⟩; have HB2 := Hk.mk (HB.out.trans (hb.mono HB.out.size)); clear hb)
        go_ret
        exact ⟨rfl, HB2.out⟩

theorem queueExact_own : ownKnob Try.prog.godebug = none := by kernel_rfl
theorem queueExact_laidOut : laidOutB Try.prog = true := by kernel_rfl
set_option maxRecDepth 100000 in
theorem queueExact_lifted (os : Os) (started : os.Started) (H : Type) (enc : TypeId × Value → H) :
    ReturnsInHanded {} Try.checked os 11 .any (Rows.queueExactSpec.pre6 enc Try.prog Try.f11 Rows.queueExactRow.domain false) (Rows.queueExactSpec.post enc Try.prog Try.f11 false true false false) := by
  refine returnsInHanded_of_change (C := Try.checked) queueExact_own started (by kernel_rfl) Try.func11
    (ChangeSpec.witness6 (enc := enc) (C := Try.checked) false ⟨#[], #[.slice none 0 0], []⟩ 8 (by kernel_rfl) (by kernel_rfl) (by kernel_rfl) (by kernel_rfl)) ?_
  intro W base args ds gs before hval0 hW hcnd _
  have hval : ∀ (j : Nat) t v, Try.f11.params[j]? = some t → args[j]? = some v → Value.okWide Try.prog W .any base t v := hval0
  have hW' := hW
  obtain ⟨p, q, hA0, hV, rfl, hfz, hnd⟩ := hW
  have hA : DataW.TrodAll enc Try.prog W 0 (fun _ => true) true Try.f11.params.toList args.toList ds p := hA0
  rw [Try.params11] at hA hval
  obtain ⟨v0, vs0, d0, ds0, p0, q0, hargs, rfl, rfl, h0, r0⟩ := trodAll_cons hA
  obtain ⟨rfl, rfl, rfl⟩ := trodAll_nil r0
  obtain rfl : args = #[v0] := by cases args; simp_all
  obtain ⟨rfl, rfl⟩ := trodVars_none hV
  obtain ⟨a0, len0, cap0, rfl⟩ := okWide_slice Try.underlying71 (hval 0 71 v0 rfl rfl)
  have k0 := h0
  have lt0 : ∀ x ∈ p0, x.block < W.heap.size := by obtain ⟨m, hm⟩ := k0; exact DataW.trod_lt m _ _ _ hm
  have rows : Asks12 W a0 len0 cap0 := by obtain ⟨fuel, hf⟩ := h0; exact asks12_of hf
  clear hA0 hval0
  refine (queueExact_walk a0 len0 cap0 W rows).mono fun e W' ⟨he, bel⟩ => ?_
  subst he
  exact ⟨_, rfl, _, _, _, [], _, [], hW', trodAll_mk1 (shut_bool Try.underlying4 _), (trodAll_cons_mk (Below.trod queueExact_laidOut (by kernel_rfl) (of_decide_eq_true (by kernel_rfl)) k0 bel lt0) trodAll_mk0), rfl, bel.frame _, fun h => by cases h⟩
theorem queueExact_over : Rows.queueExactRow.holds Try.pinned (OpenSpec.ofChange Rows.queueExactSpec) :=
  OpenClaim.holds_of_wide 11 Try.f11 rfl rfl rfl rfl rfl rfl rfl ⟨rfl, rfl, rfl, rfl, rfl⟩ rfl rfl rfl rfl rfl (by kernel_rfl) Try.func11 (by kernel_rfl)
    (of_decide_eq_true (by kernel_rfl)) (by unfold Func.isWrapper; first | (rw [if_pos (by decide +kernel)]; kernel_rfl) | (rw [if_neg (by decide +kernel)]; exact ⟨rfl, rfl⟩))
    (fun os started H enc _ => queueExact_lifted os started H enc)
/-- The given statement of QueueExact. -/
theorem queueExact_holds : Rows.QueueExactSaid := queueExact_over
end Go.Proofs.Ytjjodfdmbiebnaa

