import Derived.Deep.QuietTactic
import Derived.BigQuiet
import Derived.Deep.RegionWith
import Derived.Deep.RegionHeld3
import Derived.Deep.DeepCutAuto
import Derived.Deep.DeepFit
import Derived.Outline
import Derived.Test.YtjjodfdmbiebnaaQxj
import Derived.Test.YtjjodfdmbiebnaaQxd
/- For every list of acts, QueueRises answers true and leaves its argument as it was: all that was put in comes out, each once, rising; then there is nothing. No condition. -/
namespace Go.Proofs.Ytjjodfdmbiebnaa
open Go.ChangeShapes Go.WideShapes Go.ChangeAt Go.RowKit Go.Deep
set_option linter.unusedVariables false
set_option linter.unusedSimpArgs false
theorem Hq.belowN {w w' : World} {base Q n c S : Nat} {a : Option Addr} {F : Nat → PrQ} (h : Hq w base Q a n c F) (hS : ∀ j, MQ Q a j → j < S) (k : Below S w w') : Hq w' base Q a n c F :=
  h.fr (M := fun j => S ≤ j) (Fr.of_below k) (by have := hS Q (Or.inl rfl); omega) (fun j hj hc => by have := hS j (MQ.own hj); omega)
theorem Hq.mlt {w : World} {base Q n c : Nat} {a : Option Addr} {F : Nat → PrQ} (h : Hq w base Q a n c F) : ∀ j, MQ Q a j → j < w.heap.size := by
  intro j hj
  rcases hj with e | ⟨ad, e, e2⟩
  · rw [e]; exact h.lt
  · rcases h.row.2 with ⟨e3, _⟩ | ⟨g, cap, cur, e3, hg, hh, _⟩
    · injection e3 with e3
      rw [e3] at e; cases e
    · injection e3 with e3
      rw [e3] at e
      injection e with e
      subst e
      subst e2
      exact (Array.getElem?_eq_some_iff.1 hh).1
def l1Q (P : Nat → PrQ) (n : Nat) : List Value := (List.range n).map fun j => .int .i64 (P j).1
def l2Q (P : Nat → PrQ) (n : Nat) : List Value := (List.range n).map fun j => .int .i64 (P j).2
/-- Two lists of numbers of one's own, in blocks behind S: the keys, the values of n pairs. -/
structure Iq (w : World) (S : Nat) (v v' : Value) (n : Nat) (P : Nat → PrQ) : Prop where
  rk : w.ownsRow S 3 1 v n (l1Q P n)
  rv : w.ownsRow S 3 1 v' n (l2Q P n)
  ap : v.ownBlock = none ∨ v.ownBlock ≠ v'.ownBlock
theorem Iq.nil (w : World) (S : Nat) (P : Nat → PrQ) : Iq w S (.slice none 0 0) (.slice none 0 0) 0 P := ⟨⟨rfl, Or.inl ⟨rfl, rfl⟩⟩, ⟨rfl, Or.inl ⟨rfl, rfl⟩⟩, Or.inl rfl⟩
theorem Iq.fr {w w' : World} {S n : Nat} {v v' : Value} {P : Nat → PrQ} {M : Nat → Prop} (h : Iq w S v v' n P) (k : Fr M w w') (hM : ∀ j, M j → j < S) : Iq w' S v v' n P :=
  ⟨k.row h.rk (fun j hj hm => by have := (h.rk.lt j hj).1; have := hM j hm; omega), k.row h.rv (fun j hj hm => by have := (h.rv.lt j hj).1; have := hM j hm; omega), h.ap⟩
theorem Iq.drewN {w : World} {S n : Nat} {v v' : Value} {P : Nat → PrQ} (h : Iq w S v v' n P) (m : Nat) : Iq (w.drewN m) S v v' n P := ⟨h.rk, h.rv, h.ap⟩
theorem Iq.form {w : World} {S n : Nat} {v v' : Value} {P : Nat → PrQ} (h : Iq w S v v' n P) (hn : 0 < n) : ∃ g c g' c', v = .slice (some ⟨g, 0, none⟩) n c ∧ v' = .slice (some ⟨g', 0, none⟩) n c' := by
  rcases h.rk.2 with ⟨_, h0⟩ | ⟨g, cap, cur, e, _⟩
  · omega
  rcases h.rv.2 with ⟨_, h0⟩ | ⟨g', cap', cur', e', _⟩
  · omega
  exact ⟨g, cap, g', cap', e, e'⟩
theorem Iq.c1 {w : World} {S n g c j : Nat} {v' : Value} {P : Nat → PrQ} (h : Iq w S (.slice (some ⟨g, 0, none⟩) n c) v' n P) (hj : j < n) : w.cell? ⟨g, j, none⟩ = some (.int .i64 (P j).1) := by
  rw [h.rk.cellAt j (by omega)]
  simp [l1Q, hj]
theorem Iq.c2 {w : World} {S n g c j : Nat} {v : Value} {P : Nat → PrQ} (h : Iq w S v (.slice (some ⟨g, 0, none⟩) n c) n P) (hj : j < n) : w.cell? ⟨g, j, none⟩ = some (.int .i64 (P j).2) := by
  rw [h.rv.cellAt j (by omega)]
  simp [l2Q, hj]
theorem cntQ_le (F : Nat → PrQ) (p : PrQ) : ∀ n, cntQ F p n ≤ n
  | 0 => Nat.le_refl _
  | n + 1 => by
    have := cntQ_le F p n
    show cntQ F p n + _ ≤ n + 1
    split <;> omega
/-- One key more; one value more. -/
structure Iq1 (w : World) (S : Nat) (v v' : Value) (n : Nat) (P : Nat → PrQ) (x : Int) : Prop where
  rk : w.ownsRow S 3 1 v (n + 1) (l1Q P n ++ [.int .i64 x])
  rv : w.ownsRow S 3 1 v' n (l2Q P n)
  ap : v.ownBlock = none ∨ v.ownBlock ≠ v'.ownBlock
theorem Iq.step1 {w z : World} {S n : Nat} {v v' u : Value} {P : Nat → PrQ} {x : Int} {o : Obj} (h : Iq w S v v' n P) (hown : z.ownsRow S 3 1 u (n + 1) (l1Q P n ++ [.int .i64 x])) (hg : (w.alloc o).grownBy z v.ownBlock) (hat : u.ownBlock = v.ownBlock ∨ u.ownBlock = some (w.alloc o).heap.size) : Iq1 z S u v' n P x := by
  refine ⟨hown, (h.rv.alloc o).kept hg ?_, ?_⟩
  · rcases h.ap with e | e
    · by_cases c : v'.ownBlock = none
      · exact Or.inl c
      · right; rw [e]; exact c
    · exact Or.inr fun e' => e e'.symm
  · rcases hat with e | e
    · rw [e]; exact h.ap
    · right
      rw [e]
      intro e'
      have := ((h.rv.alloc o).lt _ e'.symm).2
      omega
theorem Iq1.step2 {w z : World} {S n : Nat} {v v' u : Value} {P : Nat → PrQ} {x : PrQ} {o : Obj} (h : Iq1 w S v v' n P x.1) (hown : z.ownsRow S 3 1 u (n + 1) (l2Q P n ++ [.int .i64 x.2])) (hg : (w.alloc o).grownBy z v'.ownBlock) (hat : u.ownBlock = v'.ownBlock ∨ u.ownBlock = some (w.alloc o).heap.size) : Iq z S v u (n + 1) (updQ P n x) := by
  have e1 : l1Q (updQ P n x) (n + 1) = l1Q P n ++ [.int .i64 x.1] := by
    unfold l1Q
    rw [List.range_succ, List.map_append]
    congr 1
    · exact List.map_congr_left fun j hj => by rw [updQ_far (by have := List.mem_range.1 hj; omega)]
    · simp [updQ_at]
  have e2 : l2Q (updQ P n x) (n + 1) = l2Q P n ++ [.int .i64 x.2] := by
    unfold l2Q
    rw [List.range_succ, List.map_append]
    congr 1
    · exact List.map_congr_left fun j hj => by rw [updQ_far (by have := List.mem_range.1 hj; omega)]
    · simp [updQ_at]
  refine ⟨by rw [e1]; exact (h.rk.alloc o).kept hg h.ap, by rw [e2]; exact hown, ?_⟩
  rcases hat with e | e
  · rw [e]; exact h.ap
  · right
    rw [e]
    intro e'
    have := ((h.rk.alloc o).lt _ e').2
    omega
theorem one_c (x : Int) : ∀ u ∈ ([.int .i64 x] : List Value), u.oneCell' = true := fun u hu => by simp at hu; subst hu; rfl
theorem info_i64q : (Try.prog.info? 3).map (fun i => (i.zero, i.size, i.bytes)) = some (some (.int .i64 0), 1, 8) := by kernel_rfl
set_option maxRecDepth 1000000 in
set_option maxHeartbeats 3200000 in
theorem queueRises_walk (a : Option Addr) (len cap : Nat) (w : World) (rows : Asks12 w a len cap) :
    Calls Try.prog 12 #[.slice a len cap] w fun e w' => e = .returned (.bool true) ∧ Below w.heap.size w w' := by
  obtain ⟨hl, hm, D, L, hall⟩ := rows
  have HAQ := Hk.mk hall
  clear hall
  have L0 : w.heap.size ≤ w.heap.size := Nat.le_refl _
  obtain ⟨n, hn⟩ : ∃ n : Nat, n = min len 80 := ⟨_, rfl⟩
  have hn80 : n ≤ 80 := by omega
  have hnl : n ≤ len := by omega
  by_cases h80 : len ≤ 80
  · have h80i : (len : Int) ≤ 80 := by omega
    have hni : (len : Int) = (n : Int) := by omega
    have h80d : decide ((80 : Int) < (len : Int)) = false := by simp; omega
    go_enter Try.func12, Try.ntmps12
    go_wp2_with (go_at_call 46; (with_reducible refine (qnew _ w.heap.size (Nat.le_refl _)).mono ?_); rintro e z ⟨Q, rfl, hQ, hq, hb⟩; have HQ := Hk.mk hq; have HB := Hk.mk hb; clear hq hb hQ)
    (try rw [hni])
    clear hn h80 h80i hni h80d
    go_loopw [5] (fun i wr => ∃ (k : Nat) (a1 : Option Addr) (c1 : Nat) (F : Nat → PrQ), i = .int .i64 k ∧ k ≤ n ∧ Hk (Hq wr w.heap.size Q a1 k c1 F) ∧ Hk (HpQ F k) ∧ Hk (∀ x, cntQ F x k = cntQ L x k) ∧ Hk (Below w.heap.size w wr)) (fun i _ => n - (intOf i).toNat)
    case atStart => exact ⟨0, none, 0, _, rfl, Nat.zero_le _, HQ, ⟨fun k h0 h => by omega⟩, ⟨fun _ => rfl⟩, HB⟩
    case round =>
      clear HQ HB
      obtain ⟨k, a1, c1, F, rfl, hk, HQ, HP, HC, HB⟩ := hrel
      by_cases hkn : k < n
      · obtain ⟨b, off, rfl, hb, hd, d0, d1, d2⟩ := HAQ.out k (by omega)
        obtain ⟨p, hp⟩ : ∃ p, L k = p := ⟨_, rfl⟩
        rw [hp] at d1 d2
        have HPK := Hk.mk hp
        clear hd hp d0
        have k0 : (0 : Int) ≤ (k : Int) := by omega
        have k1 : (k : Int) < (len : Int) := by omega
        go_wp2_with fail
        have HBS := HB
        clear HB
        have L0V : w.heap.size ≤ w.heap.size := Nat.le_refl _
        apply reg_merge
        intro HG1
        refine wp_region_held_drew (S := fun Z => (∀ b o, b < w.heap.size → Z.cell? ⟨b, o, none⟩ = w.cell? ⟨b, o, none⟩)) (by kernel_rfl) (kw_s HBS.out.drew) (fun hHeld => ?_)
        have HB := Hk.mk HBS.out.drew
        have hb := (Below.refl wr.heap.size wr).drew
        replace HQ := Hk.mk (HQ.out.later hb)
        clear hb
        obtain ⟨WY, hWe⟩ : ∃ WY, wr.drew = WY := ⟨_, rfl⟩
        rw [hWe] at HB hHeld HQ ⊢
        clear hWe
        refine wpAnyH_take (i := 0) (v := ?_) rfl (by kernel_rfl) (by kernel_rfl) (by kernel_rfl) (fun _ _ _ h => h) (Or.inl ⟨by rfl, fun wX hSw => ?_⟩) (by assumption) ?_
        rotate_left
        · (try dsimp only at hSw); go_simp; try with_reducible rfl
        (try simp only [Act.put, List.getElem_toArray, List.getElem_cons_succ, List.getElem_cons_zero, List.setIfInBounds_toArray, List.set_cons_zero, List.set_cons_succ])
        refine wpAnyH_take (i := 1) (v := ?_) rfl (by kernel_rfl) (by kernel_rfl) (by kernel_rfl) (fun _ _ _ h => h) (Or.inl ⟨by rfl, fun wX hSw => ?_⟩) (by assumption) ?_
        rotate_left
        · (try dsimp only at hSw); go_simp; try with_reducible rfl
        (try simp only [Act.put, List.getElem_toArray, List.getElem_cons_succ, List.getElem_cons_zero, List.setIfInBounds_toArray, List.set_cons_zero, List.set_cons_succ])
        refine wpAnyH_take (i := 2) (v := ?_) rfl (by kernel_rfl) (by kernel_rfl) (by kernel_rfl) (fun _ _ _ h => h) (Or.inl ⟨by rfl, fun wX hSw => ?_⟩) (by assumption) ?_
        rotate_left
        · (try dsimp only at hSw); go_simp; try with_reducible rfl
        (try simp only [Act.put, List.getElem_toArray, List.getElem_cons_succ, List.getElem_cons_zero, List.setIfInBounds_toArray, List.set_cons_zero, List.set_cons_succ])
        refine wpAnyH_take (i := 3) (v := ?_) rfl (by kernel_rfl) (by kernel_rfl) (by kernel_rfl) (fun _ _ _ h => h) (Or.inl ⟨by rfl, fun wX hSw => ?_⟩) (by assumption) ?_
        rotate_left
        · (try dsimp only at hSw); go_simp; try with_reducible rfl
        (try simp only [Act.put, List.getElem_toArray, List.getElem_cons_succ, List.getElem_cons_zero, List.setIfInBounds_toArray, List.set_cons_zero, List.set_cons_succ])
        refine wpAnyH_take (i := 4) (v := ?_) rfl (by kernel_rfl) (by kernel_rfl) (by kernel_rfl) (fun _ _ _ h => h) (Or.inl ⟨by rfl, fun wX hSw => ?_⟩) (by assumption) ?_
        rotate_left
        · (try dsimp only at hSw); go_simp; try with_reducible rfl
        (try simp only [Act.put, List.getElem_toArray, List.getElem_cons_succ, List.getElem_cons_zero, List.setIfInBounds_toArray, List.set_cons_zero, List.set_cons_succ])
        refine wpAnyH_take (i := 5) (v := ?_) rfl (by kernel_rfl) (by kernel_rfl) (by kernel_rfl) (fun _ _ _ h => h) (Or.inl ⟨by rfl, fun wX hSw => ?_⟩) (by assumption) ?_
        rotate_left
        · (try dsimp only at hSw); go_simp; try with_reducible rfl
        (try simp only [Act.put, List.getElem_toArray, List.getElem_cons_succ, List.getElem_cons_zero, List.setIfInBounds_toArray, List.set_cons_zero, List.set_cons_succ])
        refine wpAnyH_take (i := 6) (v := ?_) rfl (by kernel_rfl) (by kernel_rfl) (by kernel_rfl) (fun _ _ _ h => h) (Or.inl ⟨by rfl, fun wX hSw => ?_⟩) (by assumption) ?_
        rotate_left
        · (try dsimp only at hSw); go_simp; try with_reducible rfl
        (try simp only [Act.put, List.getElem_toArray, List.getElem_cons_succ, List.getElem_cons_zero, List.setIfInBounds_toArray, List.set_cons_zero, List.set_cons_succ])
        refine wpAnyH_take (i := 7) (v := ?_) rfl (by kernel_rfl) (by kernel_rfl) (by kernel_rfl) (fun _ _ _ h => h) (Or.inl ⟨by rfl, fun wX hSw => ?_⟩) (by assumption) ?_
        rotate_left
        · (try dsimp only at hSw); go_simp; try with_reducible rfl
        (try simp only [Act.put, List.getElem_toArray, List.getElem_cons_succ, List.getElem_cons_zero, List.setIfInBounds_toArray, List.set_cons_zero, List.set_cons_succ])
        refine wpAnyH_take (i := 8) (v := ?_) rfl (by kernel_rfl) (by kernel_rfl) (by kernel_rfl) (fun _ _ _ h => h) (Or.inl ⟨by rfl, fun wX hSw => ?_⟩) (by assumption) ?_
        rotate_left
        · (try dsimp only at hSw); go_simp; try with_reducible rfl
        (try simp only [Act.put, List.getElem_toArray, List.getElem_cons_succ, List.getElem_cons_zero, List.setIfInBounds_toArray, List.set_cons_zero, List.set_cons_succ])
        refine wpAnyH_take (i := 9) (v := ?_) rfl (by kernel_rfl) (by kernel_rfl) (by kernel_rfl) (fun _ _ _ h => h) (Or.inl ⟨by rfl, fun wX hSw => ?_⟩) (by assumption) ?_
        rotate_left
        · (try dsimp only at hSw); go_simp; try with_reducible rfl
        (try simp only [Act.put, List.getElem_toArray, List.getElem_cons_succ, List.getElem_cons_zero, List.setIfInBounds_toArray, List.set_cons_zero, List.set_cons_succ])
        refine wpAnyH_take (i := 10) (v := ?_) rfl (by kernel_rfl) (by kernel_rfl) (by kernel_rfl) (fun _ _ _ h => h) (Or.inl ⟨by rfl, fun wX hSw => ?_⟩) (by assumption) ?_
        rotate_left
        · (try dsimp only at hSw); go_simp; try with_reducible rfl
        (try simp only [Act.put, List.getElem_toArray, List.getElem_cons_succ, List.getElem_cons_zero, List.setIfInBounds_toArray, List.set_cons_zero, List.set_cons_succ])
        refine wpAnyH_ready (rs := [11]) (by kernel_rfl) (by simp) ?_
        refine AllReadyH.cons rfl (fun K hK => ?_) (AllReadyH.nil)
        · skip
          ((go_simp; (go_at_call 48; (with_reducible refine (qpush_at w.heap.size Q k c1 a1 F p.1 p.2 p ⟨rfl⟩ _ HQ.out HP.out (by omega)).mono ?_); rintro e z ⟨rfl, g2, c2, G2, hr⟩; have HQ2 := Hk.mk hr.q; have HP2 := Hk.mk hr.hp; have HC2 := Hk.mk hr.cn; replace HB := Hk.mk (HB.out.trans (HQ.out.bel hr.fr)); clear hr)))
          refine hK.out _ _ ?_ (fun hHeld2 => ?_)
          · exact kw_s HB.out
          clear hK K hHeld
          have hHeld := hHeld2
          clear hHeld2
          (try simp only [Act.put, List.getElem_toArray, List.getElem_cons_succ, List.getElem_cons_zero, List.setIfInBounds_toArray, List.set_cons_zero, List.set_cons_succ])
          clear HQ
          refine reg_cast (l' := #[true, true, true, true, true, true, true, true, true, true, true, true]) (by kernel_rfl) ?_
          revert hHeld
          revert HC2
          revert HP2
          revert HQ2
          revert HB
          revert G2
          revert c2
          revert g2
          revert z
          exact HG1.out
        intro WY g2 c2 G2 HB HQ2 HP2 HC2 hHeld
        refine wpAnyH_done (by kernel_rfl) ?_ _
        clear HBS hHeld L0V
        have HC3 : Hk (∀ x, cntQ G2 x (k + 1) = cntQ L x (k + 1)) := ⟨fun x => by rw [HC2.out x, HC.out x, ← HPK.out]; rfl⟩
        clear HC2 HC HP
        go_wp2_with fail
        exact ⟨⟨k + 1, _, _, G2, by go_num, by omega, HQ2, HP2, HC3, HB⟩, by simp [intOf]; omega⟩
      · obtain rfl : n = k := by omega
        go_wp2_with fail
        obtain ⟨S, hS⟩ : ∃ S, wr.heap.size = S := ⟨_, rfl⟩
        have HM : Hk (∀ j, MQ Q a1 j → j < S) := ⟨by rw [← hS]; exact HQ.out.mlt⟩
        have hSw : w.heap.size ≤ S := by rw [← hS]; exact HB.out.size
        have HSS : Hk (S ≤ wr.heap.size) := ⟨by omega⟩
        clear hS
        obtain ⟨ii, hii, hiz0, hiz1, hiz2⟩ := info_parts info_i64q
        obtain ⟨wo, rfl⟩ : ∃ wo : World, wo = wr := ⟨wr, rfl⟩
        go_loopw [6, 7, 8] (fun v6 v7 i wr => ∃ (i' m : Nat) (F P : Nat → PrQ), i = .int .i64 i' ∧ i' + m = n ∧ Hk (Hq wr w.heap.size Q a1 m c1 F) ∧ Hk (HpQ F m) ∧ Hk (∀ x, cntQ L x n = cntQ F x m + cntQ P x i') ∧ Hk (0 < i' → ∀ k, k < m → leQ (P (i' - 1)) (F k)) ∧ Hk (Iq wr S v6 v7 i' P) ∧ Hk (Below w.heap.size w wr) ∧ Hk (S ≤ wr.heap.size)) (fun _ _ i _ => n - (intOf i).toNat)
        case atStart => exact ⟨0, n, F, _, rfl, by omega, HQ, HP, ⟨fun x => by rw [HC.out x]; rfl⟩, ⟨fun h => by omega⟩, ⟨Iq.nil _ _ F⟩, HB, HSS⟩
        case round =>
          clear HQ HP HC HB HSS
          obtain ⟨i, m, F, P, rfl, him, HQ, HP, HC, HL, HI, HB, HS⟩ := hrel
          rcases Nat.eq_zero_or_pos m with h0 | h0
          · subst h0
            obtain rfl : n = i := by omega
            go_wp2_with (first
              | (go_at_call 50; (with_reducible refine (pop_nil w.heap.size Q _ _ F _ HQ.out).mono ?_); rintro e z ⟨rfl, rfl⟩)
              | (go_at_call 52; (with_reducible refine (qlen _ w.heap.size Q 0 _ _ _ HQ.out).mono ?_); rintro e z ⟨rfl, rfl⟩))
            have HCC : Hk (∀ x, cntQ L x n = cntQ P x n) := ⟨fun x => by rw [HC.out x]; show 0 + _ = _; omega⟩
            clear HC HL HQ HP HS HM
            obtain ⟨W3, hW3⟩ : ∃ W3, wr = W3 := ⟨_, rfl⟩
            rw [hW3] at HI HB
            go_loopw [15] (fun i wr => ∃ i' : Nat, i = .int .i64 i' ∧ i' ≤ n ∧ Hk (∃ q, wr = W3.drewN q)) (fun i _ => n - (intOf i).toNat)
            case atStart => exact ⟨0, rfl, Nat.zero_le _, ⟨0, hW3⟩⟩
            case round =>
              obtain ⟨i, rfl, hin, HD⟩ := hrel
              by_cases hil : i < n
              · obtain ⟨b, off, rfl, hb, hd, -, d1, d2⟩ := HAQ.out i (by omega)
                obtain ⟨x, hx⟩ : ∃ x, L i = x := ⟨_, rfl⟩
                rw [hx] at d1 d2
                have HE1 := Hk.mk ((HB.out.cell (p := ⟨b, off + i * 3 + 1, none⟩) hb).trans d1)
                have HE2 := Hk.mk ((HB.out.cell (p := ⟨b, off + i * 3 + 2, none⟩) hb).trans d2)
                clear d1 d2 hx hd
                have i0 : (0 : Int) ≤ (i : Int) := by omega
                have i1 : (i : Int) < (len : Int) := by omega
                have i2 : (i : Int) < (n : Int) := by omega
                go_wp2_with fail
                obtain ⟨wo4, rfl⟩ : ∃ wo : World, wo = wr := ⟨wr, rfl⟩
                go_loopw [16, 17, 18] (fun s t kv wr => ∃ k : Nat, kv = .int .i64 k ∧ k ≤ n ∧ s = .int .i64 (cntQ L x k : Nat) ∧ t = .int .i64 (cntQ P x k : Nat) ∧ Hk (∃ q, wr = W3.drewN q)) (fun _ _ kv _ => n - (intOf kv).toNat)
                case atStart => exact ⟨0, rfl, Nat.zero_le _, rfl, rfl, HD⟩
                case round =>
                  obtain ⟨k, rfl, hk, rfl, rfl, HD2⟩ := hrel
                  by_cases hkl : k < n
                  · obtain ⟨b', off', e', -, -, -, d1, d2⟩ := HAQ.out k (by omega)
                    injection e' with e'
                    injection e' with e1' e2'
                    subst e1' e2'
                    obtain ⟨y, hy⟩ : ∃ y, L k = y := ⟨_, rfl⟩
                    obtain ⟨p, hp⟩ : ∃ p, P k = p := ⟨_, rfl⟩
                    rw [hy] at d1 d2
                    have HY := Hk.mk hy
                    have HPP := Hk.mk hp
                    clear hy hp
                    obtain ⟨g6, c6, g7, c7, rfl, rfl⟩ := HI.out.form (by omega)
                    obtain ⟨q, hq⟩ := HD2.out
                    have b1 : wr.cell? ⟨b, off + i * 3 + 1, none⟩ = some (.int .i64 x.1) := by rw [hq]; exact HE1.out
                    have b2 : wr.cell? ⟨b, off + i * 3 + 2, none⟩ = some (.int .i64 x.2) := by rw [hq]; exact HE2.out
                    have b3 : wr.cell? ⟨b, off + k * 3 + 1, none⟩ = some (.int .i64 y.1) := by rw [hq]; exact (HB.out.cell (p := ⟨b, off + k * 3 + 1, none⟩) hb).trans d1
                    have b4 : wr.cell? ⟨b, off + k * 3 + 2, none⟩ = some (.int .i64 y.2) := by rw [hq]; exact (HB.out.cell (p := ⟨b, off + k * 3 + 2, none⟩) hb).trans d2
                    have b5 : wr.cell? ⟨g6, k, none⟩ = some (.int .i64 p.1) := by rw [hq, ← HPP.out]; exact HI.out.c1 hkl
                    have b6 : wr.cell? ⟨g7, k, none⟩ = some (.int .i64 p.2) := by rw [hq, ← HPP.out]; exact HI.out.c2 hkl
                    have k0 : (0 : Int) ≤ (k : Int) := by omega
                    have k1 : (k : Int) < (len : Int) := by omega
                    have k2 : (k : Int) < (n : Int) := by omega
                    have hcl := cntQ_le L x k
                    have hcp := cntQ_le P x k
                    clear hq d1 d2
                    by_cases e1 : y.1 = x.1
                    · have s1 : (y.1 == x.1) = true := by simpa using e1
                      by_cases e2 : y.2 = x.2
                      · have s2 : (y.2 == x.2) = true := by simpa using e2
                        have hyx : y = x := Prod.ext e1 e2
                        clear e1 e2
                        by_cases f1 : p.1 = x.1
                        · have t1 : (p.1 == x.1) = true := by simpa using f1
                          by_cases f2 : p.2 = x.2
                          · have t2 : (p.2 == x.2) = true := by simpa using f2
                            have hpx : p = x := Prod.ext f1 f2
                            clear f1 f2
                            go_wp2_with fail
                            go_quiet (fail)
                            go_wp2_with fail
                            go_quiet (fail)
                            go_wp2
                            obtain ⟨q2, hq2⟩ := HD2.out
                            exact ⟨⟨k + 1, by go_num, by omega, by rw [show cntQ L x (k + 1) = cntQ L x k + (if L k = x then 1 else 0) from rfl, HY.out]; first | (rw [if_pos hyx]; first | rfl | go_num) | (rw [if_neg hyx]; rfl), by rw [show cntQ P x (k + 1) = cntQ P x k + (if P k = x then 1 else 0) from rfl, HPP.out]; first | (rw [if_pos hpx]; first | rfl | go_num) | (rw [if_neg hpx]; rfl), ⟨⟨_, by rw [hq2]; first | rfl | (simp only [World.drewN_drewN]; rfl)⟩⟩⟩, by simp [intOf]; omega⟩
                          · have t2 : (p.2 == x.2) = false := by simpa using f2
                            have hpx : ¬ p = x := fun h => f2 (by rw [h])
                            clear f1 f2
                            go_wp2_with fail
                            go_quiet (fail)
                            go_wp2_with fail
                            go_quiet (fail)
                            go_wp2
                            obtain ⟨q2, hq2⟩ := HD2.out
                            exact ⟨⟨k + 1, by go_num, by omega, by rw [show cntQ L x (k + 1) = cntQ L x k + (if L k = x then 1 else 0) from rfl, HY.out]; first | (rw [if_pos hyx]; first | rfl | go_num) | (rw [if_neg hyx]; rfl), by rw [show cntQ P x (k + 1) = cntQ P x k + (if P k = x then 1 else 0) from rfl, HPP.out]; first | (rw [if_pos hpx]; first | rfl | go_num) | (rw [if_neg hpx]; rfl), ⟨⟨_, by rw [hq2]; first | rfl | (simp only [World.drewN_drewN]; rfl)⟩⟩⟩, by simp [intOf]; omega⟩
                        · have t1 : (p.1 == x.1) = false := by simpa using f1
                          have hpx : ¬ p = x := fun h => f1 (by rw [h])
                          clear f1
                          go_wp2_with fail
                          go_quiet (fail)
                          go_wp2_with fail
                          go_quiet (fail)
                          go_wp2
                          obtain ⟨q2, hq2⟩ := HD2.out
                          exact ⟨⟨k + 1, by go_num, by omega, by rw [show cntQ L x (k + 1) = cntQ L x k + (if L k = x then 1 else 0) from rfl, HY.out]; first | (rw [if_pos hyx]; first | rfl | go_num) | (rw [if_neg hyx]; rfl), by rw [show cntQ P x (k + 1) = cntQ P x k + (if P k = x then 1 else 0) from rfl, HPP.out]; first | (rw [if_pos hpx]; first | rfl | go_num) | (rw [if_neg hpx]; rfl), ⟨⟨_, by rw [hq2]; first | rfl | (simp only [World.drewN_drewN]; rfl)⟩⟩⟩, by simp [intOf]; omega⟩
                      · have s2 : (y.2 == x.2) = false := by simpa using e2
                        have hyx : ¬ y = x := fun h => e2 (by rw [h])
                        clear e1 e2
                        by_cases f1 : p.1 = x.1
                        · have t1 : (p.1 == x.1) = true := by simpa using f1
                          by_cases f2 : p.2 = x.2
                          · have t2 : (p.2 == x.2) = true := by simpa using f2
                            have hpx : p = x := Prod.ext f1 f2
                            clear f1 f2
                            go_wp2_with fail
                            go_quiet (fail)
                            go_wp2_with fail
                            go_quiet (fail)
                            go_wp2
                            obtain ⟨q2, hq2⟩ := HD2.out
                            exact ⟨⟨k + 1, by go_num, by omega, by rw [show cntQ L x (k + 1) = cntQ L x k + (if L k = x then 1 else 0) from rfl, HY.out]; first | (rw [if_pos hyx]; first | rfl | go_num) | (rw [if_neg hyx]; rfl), by rw [show cntQ P x (k + 1) = cntQ P x k + (if P k = x then 1 else 0) from rfl, HPP.out]; first | (rw [if_pos hpx]; first | rfl | go_num) | (rw [if_neg hpx]; rfl), ⟨⟨_, by rw [hq2]; first | rfl | (simp only [World.drewN_drewN]; rfl)⟩⟩⟩, by simp [intOf]; omega⟩
                          · have t2 : (p.2 == x.2) = false := by simpa using f2
                            have hpx : ¬ p = x := fun h => f2 (by rw [h])
                            clear f1 f2
                            go_wp2_with fail
                            go_quiet (fail)
                            go_wp2_with fail
                            go_quiet (fail)
                            go_wp2
                            obtain ⟨q2, hq2⟩ := HD2.out
                            exact ⟨⟨k + 1, by go_num, by omega, by rw [show cntQ L x (k + 1) = cntQ L x k + (if L k = x then 1 else 0) from rfl, HY.out]; first | (rw [if_pos hyx]; first | rfl | go_num) | (rw [if_neg hyx]; rfl), by rw [show cntQ P x (k + 1) = cntQ P x k + (if P k = x then 1 else 0) from rfl, HPP.out]; first | (rw [if_pos hpx]; first | rfl | go_num) | (rw [if_neg hpx]; rfl), ⟨⟨_, by rw [hq2]; first | rfl | (simp only [World.drewN_drewN]; rfl)⟩⟩⟩, by simp [intOf]; omega⟩
                        · have t1 : (p.1 == x.1) = false := by simpa using f1
                          have hpx : ¬ p = x := fun h => f1 (by rw [h])
                          clear f1
                          go_wp2_with fail
                          go_quiet (fail)
                          go_wp2_with fail
                          go_quiet (fail)
                          go_wp2
                          obtain ⟨q2, hq2⟩ := HD2.out
                          exact ⟨⟨k + 1, by go_num, by omega, by rw [show cntQ L x (k + 1) = cntQ L x k + (if L k = x then 1 else 0) from rfl, HY.out]; first | (rw [if_pos hyx]; first | rfl | go_num) | (rw [if_neg hyx]; rfl), by rw [show cntQ P x (k + 1) = cntQ P x k + (if P k = x then 1 else 0) from rfl, HPP.out]; first | (rw [if_pos hpx]; first | rfl | go_num) | (rw [if_neg hpx]; rfl), ⟨⟨_, by rw [hq2]; first | rfl | (simp only [World.drewN_drewN]; rfl)⟩⟩⟩, by simp [intOf]; omega⟩
                    · have s1 : (y.1 == x.1) = false := by simpa using e1
                      have hyx : ¬ y = x := fun h => e1 (by rw [h])
                      clear e1
                      by_cases f1 : p.1 = x.1
                      · have t1 : (p.1 == x.1) = true := by simpa using f1
                        by_cases f2 : p.2 = x.2
                        · have t2 : (p.2 == x.2) = true := by simpa using f2
                          have hpx : p = x := Prod.ext f1 f2
                          clear f1 f2
                          go_wp2_with fail
                          go_quiet (fail)
                          go_wp2_with fail
                          go_quiet (fail)
                          go_wp2
                          obtain ⟨q2, hq2⟩ := HD2.out
                          exact ⟨⟨k + 1, by go_num, by omega, by rw [show cntQ L x (k + 1) = cntQ L x k + (if L k = x then 1 else 0) from rfl, HY.out]; first | (rw [if_pos hyx]; first | rfl | go_num) | (rw [if_neg hyx]; rfl), by rw [show cntQ P x (k + 1) = cntQ P x k + (if P k = x then 1 else 0) from rfl, HPP.out]; first | (rw [if_pos hpx]; first | rfl | go_num) | (rw [if_neg hpx]; rfl), ⟨⟨_, by rw [hq2]; first | rfl | (simp only [World.drewN_drewN]; rfl)⟩⟩⟩, by simp [intOf]; omega⟩
                        · have t2 : (p.2 == x.2) = false := by simpa using f2
                          have hpx : ¬ p = x := fun h => f2 (by rw [h])
                          clear f1 f2
                          go_wp2_with fail
                          go_quiet (fail)
                          go_wp2_with fail
                          go_quiet (fail)
                          go_wp2
                          obtain ⟨q2, hq2⟩ := HD2.out
                          exact ⟨⟨k + 1, by go_num, by omega, by rw [show cntQ L x (k + 1) = cntQ L x k + (if L k = x then 1 else 0) from rfl, HY.out]; first | (rw [if_pos hyx]; first | rfl | go_num) | (rw [if_neg hyx]; rfl), by rw [show cntQ P x (k + 1) = cntQ P x k + (if P k = x then 1 else 0) from rfl, HPP.out]; first | (rw [if_pos hpx]; first | rfl | go_num) | (rw [if_neg hpx]; rfl), ⟨⟨_, by rw [hq2]; first | rfl | (simp only [World.drewN_drewN]; rfl)⟩⟩⟩, by simp [intOf]; omega⟩
                      · have t1 : (p.1 == x.1) = false := by simpa using f1
                        have hpx : ¬ p = x := fun h => f1 (by rw [h])
                        clear f1
                        go_wp2_with fail
                        go_quiet (fail)
                        go_wp2_with fail
                        go_quiet (fail)
                        go_wp2
                        obtain ⟨q2, hq2⟩ := HD2.out
                        exact ⟨⟨k + 1, by go_num, by omega, by rw [show cntQ L x (k + 1) = cntQ L x k + (if L k = x then 1 else 0) from rfl, HY.out]; first | (rw [if_pos hyx]; first | rfl | go_num) | (rw [if_neg hyx]; rfl), by rw [show cntQ P x (k + 1) = cntQ P x k + (if P k = x then 1 else 0) from rfl, HPP.out]; first | (rw [if_pos hpx]; first | rfl | go_num) | (rw [if_neg hpx]; rfl), ⟨⟨_, by rw [hq2]; first | rfl | (simp only [World.drewN_drewN]; rfl)⟩⟩⟩, by simp [intOf]; omega⟩
                  · obtain rfl : n = k := by omega
                    have hcl := cntQ_le L x n
                    rw [← HCC.out x]
                    generalize cntQ L x n = C at *
                    go_wp2_with fail
                    exact ⟨⟨i + 1, by go_num, by omega, HD2⟩, by simp [intOf]; omega⟩
              · obtain ⟨q, hq⟩ := HD.out
                have HB3 : Hk (Below w.heap.size w wr) := ⟨by rw [hq]; exact below_drewN HB.out q⟩
                clear hq
                go_wp2_with (first
                  | (go_at_call 38; (with_reducible refine (eqn_yes none none 0 0 0 0 0 [] _ (Nq.nil _ _ _) (Nq.nil _ _ _) (by omega)).mono ?_); rintro e z ⟨rfl, m, rfl⟩; replace HB3 := Hk.mk (below_drewN HB3.out m))
                  | (go_at_call 53; (with_reducible refine (wakes12_any _).mono ?_); rintro e z ⟨rfl, hb⟩; have HB4 := Hk.mk (HB3.out.trans (hb.mono HB3.out.size)); clear hb))
                go_ret
                exact ⟨rfl, HB4.out⟩
          · obtain ⟨m', rfl⟩ : ∃ m', m = m' + 1 := ⟨m - 1, by omega⟩
            obtain ⟨x, hx⟩ : ∃ x, F 0 = x := ⟨_, rfl⟩
            have HX := Hk.mk hx
            clear hx
            rcases Nat.eq_zero_or_pos i with i0 | i0
            · subst i0
              have hn0 : (0 : Int) < (n : Int) := by omega
              go_wp2_with (first | (go_at_call 50; (with_reducible refine (pop_any w.heap.size Q m' _ _ F _ HQ.out HP.out (by omega)).mono ?_); rintro e z ⟨rfl, G, hq, hp2, hc2, hf⟩; rw [HX.out] at hc2 ⊢; have HQ4 := Hk.mk hq; have HP4 := Hk.mk hp2; have HC4 := Hk.mk hc2; have HI4 := Hk.mk (HI.out.fr hf HM.out); have HB4 := Hk.mk (HB.out.trans (HQ.out.bel hf)); have HS4 := Hk.mk (Nat.le_trans HS.out hf.size); clear hq hp2 hc2 hf) | (at_builtin; refine wpList_append_own_at _ rfl _ _ 26 rfl S 3 ii (.int .i64 0) 1 8 Try.underlying26 hii hiz0 hiz1 hiz2 rfl (by decide) _ 0 _ rfl (HI4.out.rk.alloc _) ⟨z.heap.size, 0, none⟩ 1 1 [.int .i64 x.1] rfl rfl (one_new z _ _) (one_c x.1) (by unfold maxLen; omega) (by omega) (by have := HS4.out; simp; omega) ?_; intro v8 z8 hown8 hgrow8 hnil8 hat8; have HI8 := Hk.mk (HI4.out.step1 hown8 hgrow8 hat8); have HZ8 : Hk (Below S z z8) := ⟨((Below.refl S z).alloc HS4.out _).grown hgrow8 (by have := HS4.out; simp; omega) (fun j hj => (HI4.out.rk.lt j hj).1)⟩; clear hown8 hgrow8 hnil8 hat8) | (at_builtin; go_must (refine wpList_append_own_at _ rfl _ _ 26 rfl S 3 ii (.int .i64 0) 1 8 Try.underlying26 hii hiz0 hiz1 hiz2 rfl (by decide) _ 0 _ rfl (HI8.out.rv.alloc _) ⟨z8.heap.size, 0, none⟩ 1 1 [.int .i64 x.2] rfl rfl (one_new z8 _ _) (one_c x.2) (by unfold maxLen; omega) (by omega) (by have := HS4.out; have := HZ8.out.size; simp; omega) ?_); intro v9 z9 hown9 hgrow9 hnil9 hat9; have HI9 := Hk.mk (HI8.out.step2 (x := x) hown9 hgrow9 hat9); have HZ9 : Hk (Below S z z9) := ⟨(HZ8.out.alloc (by have := HS4.out; have := HZ8.out.size; omega) _).grown hgrow9 (by have := HS4.out; have := HZ8.out.size; simp; omega) (fun j hj => (HI8.out.rv.lt j hj).1)⟩; clear hown9 hgrow9 hnil9 hat9))
              have HQ9 := Hk.mk (HQ4.out.belowN HM.out HZ9.out)
              have HB9 := Hk.mk (HB4.out.trans (HZ9.out.mono hSw))
              have HS9 : Hk (S ≤ z9.heap.size) := ⟨Nat.le_trans HS4.out HZ9.out.size⟩
              have HC9 : Hk (∀ y, cntQ L y n = cntQ G y m' + cntQ (updQ P (0) x) y (0 + 1)) := ⟨fun y => by rw [HC.out y, HC4.out y]; show _ = _ + (cntQ (updQ P (0) x) y (0) + (if updQ P (0) x (0) = y then 1 else 0)); rw [cntQ_congr (G := P) (fun k hk => updQ_far (by omega)), updQ_at]; omega⟩
              have HL9 : Hk (0 < 0 + 1 → ∀ k, k < m' → leQ (updQ P (0) x (0 + 1 - 1)) (G k)) := ⟨fun _ k hk => by
                rw [show 0 + 1 - 1 = 0 by omega, updQ_at]
                have h1 := cntQ_has (F := G) hk
                have h2 := HC4.out (G k)
                obtain ⟨q, hq, e⟩ := cntQ_pos (F := F) (p := G k) (n := m' + 1) (by omega)
                rw [← e, ← HX.out]
                exact HP.out.min q hq⟩
              exact ⟨⟨0 + 1, m', G, updQ P (0) x, by go_num, by omega, HQ9, HP4, HC9, HL9, HI9, HB9, HS9⟩, by simp [intOf]; omega⟩
            · obtain ⟨j, rfl⟩ : ∃ j, i = j + 1 := ⟨i - 1, by omega⟩
              obtain ⟨g6, c6, g7, c7, rfl, rfl⟩ := HI.out.form (by omega)
              obtain ⟨y, hy⟩ : ∃ y, P j = y := ⟨_, rfl⟩
              have hle := HL.out (by omega) 0 (by omega)
              rw [show j + 1 - 1 = j by omega, hy, HX.out, leQ_iff] at hle
              have HY := Hk.mk hy
              clear hy
              have dk : decide (x.1 < y.1) = false := by simp; omega
              have j0 : (0 : Int) < (j : Int) + 1 := by omega
              have j1 : (0 : Int) ≤ (j : Int) := by omega
              have j2 : (j : Int) < (j : Int) + 1 := by omega
              have j3 : (j : Int) + 1 < (n : Int) := by omega
              have gl := (HI.out.rk.lt g6 rfl).2
              by_cases e : y.1 = x.1
              · have de : (y.1 == x.1) = true := by simpa using e
                have dv : decide (x.2 < y.2) = false := by simp; omega
                clear hle e
                go_wp2_with (first | (go_at_call 50; (with_reducible refine (pop_any w.heap.size Q m' _ _ F _ HQ.out HP.out (by omega)).mono ?_); rintro e z ⟨rfl, G, hq, hp2, hc2, hf⟩; rw [HX.out] at hc2 ⊢; have HQ4 := Hk.mk hq; have HP4 := Hk.mk hp2; have HC4 := Hk.mk hc2; have HI4 := Hk.mk (HI.out.fr hf HM.out); have HB4 := Hk.mk (HB.out.trans (HQ.out.bel hf)); have HS4 := Hk.mk (Nat.le_trans HS.out hf.size); clear hq hp2 hc2 hf; have b6 := HI4.out.c1 (j := j) (by omega); have b7 := HI4.out.c2 (j := j) (by omega); rw [HY.out] at b6 b7) | (at_builtin; refine wpList_append_own_at _ rfl _ _ 26 rfl S 3 ii (.int .i64 0) 1 8 Try.underlying26 hii hiz0 hiz1 hiz2 rfl (by decide) _ (j + 1) _ rfl (HI4.out.rk.alloc _) ⟨z.heap.size, 0, none⟩ 1 1 [.int .i64 x.1] rfl rfl (one_new z _ _) (one_c x.1) (by unfold maxLen; omega) (by omega) (by have := HS4.out; simp; omega) ?_; intro v8 z8 hown8 hgrow8 hnil8 hat8; have HI8 := Hk.mk (HI4.out.step1 hown8 hgrow8 hat8); have HZ8 : Hk (Below S z z8) := ⟨((Below.refl S z).alloc HS4.out _).grown hgrow8 (by have := HS4.out; simp; omega) (fun j hj => (HI4.out.rk.lt j hj).1)⟩; clear hown8 hgrow8 hnil8 hat8) | (at_builtin; go_must (refine wpList_append_own_at _ rfl _ _ 26 rfl S 3 ii (.int .i64 0) 1 8 Try.underlying26 hii hiz0 hiz1 hiz2 rfl (by decide) _ (j + 1) _ rfl (HI8.out.rv.alloc _) ⟨z8.heap.size, 0, none⟩ 1 1 [.int .i64 x.2] rfl rfl (one_new z8 _ _) (one_c x.2) (by unfold maxLen; omega) (by omega) (by have := HS4.out; have := HZ8.out.size; simp; omega) ?_); intro v9 z9 hown9 hgrow9 hnil9 hat9; have HI9 := Hk.mk (HI8.out.step2 (x := x) hown9 hgrow9 hat9); have HZ9 : Hk (Below S z z9) := ⟨(HZ8.out.alloc (by have := HS4.out; have := HZ8.out.size; omega) _).grown hgrow9 (by have := HS4.out; have := HZ8.out.size; simp; omega) (fun j hj => (HI8.out.rv.lt j hj).1)⟩; clear hown9 hgrow9 hnil9 hat9))
                have HQ9 := Hk.mk (HQ4.out.belowN HM.out HZ9.out)
                have HB9 := Hk.mk (HB4.out.trans (HZ9.out.mono hSw))
                have HS9 : Hk (S ≤ z9.heap.size) := ⟨Nat.le_trans HS4.out HZ9.out.size⟩
                have HC9 : Hk (∀ y, cntQ L y n = cntQ G y m' + cntQ (updQ P ((j + 1)) x) y ((j + 1) + 1)) := ⟨fun y => by rw [HC.out y, HC4.out y]; show _ = _ + (cntQ (updQ P ((j + 1)) x) y ((j + 1)) + (if updQ P ((j + 1)) x ((j + 1)) = y then 1 else 0)); rw [cntQ_congr (G := P) (fun k hk => updQ_far (by omega)), updQ_at]; omega⟩
                have HL9 : Hk (0 < (j + 1) + 1 → ∀ k, k < m' → leQ (updQ P ((j + 1)) x ((j + 1) + 1 - 1)) (G k)) := ⟨fun _ k hk => by
                  rw [show (j + 1) + 1 - 1 = (j + 1) by omega, updQ_at]
                  have h1 := cntQ_has (F := G) hk
                  have h2 := HC4.out (G k)
                  obtain ⟨q, hq, e⟩ := cntQ_pos (F := F) (p := G k) (n := m' + 1) (by omega)
                  rw [← e, ← HX.out]
                  exact HP.out.min q hq⟩
                exact ⟨⟨(j + 1) + 1, m', G, updQ P ((j + 1)) x, by go_num, by omega, HQ9, HP4, HC9, HL9, HI9, HB9, HS9⟩, by simp [intOf]; omega⟩
              · have de : (y.1 == x.1) = false := by simpa using e
                clear hle e
                go_wp2_with (first | (go_at_call 50; (with_reducible refine (pop_any w.heap.size Q m' _ _ F _ HQ.out HP.out (by omega)).mono ?_); rintro e z ⟨rfl, G, hq, hp2, hc2, hf⟩; rw [HX.out] at hc2 ⊢; have HQ4 := Hk.mk hq; have HP4 := Hk.mk hp2; have HC4 := Hk.mk hc2; have HI4 := Hk.mk (HI.out.fr hf HM.out); have HB4 := Hk.mk (HB.out.trans (HQ.out.bel hf)); have HS4 := Hk.mk (Nat.le_trans HS.out hf.size); clear hq hp2 hc2 hf; have b6 := HI4.out.c1 (j := j) (by omega); have b7 := HI4.out.c2 (j := j) (by omega); rw [HY.out] at b6 b7) | (at_builtin; refine wpList_append_own_at _ rfl _ _ 26 rfl S 3 ii (.int .i64 0) 1 8 Try.underlying26 hii hiz0 hiz1 hiz2 rfl (by decide) _ (j + 1) _ rfl (HI4.out.rk.alloc _) ⟨z.heap.size, 0, none⟩ 1 1 [.int .i64 x.1] rfl rfl (one_new z _ _) (one_c x.1) (by unfold maxLen; omega) (by omega) (by have := HS4.out; simp; omega) ?_; intro v8 z8 hown8 hgrow8 hnil8 hat8; have HI8 := Hk.mk (HI4.out.step1 hown8 hgrow8 hat8); have HZ8 : Hk (Below S z z8) := ⟨((Below.refl S z).alloc HS4.out _).grown hgrow8 (by have := HS4.out; simp; omega) (fun j hj => (HI4.out.rk.lt j hj).1)⟩; clear hown8 hgrow8 hnil8 hat8) | (at_builtin; go_must (refine wpList_append_own_at _ rfl _ _ 26 rfl S 3 ii (.int .i64 0) 1 8 Try.underlying26 hii hiz0 hiz1 hiz2 rfl (by decide) _ (j + 1) _ rfl (HI8.out.rv.alloc _) ⟨z8.heap.size, 0, none⟩ 1 1 [.int .i64 x.2] rfl rfl (one_new z8 _ _) (one_c x.2) (by unfold maxLen; omega) (by omega) (by have := HS4.out; have := HZ8.out.size; simp; omega) ?_); intro v9 z9 hown9 hgrow9 hnil9 hat9; have HI9 := Hk.mk (HI8.out.step2 (x := x) hown9 hgrow9 hat9); have HZ9 : Hk (Below S z z9) := ⟨(HZ8.out.alloc (by have := HS4.out; have := HZ8.out.size; omega) _).grown hgrow9 (by have := HS4.out; have := HZ8.out.size; simp; omega) (fun j hj => (HI8.out.rv.lt j hj).1)⟩; clear hown9 hgrow9 hnil9 hat9))
                have HQ9 := Hk.mk (HQ4.out.belowN HM.out HZ9.out)
                have HB9 := Hk.mk (HB4.out.trans (HZ9.out.mono hSw))
                have HS9 : Hk (S ≤ z9.heap.size) := ⟨Nat.le_trans HS4.out HZ9.out.size⟩
                have HC9 : Hk (∀ y, cntQ L y n = cntQ G y m' + cntQ (updQ P ((j + 1)) x) y ((j + 1) + 1)) := ⟨fun y => by rw [HC.out y, HC4.out y]; show _ = _ + (cntQ (updQ P ((j + 1)) x) y ((j + 1)) + (if updQ P ((j + 1)) x ((j + 1)) = y then 1 else 0)); rw [cntQ_congr (G := P) (fun k hk => updQ_far (by omega)), updQ_at]; omega⟩
                have HL9 : Hk (0 < (j + 1) + 1 → ∀ k, k < m' → leQ (updQ P ((j + 1)) x ((j + 1) + 1 - 1)) (G k)) := ⟨fun _ k hk => by
                  rw [show (j + 1) + 1 - 1 = (j + 1) by omega, updQ_at]
                  have h1 := cntQ_has (F := G) hk
                  have h2 := HC4.out (G k)
                  obtain ⟨q, hq, e⟩ := cntQ_pos (F := F) (p := G k) (n := m' + 1) (by omega)
                  rw [← e, ← HX.out]
                  exact HP.out.min q hq⟩
                exact ⟨⟨(j + 1) + 1, m', G, updQ P ((j + 1)) x, by go_num, by omega, HQ9, HP4, HC9, HL9, HI9, HB9, HS9⟩, by simp [intOf]; omega⟩
  · have h80i : ¬ ((len : Int) ≤ 80) := by omega
    have hni : (80 : Int) = (n : Int) := by omega
    have h80d : decide ((80 : Int) < (len : Int)) = true := by simp; omega
    have HNI := Hk.mk hni
    clear hni
    go_enter Try.func12, Try.ntmps12
    go_wp2_with (go_at_call 46; (with_reducible refine (qnew _ w.heap.size (Nat.le_refl _)).mono ?_); rintro e z ⟨Q, rfl, hQ, hq, hb⟩; have HQ := Hk.mk hq; have HB := Hk.mk hb; clear hq hb hQ)
    have hni := HNI.out
    clear HNI
    rw [hni]
    clear hn h80 h80i hni h80d
    go_loopw [5] (fun i wr => ∃ (k : Nat) (a1 : Option Addr) (c1 : Nat) (F : Nat → PrQ), i = .int .i64 k ∧ k ≤ n ∧ Hk (Hq wr w.heap.size Q a1 k c1 F) ∧ Hk (HpQ F k) ∧ Hk (∀ x, cntQ F x k = cntQ L x k) ∧ Hk (Below w.heap.size w wr)) (fun i _ => n - (intOf i).toNat)
    case atStart => exact ⟨0, none, 0, _, rfl, Nat.zero_le _, HQ, ⟨fun k h0 h => by omega⟩, ⟨fun _ => rfl⟩, HB⟩
    case round =>
      clear HQ HB
      obtain ⟨k, a1, c1, F, rfl, hk, HQ, HP, HC, HB⟩ := hrel
      by_cases hkn : k < n
      · obtain ⟨b, off, rfl, hb, hd, d0, d1, d2⟩ := HAQ.out k (by omega)
        obtain ⟨p, hp⟩ : ∃ p, L k = p := ⟨_, rfl⟩
        rw [hp] at d1 d2
        have HPK := Hk.mk hp
        clear hd hp d0
        have k0 : (0 : Int) ≤ (k : Int) := by omega
        have k1 : (k : Int) < (len : Int) := by omega
        go_wp2_with fail
        have HBS := HB
        clear HB
        have L0V : w.heap.size ≤ w.heap.size := Nat.le_refl _
        apply reg_merge
        intro HG1
        refine wp_region_held_drew (S := fun Z => (∀ b o, b < w.heap.size → Z.cell? ⟨b, o, none⟩ = w.cell? ⟨b, o, none⟩)) (by kernel_rfl) (kw_s HBS.out.drew) (fun hHeld => ?_)
        have HB := Hk.mk HBS.out.drew
        have hb := (Below.refl wr.heap.size wr).drew
        replace HQ := Hk.mk (HQ.out.later hb)
        clear hb
        obtain ⟨WY, hWe⟩ : ∃ WY, wr.drew = WY := ⟨_, rfl⟩
        rw [hWe] at HB hHeld HQ ⊢
        clear hWe
        refine wpAnyH_take (i := 0) (v := ?_) rfl (by kernel_rfl) (by kernel_rfl) (by kernel_rfl) (fun _ _ _ h => h) (Or.inl ⟨by rfl, fun wX hSw => ?_⟩) (by assumption) ?_
        rotate_left
        · (try dsimp only at hSw); go_simp; try with_reducible rfl
        (try simp only [Act.put, List.getElem_toArray, List.getElem_cons_succ, List.getElem_cons_zero, List.setIfInBounds_toArray, List.set_cons_zero, List.set_cons_succ])
        refine wpAnyH_take (i := 1) (v := ?_) rfl (by kernel_rfl) (by kernel_rfl) (by kernel_rfl) (fun _ _ _ h => h) (Or.inl ⟨by rfl, fun wX hSw => ?_⟩) (by assumption) ?_
        rotate_left
        · (try dsimp only at hSw); go_simp; try with_reducible rfl
        (try simp only [Act.put, List.getElem_toArray, List.getElem_cons_succ, List.getElem_cons_zero, List.setIfInBounds_toArray, List.set_cons_zero, List.set_cons_succ])
        refine wpAnyH_take (i := 2) (v := ?_) rfl (by kernel_rfl) (by kernel_rfl) (by kernel_rfl) (fun _ _ _ h => h) (Or.inl ⟨by rfl, fun wX hSw => ?_⟩) (by assumption) ?_
        rotate_left
        · (try dsimp only at hSw); go_simp; try with_reducible rfl
        (try simp only [Act.put, List.getElem_toArray, List.getElem_cons_succ, List.getElem_cons_zero, List.setIfInBounds_toArray, List.set_cons_zero, List.set_cons_succ])
        refine wpAnyH_take (i := 3) (v := ?_) rfl (by kernel_rfl) (by kernel_rfl) (by kernel_rfl) (fun _ _ _ h => h) (Or.inl ⟨by rfl, fun wX hSw => ?_⟩) (by assumption) ?_
        rotate_left
        · (try dsimp only at hSw); go_simp; try with_reducible rfl
        (try simp only [Act.put, List.getElem_toArray, List.getElem_cons_succ, List.getElem_cons_zero, List.setIfInBounds_toArray, List.set_cons_zero, List.set_cons_succ])
        refine wpAnyH_take (i := 4) (v := ?_) rfl (by kernel_rfl) (by kernel_rfl) (by kernel_rfl) (fun _ _ _ h => h) (Or.inl ⟨by rfl, fun wX hSw => ?_⟩) (by assumption) ?_
        rotate_left
        · (try dsimp only at hSw); go_simp; try with_reducible rfl
        (try simp only [Act.put, List.getElem_toArray, List.getElem_cons_succ, List.getElem_cons_zero, List.setIfInBounds_toArray, List.set_cons_zero, List.set_cons_succ])
        refine wpAnyH_take (i := 5) (v := ?_) rfl (by kernel_rfl) (by kernel_rfl) (by kernel_rfl) (fun _ _ _ h => h) (Or.inl ⟨by rfl, fun wX hSw => ?_⟩) (by assumption) ?_
        rotate_left
        · (try dsimp only at hSw); go_simp; try with_reducible rfl
        (try simp only [Act.put, List.getElem_toArray, List.getElem_cons_succ, List.getElem_cons_zero, List.setIfInBounds_toArray, List.set_cons_zero, List.set_cons_succ])
        refine wpAnyH_take (i := 6) (v := ?_) rfl (by kernel_rfl) (by kernel_rfl) (by kernel_rfl) (fun _ _ _ h => h) (Or.inl ⟨by rfl, fun wX hSw => ?_⟩) (by assumption) ?_
        rotate_left
        · (try dsimp only at hSw); go_simp; try with_reducible rfl
        (try simp only [Act.put, List.getElem_toArray, List.getElem_cons_succ, List.getElem_cons_zero, List.setIfInBounds_toArray, List.set_cons_zero, List.set_cons_succ])
        refine wpAnyH_take (i := 7) (v := ?_) rfl (by kernel_rfl) (by kernel_rfl) (by kernel_rfl) (fun _ _ _ h => h) (Or.inl ⟨by rfl, fun wX hSw => ?_⟩) (by assumption) ?_
        rotate_left
        · (try dsimp only at hSw); go_simp; try with_reducible rfl
        (try simp only [Act.put, List.getElem_toArray, List.getElem_cons_succ, List.getElem_cons_zero, List.setIfInBounds_toArray, List.set_cons_zero, List.set_cons_succ])
        refine wpAnyH_take (i := 8) (v := ?_) rfl (by kernel_rfl) (by kernel_rfl) (by kernel_rfl) (fun _ _ _ h => h) (Or.inl ⟨by rfl, fun wX hSw => ?_⟩) (by assumption) ?_
        rotate_left
        · (try dsimp only at hSw); go_simp; try with_reducible rfl
        (try simp only [Act.put, List.getElem_toArray, List.getElem_cons_succ, List.getElem_cons_zero, List.setIfInBounds_toArray, List.set_cons_zero, List.set_cons_succ])
        refine wpAnyH_take (i := 9) (v := ?_) rfl (by kernel_rfl) (by kernel_rfl) (by kernel_rfl) (fun _ _ _ h => h) (Or.inl ⟨by rfl, fun wX hSw => ?_⟩) (by assumption) ?_
        rotate_left
        · (try dsimp only at hSw); go_simp; try with_reducible rfl
        (try simp only [Act.put, List.getElem_toArray, List.getElem_cons_succ, List.getElem_cons_zero, List.setIfInBounds_toArray, List.set_cons_zero, List.set_cons_succ])
        refine wpAnyH_take (i := 10) (v := ?_) rfl (by kernel_rfl) (by kernel_rfl) (by kernel_rfl) (fun _ _ _ h => h) (Or.inl ⟨by rfl, fun wX hSw => ?_⟩) (by assumption) ?_
        rotate_left
        · (try dsimp only at hSw); go_simp; try with_reducible rfl
        (try simp only [Act.put, List.getElem_toArray, List.getElem_cons_succ, List.getElem_cons_zero, List.setIfInBounds_toArray, List.set_cons_zero, List.set_cons_succ])
        refine wpAnyH_ready (rs := [11]) (by kernel_rfl) (by simp) ?_
        refine AllReadyH.cons rfl (fun K hK => ?_) (AllReadyH.nil)
        · skip
          ((go_simp; (go_at_call 48; (with_reducible refine (qpush_at w.heap.size Q k c1 a1 F p.1 p.2 p ⟨rfl⟩ _ HQ.out HP.out (by omega)).mono ?_); rintro e z ⟨rfl, g2, c2, G2, hr⟩; have HQ2 := Hk.mk hr.q; have HP2 := Hk.mk hr.hp; have HC2 := Hk.mk hr.cn; replace HB := Hk.mk (HB.out.trans (HQ.out.bel hr.fr)); clear hr)))
          refine hK.out _ _ ?_ (fun hHeld2 => ?_)
          · exact kw_s HB.out
          clear hK K hHeld
          have hHeld := hHeld2
          clear hHeld2
          (try simp only [Act.put, List.getElem_toArray, List.getElem_cons_succ, List.getElem_cons_zero, List.setIfInBounds_toArray, List.set_cons_zero, List.set_cons_succ])
          clear HQ
          refine reg_cast (l' := #[true, true, true, true, true, true, true, true, true, true, true, true]) (by kernel_rfl) ?_
          revert hHeld
          revert HC2
          revert HP2
          revert HQ2
          revert HB
          revert G2
          revert c2
          revert g2
          revert z
          exact HG1.out
        intro WY g2 c2 G2 HB HQ2 HP2 HC2 hHeld
        refine wpAnyH_done (by kernel_rfl) ?_ _
        clear HBS hHeld L0V
        have HC3 : Hk (∀ x, cntQ G2 x (k + 1) = cntQ L x (k + 1)) := ⟨fun x => by rw [HC2.out x, HC.out x, ← HPK.out]; rfl⟩
        clear HC2 HC HP
        go_wp2_with fail
        exact ⟨⟨k + 1, _, _, G2, by go_num, by omega, HQ2, HP2, HC3, HB⟩, by simp [intOf]; omega⟩
      · obtain rfl : n = k := by omega
        go_wp2_with fail
        obtain ⟨S, hS⟩ : ∃ S, wr.heap.size = S := ⟨_, rfl⟩
        have HM : Hk (∀ j, MQ Q a1 j → j < S) := ⟨by rw [← hS]; exact HQ.out.mlt⟩
        have hSw : w.heap.size ≤ S := by rw [← hS]; exact HB.out.size
        have HSS : Hk (S ≤ wr.heap.size) := ⟨by omega⟩
        clear hS
        obtain ⟨ii, hii, hiz0, hiz1, hiz2⟩ := info_parts info_i64q
        obtain ⟨wo, rfl⟩ : ∃ wo : World, wo = wr := ⟨wr, rfl⟩
        go_loopw [6, 7, 8] (fun v6 v7 i wr => ∃ (i' m : Nat) (F P : Nat → PrQ), i = .int .i64 i' ∧ i' + m = n ∧ Hk (Hq wr w.heap.size Q a1 m c1 F) ∧ Hk (HpQ F m) ∧ Hk (∀ x, cntQ L x n = cntQ F x m + cntQ P x i') ∧ Hk (0 < i' → ∀ k, k < m → leQ (P (i' - 1)) (F k)) ∧ Hk (Iq wr S v6 v7 i' P) ∧ Hk (Below w.heap.size w wr) ∧ Hk (S ≤ wr.heap.size)) (fun _ _ i _ => n - (intOf i).toNat)
        case atStart => exact ⟨0, n, F, _, rfl, by omega, HQ, HP, ⟨fun x => by rw [HC.out x]; rfl⟩, ⟨fun h => by omega⟩, ⟨Iq.nil _ _ F⟩, HB, HSS⟩
        case round =>
          clear HQ HP HC HB HSS
          obtain ⟨i, m, F, P, rfl, him, HQ, HP, HC, HL, HI, HB, HS⟩ := hrel
          rcases Nat.eq_zero_or_pos m with h0 | h0
          · subst h0
            obtain rfl : n = i := by omega
            go_wp2_with (first
              | (go_at_call 50; (with_reducible refine (pop_nil w.heap.size Q _ _ F _ HQ.out).mono ?_); rintro e z ⟨rfl, rfl⟩)
              | (go_at_call 52; (with_reducible refine (qlen _ w.heap.size Q 0 _ _ _ HQ.out).mono ?_); rintro e z ⟨rfl, rfl⟩))
            have HCC : Hk (∀ x, cntQ L x n = cntQ P x n) := ⟨fun x => by rw [HC.out x]; show 0 + _ = _; omega⟩
            clear HC HL HQ HP HS HM
            obtain ⟨W3, hW3⟩ : ∃ W3, wr = W3 := ⟨_, rfl⟩
            rw [hW3] at HI HB
            go_loopw [15] (fun i wr => ∃ i' : Nat, i = .int .i64 i' ∧ i' ≤ n ∧ Hk (∃ q, wr = W3.drewN q)) (fun i _ => n - (intOf i).toNat)
            case atStart => exact ⟨0, rfl, Nat.zero_le _, ⟨0, hW3⟩⟩
            case round =>
              obtain ⟨i, rfl, hin, HD⟩ := hrel
              by_cases hil : i < n
              · obtain ⟨b, off, rfl, hb, hd, -, d1, d2⟩ := HAQ.out i (by omega)
                obtain ⟨x, hx⟩ : ∃ x, L i = x := ⟨_, rfl⟩
                rw [hx] at d1 d2
                have HE1 := Hk.mk ((HB.out.cell (p := ⟨b, off + i * 3 + 1, none⟩) hb).trans d1)
                have HE2 := Hk.mk ((HB.out.cell (p := ⟨b, off + i * 3 + 2, none⟩) hb).trans d2)
                clear d1 d2 hx hd
                have i0 : (0 : Int) ≤ (i : Int) := by omega
                have i1 : (i : Int) < (len : Int) := by omega
                have i2 : (i : Int) < (n : Int) := by omega
                go_wp2_with fail
                obtain ⟨wo4, rfl⟩ : ∃ wo : World, wo = wr := ⟨wr, rfl⟩
                go_loopw [16, 17, 18] (fun s t kv wr => ∃ k : Nat, kv = .int .i64 k ∧ k ≤ n ∧ s = .int .i64 (cntQ L x k : Nat) ∧ t = .int .i64 (cntQ P x k : Nat) ∧ Hk (∃ q, wr = W3.drewN q)) (fun _ _ kv _ => n - (intOf kv).toNat)
                case atStart => exact ⟨0, rfl, Nat.zero_le _, rfl, rfl, HD⟩
                case round =>
                  obtain ⟨k, rfl, hk, rfl, rfl, HD2⟩ := hrel
                  by_cases hkl : k < n
                  · obtain ⟨b', off', e', -, -, -, d1, d2⟩ := HAQ.out k (by omega)
                    injection e' with e'
                    injection e' with e1' e2'
                    subst e1' e2'
                    obtain ⟨y, hy⟩ : ∃ y, L k = y := ⟨_, rfl⟩
                    obtain ⟨p, hp⟩ : ∃ p, P k = p := ⟨_, rfl⟩
                    rw [hy] at d1 d2
                    have HY := Hk.mk hy
                    have HPP := Hk.mk hp
                    clear hy hp
                    obtain ⟨g6, c6, g7, c7, rfl, rfl⟩ := HI.out.form (by omega)
                    obtain ⟨q, hq⟩ := HD2.out
                    have b1 : wr.cell? ⟨b, off + i * 3 + 1, none⟩ = some (.int .i64 x.1) := by rw [hq]; exact HE1.out
                    have b2 : wr.cell? ⟨b, off + i * 3 + 2, none⟩ = some (.int .i64 x.2) := by rw [hq]; exact HE2.out
                    have b3 : wr.cell? ⟨b, off + k * 3 + 1, none⟩ = some (.int .i64 y.1) := by rw [hq]; exact (HB.out.cell (p := ⟨b, off + k * 3 + 1, none⟩) hb).trans d1
                    have b4 : wr.cell? ⟨b, off + k * 3 + 2, none⟩ = some (.int .i64 y.2) := by rw [hq]; exact (HB.out.cell (p := ⟨b, off + k * 3 + 2, none⟩) hb).trans d2
                    have b5 : wr.cell? ⟨g6, k, none⟩ = some (.int .i64 p.1) := by rw [hq, ← HPP.out]; exact HI.out.c1 hkl
                    have b6 : wr.cell? ⟨g7, k, none⟩ = some (.int .i64 p.2) := by rw [hq, ← HPP.out]; exact HI.out.c2 hkl
                    have k0 : (0 : Int) ≤ (k : Int) := by omega
                    have k1 : (k : Int) < (len : Int) := by omega
                    have k2 : (k : Int) < (n : Int) := by omega
                    have hcl := cntQ_le L x k
                    have hcp := cntQ_le P x k
                    clear hq d1 d2
                    by_cases e1 : y.1 = x.1
                    · have s1 : (y.1 == x.1) = true := by simpa using e1
                      by_cases e2 : y.2 = x.2
                      · have s2 : (y.2 == x.2) = true := by simpa using e2
                        have hyx : y = x := Prod.ext e1 e2
                        clear e1 e2
                        by_cases f1 : p.1 = x.1
                        · have t1 : (p.1 == x.1) = true := by simpa using f1
                          by_cases f2 : p.2 = x.2
                          · have t2 : (p.2 == x.2) = true := by simpa using f2
                            have hpx : p = x := Prod.ext f1 f2
                            clear f1 f2
                            go_wp2_with fail
                            go_quiet (fail)
                            go_wp2_with fail
                            go_quiet (fail)
                            go_wp2
                            obtain ⟨q2, hq2⟩ := HD2.out
                            exact ⟨⟨k + 1, by go_num, by omega, by rw [show cntQ L x (k + 1) = cntQ L x k + (if L k = x then 1 else 0) from rfl, HY.out]; first | (rw [if_pos hyx]; first | rfl | go_num) | (rw [if_neg hyx]; rfl), by rw [show cntQ P x (k + 1) = cntQ P x k + (if P k = x then 1 else 0) from rfl, HPP.out]; first | (rw [if_pos hpx]; first | rfl | go_num) | (rw [if_neg hpx]; rfl), ⟨⟨_, by rw [hq2]; first | rfl | (simp only [World.drewN_drewN]; rfl)⟩⟩⟩, by simp [intOf]; omega⟩
                          · have t2 : (p.2 == x.2) = false := by simpa using f2
                            have hpx : ¬ p = x := fun h => f2 (by rw [h])
                            clear f1 f2
                            go_wp2_with fail
                            go_quiet (fail)
                            go_wp2_with fail
                            go_quiet (fail)
                            go_wp2
                            obtain ⟨q2, hq2⟩ := HD2.out
                            exact ⟨⟨k + 1, by go_num, by omega, by rw [show cntQ L x (k + 1) = cntQ L x k + (if L k = x then 1 else 0) from rfl, HY.out]; first | (rw [if_pos hyx]; first | rfl | go_num) | (rw [if_neg hyx]; rfl), by rw [show cntQ P x (k + 1) = cntQ P x k + (if P k = x then 1 else 0) from rfl, HPP.out]; first | (rw [if_pos hpx]; first | rfl | go_num) | (rw [if_neg hpx]; rfl), ⟨⟨_, by rw [hq2]; first | rfl | (simp only [World.drewN_drewN]; rfl)⟩⟩⟩, by simp [intOf]; omega⟩
                        · have t1 : (p.1 == x.1) = false := by simpa using f1
                          have hpx : ¬ p = x := fun h => f1 (by rw [h])
                          clear f1
                          go_wp2_with fail
                          go_quiet (fail)
                          go_wp2_with fail
                          go_quiet (fail)
                          go_wp2
                          obtain ⟨q2, hq2⟩ := HD2.out
                          exact ⟨⟨k + 1, by go_num, by omega, by rw [show cntQ L x (k + 1) = cntQ L x k + (if L k = x then 1 else 0) from rfl, HY.out]; first | (rw [if_pos hyx]; first | rfl | go_num) | (rw [if_neg hyx]; rfl), by rw [show cntQ P x (k + 1) = cntQ P x k + (if P k = x then 1 else 0) from rfl, HPP.out]; first | (rw [if_pos hpx]; first | rfl | go_num) | (rw [if_neg hpx]; rfl), ⟨⟨_, by rw [hq2]; first | rfl | (simp only [World.drewN_drewN]; rfl)⟩⟩⟩, by simp [intOf]; omega⟩
                      · have s2 : (y.2 == x.2) = false := by simpa using e2
                        have hyx : ¬ y = x := fun h => e2 (by rw [h])
                        clear e1 e2
                        by_cases f1 : p.1 = x.1
                        · have t1 : (p.1 == x.1) = true := by simpa using f1
                          by_cases f2 : p.2 = x.2
                          · have t2 : (p.2 == x.2) = true := by simpa using f2
                            have hpx : p = x := Prod.ext f1 f2
                            clear f1 f2
                            go_wp2_with fail
                            go_quiet (fail)
                            go_wp2_with fail
                            go_quiet (fail)
                            go_wp2
                            obtain ⟨q2, hq2⟩ := HD2.out
                            exact ⟨⟨k + 1, by go_num, by omega, by rw [show cntQ L x (k + 1) = cntQ L x k + (if L k = x then 1 else 0) from rfl, HY.out]; first | (rw [if_pos hyx]; first | rfl | go_num) | (rw [if_neg hyx]; rfl), by rw [show cntQ P x (k + 1) = cntQ P x k + (if P k = x then 1 else 0) from rfl, HPP.out]; first | (rw [if_pos hpx]; first | rfl | go_num) | (rw [if_neg hpx]; rfl), ⟨⟨_, by rw [hq2]; first | rfl | (simp only [World.drewN_drewN]; rfl)⟩⟩⟩, by simp [intOf]; omega⟩
                          · have t2 : (p.2 == x.2) = false := by simpa using f2
                            have hpx : ¬ p = x := fun h => f2 (by rw [h])
                            clear f1 f2
                            go_wp2_with fail
                            go_quiet (fail)
                            go_wp2_with fail
                            go_quiet (fail)
                            go_wp2
                            obtain ⟨q2, hq2⟩ := HD2.out
                            exact ⟨⟨k + 1, by go_num, by omega, by rw [show cntQ L x (k + 1) = cntQ L x k + (if L k = x then 1 else 0) from rfl, HY.out]; first | (rw [if_pos hyx]; first | rfl | go_num) | (rw [if_neg hyx]; rfl), by rw [show cntQ P x (k + 1) = cntQ P x k + (if P k = x then 1 else 0) from rfl, HPP.out]; first | (rw [if_pos hpx]; first | rfl | go_num) | (rw [if_neg hpx]; rfl), ⟨⟨_, by rw [hq2]; first | rfl | (simp only [World.drewN_drewN]; rfl)⟩⟩⟩, by simp [intOf]; omega⟩
                        · have t1 : (p.1 == x.1) = false := by simpa using f1
                          have hpx : ¬ p = x := fun h => f1 (by rw [h])
                          clear f1
                          go_wp2_with fail
                          go_quiet (fail)
                          go_wp2_with fail
                          go_quiet (fail)
                          go_wp2
                          obtain ⟨q2, hq2⟩ := HD2.out
                          exact ⟨⟨k + 1, by go_num, by omega, by rw [show cntQ L x (k + 1) = cntQ L x k + (if L k = x then 1 else 0) from rfl, HY.out]; first | (rw [if_pos hyx]; first | rfl | go_num) | (rw [if_neg hyx]; rfl), by rw [show cntQ P x (k + 1) = cntQ P x k + (if P k = x then 1 else 0) from rfl, HPP.out]; first | (rw [if_pos hpx]; first | rfl | go_num) | (rw [if_neg hpx]; rfl), ⟨⟨_, by rw [hq2]; first | rfl | (simp only [World.drewN_drewN]; rfl)⟩⟩⟩, by simp [intOf]; omega⟩
                    · have s1 : (y.1 == x.1) = false := by simpa using e1
                      have hyx : ¬ y = x := fun h => e1 (by rw [h])
                      clear e1
                      by_cases f1 : p.1 = x.1
                      · have t1 : (p.1 == x.1) = true := by simpa using f1
                        by_cases f2 : p.2 = x.2
                        · have t2 : (p.2 == x.2) = true := by simpa using f2
                          have hpx : p = x := Prod.ext f1 f2
                          clear f1 f2
                          go_wp2_with fail
                          go_quiet (fail)
                          go_wp2_with fail
                          go_quiet (fail)
                          go_wp2
                          obtain ⟨q2, hq2⟩ := HD2.out
                          exact ⟨⟨k + 1, by go_num, by omega, by rw [show cntQ L x (k + 1) = cntQ L x k + (if L k = x then 1 else 0) from rfl, HY.out]; first | (rw [if_pos hyx]; first | rfl | go_num) | (rw [if_neg hyx]; rfl), by rw [show cntQ P x (k + 1) = cntQ P x k + (if P k = x then 1 else 0) from rfl, HPP.out]; first | (rw [if_pos hpx]; first | rfl | go_num) | (rw [if_neg hpx]; rfl), ⟨⟨_, by rw [hq2]; first | rfl | (simp only [World.drewN_drewN]; rfl)⟩⟩⟩, by simp [intOf]; omega⟩
                        · have t2 : (p.2 == x.2) = false := by simpa using f2
                          have hpx : ¬ p = x := fun h => f2 (by rw [h])
                          clear f1 f2
                          go_wp2_with fail
                          go_quiet (fail)
                          go_wp2_with fail
                          go_quiet (fail)
                          go_wp2
                          obtain ⟨q2, hq2⟩ := HD2.out
                          exact ⟨⟨k + 1, by go_num, by omega, by rw [show cntQ L x (k + 1) = cntQ L x k + (if L k = x then 1 else 0) from rfl, HY.out]; first | (rw [if_pos hyx]; first | rfl | go_num) | (rw [if_neg hyx]; rfl), by rw [show cntQ P x (k + 1) = cntQ P x k + (if P k = x then 1 else 0) from rfl, HPP.out]; first | (rw [if_pos hpx]; first | rfl | go_num) | (rw [if_neg hpx]; rfl), ⟨⟨_, by rw [hq2]; first | rfl | (simp only [World.drewN_drewN]; rfl)⟩⟩⟩, by simp [intOf]; omega⟩
                      · have t1 : (p.1 == x.1) = false := by simpa using f1
                        have hpx : ¬ p = x := fun h => f1 (by rw [h])
                        clear f1
                        go_wp2_with fail
                        go_quiet (fail)
                        go_wp2_with fail
                        go_quiet (fail)
                        go_wp2
                        obtain ⟨q2, hq2⟩ := HD2.out
                        exact ⟨⟨k + 1, by go_num, by omega, by rw [show cntQ L x (k + 1) = cntQ L x k + (if L k = x then 1 else 0) from rfl, HY.out]; first | (rw [if_pos hyx]; first | rfl | go_num) | (rw [if_neg hyx]; rfl), by rw [show cntQ P x (k + 1) = cntQ P x k + (if P k = x then 1 else 0) from rfl, HPP.out]; first | (rw [if_pos hpx]; first | rfl | go_num) | (rw [if_neg hpx]; rfl), ⟨⟨_, by rw [hq2]; first | rfl | (simp only [World.drewN_drewN]; rfl)⟩⟩⟩, by simp [intOf]; omega⟩
                  · obtain rfl : n = k := by omega
                    have hcl := cntQ_le L x n
                    rw [← HCC.out x]
                    generalize cntQ L x n = C at *
                    go_wp2_with fail
                    exact ⟨⟨i + 1, by go_num, by omega, HD2⟩, by simp [intOf]; omega⟩
              · obtain ⟨q, hq⟩ := HD.out
                have HB3 : Hk (Below w.heap.size w wr) := ⟨by rw [hq]; exact below_drewN HB.out q⟩
                clear hq
                go_wp2_with (first
                  | (go_at_call 38; (with_reducible refine (eqn_yes none none 0 0 0 0 0 [] _ (Nq.nil _ _ _) (Nq.nil _ _ _) (by omega)).mono ?_); rintro e z ⟨rfl, m, rfl⟩; replace HB3 := Hk.mk (below_drewN HB3.out m))
                  | (go_at_call 53; (with_reducible refine (wakes12_any _).mono ?_); rintro e z ⟨rfl, hb⟩; have HB4 := Hk.mk (HB3.out.trans (hb.mono HB3.out.size)); clear hb))
                go_ret
                exact ⟨rfl, HB4.out⟩
          · obtain ⟨m', rfl⟩ : ∃ m', m = m' + 1 := ⟨m - 1, by omega⟩
            obtain ⟨x, hx⟩ : ∃ x, F 0 = x := ⟨_, rfl⟩
            have HX := Hk.mk hx
            clear hx
            rcases Nat.eq_zero_or_pos i with i0 | i0
            · subst i0
              have hn0 : (0 : Int) < (n : Int) := by omega
              go_wp2_with (first | (go_at_call 50; (with_reducible refine (pop_any w.heap.size Q m' _ _ F _ HQ.out HP.out (by omega)).mono ?_); rintro e z ⟨rfl, G, hq, hp2, hc2, hf⟩; rw [HX.out] at hc2 ⊢; have HQ4 := Hk.mk hq; have HP4 := Hk.mk hp2; have HC4 := Hk.mk hc2; have HI4 := Hk.mk (HI.out.fr hf HM.out); have HB4 := Hk.mk (HB.out.trans (HQ.out.bel hf)); have HS4 := Hk.mk (Nat.le_trans HS.out hf.size); clear hq hp2 hc2 hf) | (at_builtin; refine wpList_append_own_at _ rfl _ _ 26 rfl S 3 ii (.int .i64 0) 1 8 Try.underlying26 hii hiz0 hiz1 hiz2 rfl (by decide) _ 0 _ rfl (HI4.out.rk.alloc _) ⟨z.heap.size, 0, none⟩ 1 1 [.int .i64 x.1] rfl rfl (one_new z _ _) (one_c x.1) (by unfold maxLen; omega) (by omega) (by have := HS4.out; simp; omega) ?_; intro v8 z8 hown8 hgrow8 hnil8 hat8; have HI8 := Hk.mk (HI4.out.step1 hown8 hgrow8 hat8); have HZ8 : Hk (Below S z z8) := ⟨((Below.refl S z).alloc HS4.out _).grown hgrow8 (by have := HS4.out; simp; omega) (fun j hj => (HI4.out.rk.lt j hj).1)⟩; clear hown8 hgrow8 hnil8 hat8) | (at_builtin; go_must (refine wpList_append_own_at _ rfl _ _ 26 rfl S 3 ii (.int .i64 0) 1 8 Try.underlying26 hii hiz0 hiz1 hiz2 rfl (by decide) _ 0 _ rfl (HI8.out.rv.alloc _) ⟨z8.heap.size, 0, none⟩ 1 1 [.int .i64 x.2] rfl rfl (one_new z8 _ _) (one_c x.2) (by unfold maxLen; omega) (by omega) (by have := HS4.out; have := HZ8.out.size; simp; omega) ?_); intro v9 z9 hown9 hgrow9 hnil9 hat9; have HI9 := Hk.mk (HI8.out.step2 (x := x) hown9 hgrow9 hat9); have HZ9 : Hk (Below S z z9) := ⟨(HZ8.out.alloc (by have := HS4.out; have := HZ8.out.size; omega) _).grown hgrow9 (by have := HS4.out; have := HZ8.out.size; simp; omega) (fun j hj => (HI8.out.rv.lt j hj).1)⟩; clear hown9 hgrow9 hnil9 hat9))
              have HQ9 := Hk.mk (HQ4.out.belowN HM.out HZ9.out)
              have HB9 := Hk.mk (HB4.out.trans (HZ9.out.mono hSw))
              have HS9 : Hk (S ≤ z9.heap.size) := ⟨Nat.le_trans HS4.out HZ9.out.size⟩
              have HC9 : Hk (∀ y, cntQ L y n = cntQ G y m' + cntQ (updQ P (0) x) y (0 + 1)) := ⟨fun y => by rw [HC.out y, HC4.out y]; show _ = _ + (cntQ (updQ P (0) x) y (0) + (if updQ P (0) x (0) = y then 1 else 0)); rw [cntQ_congr (G := P) (fun k hk => updQ_far (by omega)), updQ_at]; omega⟩
              have HL9 : Hk (0 < 0 + 1 → ∀ k, k < m' → leQ (updQ P (0) x (0 + 1 - 1)) (G k)) := ⟨fun _ k hk => by
                rw [show 0 + 1 - 1 = 0 by omega, updQ_at]
                have h1 := cntQ_has (F := G) hk
                have h2 := HC4.out (G k)
                obtain ⟨q, hq, e⟩ := cntQ_pos (F := F) (p := G k) (n := m' + 1) (by omega)
                rw [← e, ← HX.out]
                exact HP.out.min q hq⟩
              exact ⟨⟨0 + 1, m', G, updQ P (0) x, by go_num, by omega, HQ9, HP4, HC9, HL9, HI9, HB9, HS9⟩, by simp [intOf]; omega⟩
            · obtain ⟨j, rfl⟩ : ∃ j, i = j + 1 := ⟨i - 1, by omega⟩
              obtain ⟨g6, c6, g7, c7, rfl, rfl⟩ := HI.out.form (by omega)
              obtain ⟨y, hy⟩ : ∃ y, P j = y := ⟨_, rfl⟩
              have hle := HL.out (by omega) 0 (by omega)
              rw [show j + 1 - 1 = j by omega, hy, HX.out, leQ_iff] at hle
              have HY := Hk.mk hy
              clear hy
              have dk : decide (x.1 < y.1) = false := by simp; omega
              have j0 : (0 : Int) < (j : Int) + 1 := by omega
              have j1 : (0 : Int) ≤ (j : Int) := by omega
              have j2 : (j : Int) < (j : Int) + 1 := by omega
              have j3 : (j : Int) + 1 < (n : Int) := by omega
              have gl := (HI.out.rk.lt g6 rfl).2
              by_cases e : y.1 = x.1
              · have de : (y.1 == x.1) = true := by simpa using e
                have dv : decide (x.2 < y.2) = false := by simp; omega
                clear hle e
                go_wp2_with (first | (go_at_call 50; (with_reducible refine (pop_any w.heap.size Q m' _ _ F _ HQ.out HP.out (by omega)).mono ?_); rintro e z ⟨rfl, G, hq, hp2, hc2, hf⟩; rw [HX.out] at hc2 ⊢; have HQ4 := Hk.mk hq; have HP4 := Hk.mk hp2; have HC4 := Hk.mk hc2; have HI4 := Hk.mk (HI.out.fr hf HM.out); have HB4 := Hk.mk (HB.out.trans (HQ.out.bel hf)); have HS4 := Hk.mk (Nat.le_trans HS.out hf.size); clear hq hp2 hc2 hf; have b6 := HI4.out.c1 (j := j) (by omega); have b7 := HI4.out.c2 (j := j) (by omega); rw [HY.out] at b6 b7) | (at_builtin; refine wpList_append_own_at _ rfl _ _ 26 rfl S 3 ii (.int .i64 0) 1 8 Try.underlying26 hii hiz0 hiz1 hiz2 rfl (by decide) _ (j + 1) _ rfl (HI4.out.rk.alloc _) ⟨z.heap.size, 0, none⟩ 1 1 [.int .i64 x.1] rfl rfl (one_new z _ _) (one_c x.1) (by unfold maxLen; omega) (by omega) (by have := HS4.out; simp; omega) ?_; intro v8 z8 hown8 hgrow8 hnil8 hat8; have HI8 := Hk.mk (HI4.out.step1 hown8 hgrow8 hat8); have HZ8 : Hk (Below S z z8) := ⟨((Below.refl S z).alloc HS4.out _).grown hgrow8 (by have := HS4.out; simp; omega) (fun j hj => (HI4.out.rk.lt j hj).1)⟩; clear hown8 hgrow8 hnil8 hat8) | (at_builtin; go_must (refine wpList_append_own_at _ rfl _ _ 26 rfl S 3 ii (.int .i64 0) 1 8 Try.underlying26 hii hiz0 hiz1 hiz2 rfl (by decide) _ (j + 1) _ rfl (HI8.out.rv.alloc _) ⟨z8.heap.size, 0, none⟩ 1 1 [.int .i64 x.2] rfl rfl (one_new z8 _ _) (one_c x.2) (by unfold maxLen; omega) (by omega) (by have := HS4.out; have := HZ8.out.size; simp; omega) ?_); intro v9 z9 hown9 hgrow9 hnil9 hat9; have HI9 := Hk.mk (HI8.out.step2 (x := x) hown9 hgrow9 hat9); have HZ9 : Hk (Below S z z9) := ⟨(HZ8.out.alloc (by have := HS4.out; have := HZ8.out.size; omega) _).grown hgrow9 (by have := HS4.out; have := HZ8.out.size; simp; omega) (fun j hj => (HI8.out.rv.lt j hj).1)⟩; clear hown9 hgrow9 hnil9 hat9))
                have HQ9 := Hk.mk (HQ4.out.belowN HM.out HZ9.out)
                have HB9 := Hk.mk (HB4.out.trans (HZ9.out.mono hSw))
                have HS9 : Hk (S ≤ z9.heap.size) := ⟨Nat.le_trans HS4.out HZ9.out.size⟩
                have HC9 : Hk (∀ y, cntQ L y n = cntQ G y m' + cntQ (updQ P ((j + 1)) x) y ((j + 1) + 1)) := ⟨fun y => by rw [HC.out y, HC4.out y]; show _ = _ + (cntQ (updQ P ((j + 1)) x) y ((j + 1)) + (if updQ P ((j + 1)) x ((j + 1)) = y then 1 else 0)); rw [cntQ_congr (G := P) (fun k hk => updQ_far (by omega)), updQ_at]; omega⟩
                have HL9 : Hk (0 < (j + 1) + 1 → ∀ k, k < m' → leQ (updQ P ((j + 1)) x ((j + 1) + 1 - 1)) (G k)) := ⟨fun _ k hk => by
                  rw [show (j + 1) + 1 - 1 = (j + 1) by omega, updQ_at]
                  have h1 := cntQ_has (F := G) hk
                  have h2 := HC4.out (G k)
                  obtain ⟨q, hq, e⟩ := cntQ_pos (F := F) (p := G k) (n := m' + 1) (by omega)
                  rw [← e, ← HX.out]
                  exact HP.out.min q hq⟩
                exact ⟨⟨(j + 1) + 1, m', G, updQ P ((j + 1)) x, by go_num, by omega, HQ9, HP4, HC9, HL9, HI9, HB9, HS9⟩, by simp [intOf]; omega⟩
              · have de : (y.1 == x.1) = false := by simpa using e
                clear hle e
                go_wp2_with (first | (go_at_call 50; (with_reducible refine (pop_any w.heap.size Q m' _ _ F _ HQ.out HP.out (by omega)).mono ?_); rintro e z ⟨rfl, G, hq, hp2, hc2, hf⟩; rw [HX.out] at hc2 ⊢; have HQ4 := Hk.mk hq; have HP4 := Hk.mk hp2; have HC4 := Hk.mk hc2; have HI4 := Hk.mk (HI.out.fr hf HM.out); have HB4 := Hk.mk (HB.out.trans (HQ.out.bel hf)); have HS4 := Hk.mk (Nat.le_trans HS.out hf.size); clear hq hp2 hc2 hf; have b6 := HI4.out.c1 (j := j) (by omega); have b7 := HI4.out.c2 (j := j) (by omega); rw [HY.out] at b6 b7) | (at_builtin; refine wpList_append_own_at _ rfl _ _ 26 rfl S 3 ii (.int .i64 0) 1 8 Try.underlying26 hii hiz0 hiz1 hiz2 rfl (by decide) _ (j + 1) _ rfl (HI4.out.rk.alloc _) ⟨z.heap.size, 0, none⟩ 1 1 [.int .i64 x.1] rfl rfl (one_new z _ _) (one_c x.1) (by unfold maxLen; omega) (by omega) (by have := HS4.out; simp; omega) ?_; intro v8 z8 hown8 hgrow8 hnil8 hat8; have HI8 := Hk.mk (HI4.out.step1 hown8 hgrow8 hat8); have HZ8 : Hk (Below S z z8) := ⟨((Below.refl S z).alloc HS4.out _).grown hgrow8 (by have := HS4.out; simp; omega) (fun j hj => (HI4.out.rk.lt j hj).1)⟩; clear hown8 hgrow8 hnil8 hat8) | (at_builtin; go_must (refine wpList_append_own_at _ rfl _ _ 26 rfl S 3 ii (.int .i64 0) 1 8 Try.underlying26 hii hiz0 hiz1 hiz2 rfl (by decide) _ (j + 1) _ rfl (HI8.out.rv.alloc _) ⟨z8.heap.size, 0, none⟩ 1 1 [.int .i64 x.2] rfl rfl (one_new z8 _ _) (one_c x.2) (by unfold maxLen; omega) (by omega) (by have := HS4.out; have := HZ8.out.size; simp; omega) ?_); intro v9 z9 hown9 hgrow9 hnil9 hat9; have HI9 := Hk.mk (HI8.out.step2 (x := x) hown9 hgrow9 hat9); have HZ9 : Hk (Below S z z9) := ⟨(HZ8.out.alloc (by have := HS4.out; have := HZ8.out.size; omega) _).grown hgrow9 (by have := HS4.out; have := HZ8.out.size; simp; omega) (fun j hj => (HI8.out.rv.lt j hj).1)⟩; clear hown9 hgrow9 hnil9 hat9))
                have HQ9 := Hk.mk (HQ4.out.belowN HM.out HZ9.out)
                have HB9 := Hk.mk (HB4.out.trans (HZ9.out.mono hSw))
                have HS9 : Hk (S ≤ z9.heap.size) := ⟨Nat.le_trans HS4.out HZ9.out.size⟩
                have HC9 : Hk (∀ y, cntQ L y n = cntQ G y m' + cntQ (updQ P ((j + 1)) x) y ((j + 1) + 1)) := ⟨fun y => by rw [HC.out y, HC4.out y]; show _ = _ + (cntQ (updQ P ((j + 1)) x) y ((j + 1)) + (if updQ P ((j + 1)) x ((j + 1)) = y then 1 else 0)); rw [cntQ_congr (G := P) (fun k hk => updQ_far (by omega)), updQ_at]; omega⟩
                have HL9 : Hk (0 < (j + 1) + 1 → ∀ k, k < m' → leQ (updQ P ((j + 1)) x ((j + 1) + 1 - 1)) (G k)) := ⟨fun _ k hk => by
                  rw [show (j + 1) + 1 - 1 = (j + 1) by omega, updQ_at]
                  have h1 := cntQ_has (F := G) hk
                  have h2 := HC4.out (G k)
                  obtain ⟨q, hq, e⟩ := cntQ_pos (F := F) (p := G k) (n := m' + 1) (by omega)
                  rw [← e, ← HX.out]
                  exact HP.out.min q hq⟩
                exact ⟨⟨(j + 1) + 1, m', G, updQ P ((j + 1)) x, by go_num, by omega, HQ9, HP4, HC9, HL9, HI9, HB9, HS9⟩, by simp [intOf]; omega⟩

theorem queueRises_own : ownKnob Try.prog.godebug = none := by kernel_rfl
theorem queueRises_laidOut : laidOutB Try.prog = true := by kernel_rfl
set_option maxRecDepth 100000 in
theorem queueRises_lifted (os : Os) (started : os.Started) (H : Type) (enc : TypeId × Value → H) :
    ReturnsInHanded {} Try.checked os 12 .any (Rows.queueRisesSpec.pre6 enc Try.prog Try.f12 Rows.queueRisesRow.domain false) (Rows.queueRisesSpec.post enc Try.prog Try.f12 false true false false) := by
  refine returnsInHanded_of_change (C := Try.checked) queueRises_own started (by kernel_rfl) Try.func12
    (ChangeSpec.witness6 (enc := enc) (C := Try.checked) false ⟨#[], #[.slice none 0 0], []⟩ 8 (by kernel_rfl) (by kernel_rfl) (by kernel_rfl) (by kernel_rfl)) ?_
  intro W base args ds gs before hval0 hW hcnd _
  have hval : ∀ (j : Nat) t v, Try.f12.params[j]? = some t → args[j]? = some v → Value.okWide Try.prog W .any base t v := hval0
  have hW' := hW
  obtain ⟨p, q, hA0, hV, rfl, hfz, hnd⟩ := hW
  have hA : DataW.TrodAll enc Try.prog W 0 (fun _ => true) true Try.f12.params.toList args.toList ds p := hA0
  rw [Try.params12] at hA hval
  obtain ⟨v0, vs0, d0, ds0, p0, q0, hargs, rfl, rfl, h0, r0⟩ := trodAll_cons hA
  obtain ⟨rfl, rfl, rfl⟩ := trodAll_nil r0
  obtain rfl : args = #[v0] := by cases args; simp_all
  obtain ⟨rfl, rfl⟩ := trodVars_none hV
  obtain ⟨a0, len0, cap0, rfl⟩ := okWide_slice Try.underlying71 (hval 0 71 v0 rfl rfl)
  have k0 := h0
  have lt0 : ∀ x ∈ p0, x.block < W.heap.size := by obtain ⟨m, hm⟩ := k0; exact DataW.trod_lt m _ _ _ hm
  have rows : Asks12 W a0 len0 cap0 := by obtain ⟨fuel, hf⟩ := h0; exact asks12_of hf
  clear hA0 hval0
  refine (queueRises_walk a0 len0 cap0 W rows).mono fun e W' ⟨he, bel⟩ => ?_
  subst he
  exact ⟨_, rfl, _, _, _, [], _, [], hW', trodAll_mk1 (shut_bool Try.underlying4 _), (trodAll_cons_mk (Below.trod queueRises_laidOut (by kernel_rfl) (of_decide_eq_true (by kernel_rfl)) k0 bel lt0) trodAll_mk0), rfl, bel.frame _, fun h => by cases h⟩
theorem queueRises_over : Rows.queueRisesRow.holds Try.pinned (OpenSpec.ofChange Rows.queueRisesSpec) :=
  OpenClaim.holds_of_wide 12 Try.f12 rfl rfl rfl rfl rfl rfl rfl ⟨rfl, rfl, rfl, rfl, rfl⟩ rfl rfl rfl rfl rfl (by kernel_rfl) Try.func12 (by kernel_rfl)
    (of_decide_eq_true (by kernel_rfl)) (by unfold Func.isWrapper; first | (rw [if_pos (by decide +kernel)]; kernel_rfl) | (rw [if_neg (by decide +kernel)]; exact ⟨rfl, rfl⟩))
    (fun os started H enc _ => queueRises_lifted os started H enc)
/-- The given statement of QueueRises. -/
theorem queueRises_holds : Rows.QueueRisesSaid := queueRises_over
end Go.Proofs.Ytjjodfdmbiebnaa

