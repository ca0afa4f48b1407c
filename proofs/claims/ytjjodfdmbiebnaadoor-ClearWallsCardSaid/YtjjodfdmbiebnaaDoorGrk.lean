/- Layer 6: what the statements call. -/
import Derived.Test.YtjjodfdmbiebnaaDoorGrj
import Derived.ArgAppend
namespace Go.Proofs.YtjjodfdmbiebnaaDoor
open Go.RowKit
set_option linter.unusedVariables false
theorem gr_new (w : World) (W H : Int) (n m : Nat) (hm : (m : Int) = W * H) (t : TypeId) (hW : 1 ≤ W ∧ W ≤ 128) (hH : 1 ≤ H ∧ H ≤ 128) : GOk W H m (List.replicate m 0) := ⟨hW.1, hW.2, hH.1, hH.2, hm, fun x hx => by rw [List.eq_of_mem_replicate hx]; omega⟩
theorem nq_lit (w : World) (xs : List Int) (t : TypeId) (n : Nat) (hl : xs.length = n) : Nq (w.alloc (.cells (xs.map (Value.int .i64)).toArray t)) (w.heap.size + 1) (some ⟨w.heap.size, 0, none⟩) n xs := by
  refine ⟨hl, fun _ => ⟨_, _, rfl, by omega, fun k hk => ?_⟩⟩
  rw [Nat.zero_add, World.cell?_alloc_mark]
  simp [List.getD, List.getElem?_eq_getElem (show k < xs.length by omega)]
theorem byt_zeros : ∀ b ∈ ([0, 0, 0, 0, 0, 0] : List Int), Fn.Byt b := by
  intro b hb
  simp at hb
  subst hb
  unfold Fn.Byt; omega
theorem nb_320 : nbL 3 2 0 = [-1, 1, 3, -1, -1, 4, -1, -1] := by decide
set_option maxRecDepth 100000 in
theorem wakes6_any (w : World) (hL : LT w) : Calls Tryd.prog 22 #[] w fun e w' => e = .returned (.bool true) ∧ Below w.heap.size w w' := by
  have hG : GOk 3 2 6 [0, 0, 0, 0, 0, 0] := ⟨by omega, by omega, by omega, by omega, by decide, by decide⟩
  have hby := By.lit w [0, 0, 0, 0, 0, 0] 5 (0, 0) (w.heap.size + 1) 6 rfl byt_zeros (by omega)
  have HG := Hk.mk hG
  have HBY := Hk.mk hby
  have HL := Hk.mk (hL.below ((Below.refl _ _).alloc (Nat.le_refl _) (.cells (([0, 0, 0, 0, 0, 0] : List Int).map (Value.int .u8)).toArray 5)) (Nat.le_refl _))
  have HN := Hk.mk nb_320
  have hmk : ∀ w, (Instr.makeSlice 22 (.int .i64 6) (.int .i64 6)).run Tryd.prog w = .ok (.slice (some ⟨w.heap.size, 0, none⟩) 6 6) (w.alloc (.cells #[.int .u8 0, .int .u8 0, .int .u8 0, .int .u8 0, .int .u8 0, .int .u8 0] 5)) := fun _ => by kernel_rfl
  clear hG hby hL
  go_enter Tryd.func22, Tryd.ntmps22
  go_wp2_with (first
    | (go_at_call 20; go_must (refine (near_yes 0 3 2 (some ⟨w.heap.size, 0, none⟩) 6 6 (w.heap.size + 1) [0, 0, 0, 0, 0, 0] _ HBY.out (by simp) (by omega) HL.out HG.out (by omega) (by omega)).mono ?_); rintro e w1 ⟨g, rfl, hg1, hg2, hl8, hcg, hfg, hb1⟩; rw [HN.out] at hcg; have HNQ := Hk.mk (show Nq w1 (g + 1) (some ⟨g, 0, none⟩) 8 [-1, 1, 3, -1, -1, 4, -1, -1] from ⟨rfl, fun _ => ⟨g, 0, rfl, by omega, fun k hk => by rw [Nat.zero_add]; exact hcg k hk⟩⟩); have HB1 := Hk.mk hb1; have hz1 := hb1.size; simp at hz1; have HNL := Hk.mk (nq_lit w1 [-1, 1, 3, -1, -1, 4, -1, -1] 3 8 rfl); clear hb1 hcg hfg hl8)
    | (go_at_call 14; (with_reducible refine (num6_any _ _).mono ?_); rintro e w' ⟨rfl, rfl⟩)
    | (go_at_call 33; go_must (refine (eqn_yes (some ⟨g, 0, none⟩) (some ⟨w1.heap.size, 0, none⟩) 8 8 8 (g + 1) (w1.heap.size + 1) [-1, 1, 3, -1, -1, 4, -1, -1] _ (HNQ.out.below ((Below.refl _ _).alloc (Nat.le_refl _) _) (by omega)) HNL.out (by omega)).mono ?_); rintro e w2 ⟨rfl, m, rfl⟩))
  go_ret
  exact ⟨rfl, below_drewN ((((Below.refl _ _).alloc (Nat.le_refl _) _).trans (HB1.out.mono (by simp <;> omega))).alloc (by omega) _) _⟩
/-- Eight numbers of a block of our own. -/
structure A8 (base g : Nat) (w0 w : World) (F : Nat → Int) : Prop where
  c : ∀ j, j < 8 → w.cell? ⟨g, j, none⟩ = some (.int .i64 (F j))
  f : ∀ j, w.frozen? ⟨g, j, none⟩ = false
  hs : g < w.heap.size
  hb : base ≤ g
  hB : Below base w0 w
theorem A8.set {base g : Nat} {w0 w : World} {F : Nat → Int} (h : A8 base g w0 w F) (k : Nat) (v : Int) (hk : k < 8) : A8 base g w0 (w.setCell ⟨g, k, none⟩ (.int .i64 v)) (fun j => if j = k then v else F j) := by
  refine ⟨fun j hj => ?_, fun j => ?_, ?_, h.hb, h.hB.setCell h.hb _⟩
  · by_cases e : j = k
    · subst e; rw [if_pos rfl]; exact World.cell?_setCell_same _ _ _ (u := .int .i64 (F j)) (h.c j hj)
    · rw [if_neg e, World.cell?_setCell_other _ _ _ _ (by simp <;> omega)]; exact h.c j hj
  · simpa using h.f j
  · simpa using h.hs
set_option maxRecDepth 100000 in
theorem numbers8 (base g : Nat) (w0 w : World) (F : Nat → Int) (h : A8 base g w0 w F) (hw : base ≤ w.heap.size) :
    Calls Tryd.prog 34 #[.slice (some ⟨g, 0, none⟩) 8 8] w fun e w' => e = .returned (.tuple #[]) ∧ Below base w0 w' := by
  obtain ⟨i0, hi, hz0, hz1, hz2⟩ := info_parts info_int
  have HO := Hk.mk h
  clear h
  go_enter Tryd.func34, Tryd.ntmps34
  go_wp2
  go_loopw [2] (fun i wr => ∃ (k : Nat), i = .int .i64 k ∧ k ≤ 8 ∧ Hk (∃ F, A8 base g w0 wr F) ∧ base ≤ wr.heap.size) (fun i _ => 8 - (intOf i).toNat)
  case atStart => exact ⟨0, rfl, by omega, ⟨_, HO.out⟩, hw⟩
  case round =>
    obtain ⟨k, rfl, hk, HP, hwr⟩ := hrel
    obtain ⟨F, HF⟩ := HP.out
    clear HP
    by_cases hlt : k < 8
    · have hcx := HF.c k hlt
      have hfz := HF.f k
      have j1 : (0 : Int) ≤ (k : Int) := by omega
      have j2 : (k : Int) < 8 := by omega
      have H3 := Hk.mk (HF.set k (-99) hlt)
      clear HF
      go_wp2
      go_roundw
      case rel => exact ⟨k + 1, by go_num, by omega, ⟨_, H3.out⟩, by simpa using hwr⟩
      case measure => simp [intOf]; omega
    · obtain rfl : k = 8 := by omega
      have H3 := Hk.mk HF
      clear HF
      go_wp2_with (at_builtin; go_must (refine wpList_append_arg _ rfl _ _ 25 rfl 3 i0 (.int .i64 0) 1 8 Tryd.underlying25 hi hz0 hz1 hz2 rfl (by decide) g 0 8 8 ((List.range 8).map (fun j => .int .i64 (F j))) rfl (by simp) ?c0 ⟨wr.heap.size, 0, none⟩ 1 1 [.int .i64 5] rfl rfl (one_new _ _ _) ?c2 (fun h => absurd h (by omega)) (by unfold maxLen; omega) (by omega) (fun h => absurd h (by omega)) ?_))
      case c0 =>
        intro j u hj
        by_cases hj8 : j < 8
        · have e := (Below.cell (p := ⟨g, j, none⟩) ((Below.refl wr.heap.size wr).alloc (Nat.le_refl _) (.cells #[.int .i64 5] 3)) H3.out.hs).trans (H3.out.c j hj8)
          simp [hj8] at hj
          rw [Nat.zero_add, e, ← hj]
        · rw [List.getElem?_eq_none (by simp; omega)] at hj
          cases hj
      case c2 => intro u hu; simp at hu; subst hu; rfl
      · intro v' w1 _ hgrow
        have HG := Hk.mk hgrow
        clear hgrow
        go_wp2
        go_end0
        exact ⟨rfl, (H3.out.hB.alloc hwr _).grown HG.out (by simp; omega) (fun g hg => by cases hg)⟩
theorem numbers0 (base : Nat) (w0 w : World) (h : Below base w0 w) (hw : base ≤ w.heap.size) :
    Calls Tryd.prog 34 #[.slice none 0 0] w fun e w' => e = .returned (.tuple #[]) ∧ Below base w0 w' := by
  obtain ⟨i0, hi, hz0, hz1, hz2⟩ := info_parts info_int
  have HB := Hk.mk h
  have HO := Hk.mk (World.ownsRow_nil w base 3 1)
  clear h
  go_enter Tryd.func34, Tryd.ntmps34
  go_wp2
  go_loopw [2] (fun i wr => i = .int .i64 0 ∧ wr = w) (fun i _ => 0)
  case atStart => exact ⟨rfl, rfl⟩
  case round =>
    obtain ⟨rfl, rfl⟩ := hrel
    go_wp2_with (at_builtin; refine wpList_append_own _ rfl _ _ 25 rfl base 3 i0 (.int .i64 0) 1 8 Tryd.underlying25 hi hz0 hz1 hz2 rfl (by decide) _ _ _ rfl (HO.out.alloc _) ⟨wr.heap.size, 0, none⟩ 1 1 [.int .i64 5] rfl rfl (one_new _ _ _) ?c2 (by unfold maxLen; omega) (by omega) ?c5 ?_)
    case c2 => intro u hu; simp at hu; subst hu; rfl
    case c5 => simp; omega
    · intro v' w1 hown' hgrow _
      have HG := Hk.mk hgrow
      clear hgrow hown'
      go_wp2
      go_end0
      exact ⟨rfl, (HB.out.alloc hw _).grown HG.out (by simp; omega) (fun g hg => by cases hg)⟩
end Go.Proofs.YtjjodfdmbiebnaaDoor
