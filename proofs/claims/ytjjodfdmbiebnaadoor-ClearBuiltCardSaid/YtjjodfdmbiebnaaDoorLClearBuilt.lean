/- For every argument, ClearBuilt answers true and leaves its argument as it was: one building fewer, and nothing is nearer. No condition; the table of package kind is tied to the program's text. -/
import Derived.Test.YtjjodfdmbiebnaaDoorClu
import Derived.Deep.QuietTactic
import Derived.BigQuiet
import Derived.Deep.RegionWith
import Derived.Deep.RegionHeld3
import Derived.Deep.DeepCutAuto
import Derived.Deep.DeepFit
import Derived.Outline
import Derived.Test.YtjjodfdmbiebnaaDoorCards
import Derived.Test.YtjjodfdmbiebnaaDoorTie
import Derived.SevenTiedAt
import Derived.ProofKit
import Derived.LaidMore
import Derived.OpenShut
import Derived.Stop.Joined
namespace Go.Proofs.YtjjodfdmbiebnaaDoor
open Go.ChangeShapes Go.WideShapes Go.ChangeAt Go.RowKit Go.Deep
set_option linter.unusedVariables false
set_option linter.unusedSimpArgs false
theorem sqB_mono {W H : Int} {f g : Nat → Bool} (h : ∀ k, f k = true → g k = true) (m : Nat) (x y : Int) (e : sqB (opXY W H f) m x y = true) : sqB (opXY W H g) m x y = true := by
  match m, e with
  | 0, _ => rfl
  | r + 1, e =>
    refine (sq_iff (opXY W H g) r x y).2 fun i j i1 i2 j1 j2 => ?_
    have := (sq_iff (opXY W H f) r x y).1 e i j i1 i2 j1 j2
    unfold opXY at this ⊢
    rw [Bool.and_eq_true] at this ⊢
    exact ⟨this.1, h _ this.2⟩
theorem sC_mono {W H : Int} {f g : Nat → Bool} (hW : W ≤ 128) (h : ∀ k, f k = true → g k = true) (k : Nat) : sC W H f k ≤ sC W H g k := by
  unfold sC
  exact (sV_iff hW _ _ _).2 (sqB_mono h _ _ _ ((sV_iff hW _ _ _).1 (Nat.le_refl _)))
theorem opn_tail (W : Int) (xs : List Int) (bs : List Bd) (c k : Nat) (h : opn W xs bs c k = true) : opn W xs bs.tail c k = true := by
  unfold opn at h ⊢
  rw [Bool.and_eq_true] at h ⊢
  refine ⟨h.1, ?_⟩
  have h2 := h.2
  match bs, h2 with
  | [], h2 => exact h2
  | b :: r, h2 =>
    unfold cvB at h2 ⊢
    simp only [List.any_cons, Bool.not_or, Bool.and_eq_true] at h2
    exact h2.2
theorem tail_getD (bs : List Bd) (k : Nat) : bs.tail.getD k default = bs.getD (k + 1) default := by
  cases bs <;> simp [List.getD]
theorem mok_tail {W H : Int} {n : Nat} {xs : List Int} {bs : List Bd} (h : MOk W H n xs bs) : MOk W H n xs bs.tail := by
  refine ⟨h.g, by have := h.len; simp; omega, fun k hk => ?_, fun b hb => h.fm b (List.mem_of_mem_tail hb), fun b hb => h.ins b (List.mem_of_mem_tail hb), fun b hb => h.fr b (List.mem_of_mem_tail hb), fun i j hji hi => ?_⟩
  · rw [tail_getD, tail_getD]
    exact h.asc (k + 1) (by simp at hk; omega)
  · rw [tail_getD, tail_getD]
    exact h.ap (i + 1) (j + 1) (by omega) (by simp at hi; omega)
/-- A tile that the first building took. -/
theorem tail_more {W H : Int} {n : Nat} {xs : List Int} {bs : List Bd} {c : Nat} (hc : c < 3) (h : MOk W H n xs bs) (h0 : 0 < bs.length) : ∃ k, k < n ∧ opn W xs bs c k = false ∧ opn W xs bs.tail c k = true := by
  have hm := getD_memB (k := 0) h0
  obtain ⟨b, hb⟩ : ∃ b, bs.getD 0 default = b := ⟨_, rfl⟩
  rw [hb] at hm
  have fm := h.fm b hm; have ins := h.ins b hm
  have w1 := fm.w1; have h1 := fm.h1
  have hk : 0 < b.w.toNat * b.h.toNat := Nat.mul_pos (by omega) (by omega)
  have hu := und_md fm ins hk
  have hmem : undAt W b 0 ∈ undL W b := List.mem_map.2 ⟨0, List.mem_range.2 hk, rfl⟩
  have hs := (und_mem fm ins hu.2.2.1).1 hmem
  obtain ⟨k, hk2⟩ : ∃ k : Nat, undAt W b 0 = k := ⟨(undAt W b 0).toNat, by have := hu.2.2.1; omega⟩
  rw [hk2] at hs hu hmem
  refine ⟨k, by have := h.g.nn; have := hu.2.2.2.1; omega, ?_, ?_⟩
  · have : cvB W bs k = true := List.any_eq_true.2 ⟨b, hm, hs⟩
    unfold opn; rw [this]; simp
  · have hcv : cvB W bs.tail k = false := by
      cases q : cvB W bs.tail k
      · rfl
      · obtain ⟨b', hb', hs'⟩ := List.any_eq_true.1 q
        obtain ⟨i, hi, e⟩ := mem_getDB hb'
        rw [tail_getD] at e
        have := h.ap (i + 1) 0 (by omega) (by simp at hi; omega)
        rw [e, hb, mt_of hs' hs] at this
        cases this
    have hf : xs.getD k 0 ≤ 1 := by
      have := h.fr b hm
      unfold frB at this
      have := List.all_eq_true.1 this _ hmem
      simpa using this
    have ho : opB c (xs.getD k 0).toNat = true := by
      have : (xs.getD k 0).toNat = 0 ∨ (xs.getD k 0).toNat = 1 := by omega
      have h3 : c = 0 ∨ c = 1 ∨ c = 2 := by omega
      rcases this with e | e <;> rw [e] <;> rcases h3 with rfl | rfl | rfl <;> decide
    unfold opn; rw [hcv, ho]; rfl
theorem bq_tail {w : World} {B : Nat} {b : Nat} {n : Nat} {bs : List Bd} {off : Nat} (h : Bq w B (some ⟨b, off, none⟩) (n + 1) bs) : Bq w B (some ⟨b, off + 6, none⟩) n bs.tail := by
  refine ⟨by have := h.len; simp; omega, fun hn => ?_⟩
  obtain ⟨b', off', e, hlt, hc⟩ := h.rd (by omega)
  simp only [Option.some.injEq, Addr.mk.injEq] at e
  obtain ⟨rfl, rfl, -⟩ := e
  refine ⟨b, off + 6, rfl, hlt, fun k hk i hi => ?_⟩
  rw [tail_getD, ← hc (k + 1) (by omega) i hi]
  congr 2
  omega
theorem clearBuilt_big (W H : Int) (a : Option Addr) (n c : Nat) (xs : List Int) (la : Option Addr) (ln lc : Nat) (bs : List Bd) (x : Int) (w : World) (hL : LC w) (h : By w w.heap.size a n xs) (hb0 : Bq w w.heap.size la ln bs) (hn : n ≤ 9223372036854775807) (hln : ln ≤ 9223372036854775807) (HV : Hk (gtP n ln = true)) :
    Calls Tryd.prog 8 #[.agg #[.int .i64 W, .int .i64 H, .slice a n c, .slice la ln lc, .int .i64 x]] w fun e w' => e = .returned (.bool true) ∧ Below w.heap.size w w' := by
  have HWB : Hk (Below w.heap.size w (w.alloc (.cells #[.int .i64 W, .int .i64 H, .slice a n c, .slice la ln lc, .int .i64 x] 48))) := ⟨(Below.refl _ _).alloc (Nat.le_refl _) _⟩
  have hNW : w.heap.size + 1 ≤ (w.alloc (.cells #[.int .i64 W, .int .i64 H, .slice a n c, .slice la ln lc, .int .i64 x] 48)).heap.size := by simp
  have HB : Hk (Below (w.heap.size + 1) (w.alloc (.cells #[.int .i64 W, .int .i64 H, .slice a n c, .slice la ln lc, .int .i64 x] 48)) (w.alloc (.cells #[.int .i64 W, .int .i64 H, .slice a n c, .slice la ln lc, .int .i64 x] 48))) := ⟨Below.refl _ _⟩
  have HTR : Hk (∀ X, Below (w.heap.size + 1) (w.alloc (.cells #[.int .i64 W, .int .i64 H, .slice a n c, .slice la ln lc, .int .i64 x] 48)) X → Below w.heap.size w X) := ⟨fun X hX => HWB.out.trans (hX.mono (by omega))⟩
  have HBY := Hk.mk (fun (X : World) (hX : Below (w.heap.size + 1) (w.alloc (.cells #[.int .i64 W, .int .i64 H, .slice a n c, .slice la ln lc, .int .i64 x] 48)) X) => h.below (HTR.out X hX) (Nat.le_refl _))
  have HBQ := Hk.mk (fun (X : World) (hX : Below (w.heap.size + 1) (w.alloc (.cells #[.int .i64 W, .int .i64 H, .slice a n c, .slice la ln lc, .int .i64 x] 48)) X) => hb0.below (HTR.out X hX) (Nat.le_refl _))
  have HLC := Hk.mk (fun (X : World) (hX : Below (w.heap.size + 1) (w.alloc (.cells #[.int .i64 W, .int .i64 H, .slice a n c, .slice la ln lc, .int .i64 x] 48)) X) => hL.below (HTR.out X hX) (Nat.le_refl _))
  clear h hb0 hL
  obtain ⟨hc, hf, hl, hn', hm⟩ := kw_rules HB.out hNW
  go_enter Tryd.func8, Tryd.ntmps8
  go_wp2_with (go_at_call 23; (with_reducible refine (heavy9_as true W H a n c _ ln lc _ _ (by omega) (by omega) HV).mono ?_); rintro e z ⟨rfl, hb⟩; replace HB := Hk.mk (kw_step HB.out hNW hb); clear hb; clear hc hf hl hn' hm; obtain ⟨hc, hf, hl, hn', hm⟩ := kw_rules HB.out hNW)
  go_ret
  exact ⟨rfl, HTR.out _ HB.out⟩
set_option maxRecDepth 100000 in
set_option maxHeartbeats 1600000 in
theorem clearBuilt_yes (W H : Int) (a : Option Addr) (n c : Nat) (xs : List Int) (la : Option Addr) (ln lc : Nat) (bs : List Bd) (cl : Nat) (w : World) (hL : LC w) (h : By w w.heap.size a n xs) (hb0 : Bq w w.heap.size la ln bs) (hn : n ≤ 700) (hln : ln ≤ 30) (hlc : ln ≤ lc) (HV : Hk (gtP n ln = false)) (hc3 : cl < 3) (MM : Hk (MOk W H n xs bs)) :
    Calls Tryd.prog 8 #[.agg #[.int .i64 W, .int .i64 H, .slice a n c, .slice la ln lc, .int .i64 cl]] w fun e w' => e = .returned (.bool true) ∧ Below w.heap.size w w' := by
  have M9 : Hk (MOk W H n xs bs ∧ 0 ≤ (cl : Int) ∧ (cl : Int) ≤ 2) := ⟨⟨MM.out, by omega, by omega⟩⟩
  have HWB : Hk (Below w.heap.size w (w.alloc (.cells #[.int .i64 W, .int .i64 H, .slice a n c, .slice la ln lc, .int .i64 cl] 48))) := ⟨(Below.refl _ _).alloc (Nat.le_refl _) _⟩
  have hNW : w.heap.size + 1 ≤ (w.alloc (.cells #[.int .i64 W, .int .i64 H, .slice a n c, .slice la ln lc, .int .i64 cl] 48)).heap.size := by simp
  have HB : Hk (Below (w.heap.size + 1) (w.alloc (.cells #[.int .i64 W, .int .i64 H, .slice a n c, .slice la ln lc, .int .i64 cl] 48)) (w.alloc (.cells #[.int .i64 W, .int .i64 H, .slice a n c, .slice la ln lc, .int .i64 cl] 48))) := ⟨Below.refl _ _⟩
  have HTR : Hk (∀ X, Below (w.heap.size + 1) (w.alloc (.cells #[.int .i64 W, .int .i64 H, .slice a n c, .slice la ln lc, .int .i64 cl] 48)) X → Below w.heap.size w X) := ⟨fun X hX => HWB.out.trans (hX.mono (by omega))⟩
  have HBY := Hk.mk (fun (X : World) (hX : Below (w.heap.size + 1) (w.alloc (.cells #[.int .i64 W, .int .i64 H, .slice a n c, .slice la ln lc, .int .i64 cl] 48)) X) => h.below (HTR.out X hX) (Nat.le_refl _))
  have HBQ := Hk.mk (fun (X : World) (hX : Below (w.heap.size + 1) (w.alloc (.cells #[.int .i64 W, .int .i64 H, .slice a n c, .slice la ln lc, .int .i64 cl] 48)) X) => hb0.below (HTR.out X hX) (Nat.le_refl _))
  have HLC := Hk.mk (fun (X : World) (hX : Below (w.heap.size + 1) (w.alloc (.cells #[.int .i64 W, .int .i64 H, .slice a n c, .slice la ln lc, .int .i64 cl] 48)) X) => hL.below (HTR.out X hX) (Nat.le_refl _))
  clear h hb0 hL
  obtain ⟨hc, hf, hl, hn', hm⟩ := kw_rules HB.out hNW
  have w1 := MM.out.g.w1; have w2 := MM.out.g.w2; have h1 := MM.out.g.h1; have h2 := MM.out.g.h2
  have HNN := Hk.mk MM.out.g.nn
  by_cases l0 : ln = 0
  · have dl : ((ln : Int) == 0) = true := by simp; omega
    have L0 := Hk.mk l0
    clear l0
    go_enter Tryd.func8, Tryd.ntmps8
    go_wp2_with (first
      | (go_at_call 23; (with_reducible refine (heavy9_as false W H a n c _ ln lc _ _ (by omega) (by omega) HV).mono ?_); rintro e z ⟨rfl, hb⟩; replace HB := Hk.mk (kw_step HB.out hNW hb); clear hb; clear hc hf hl hn' hm; obtain ⟨hc, hf, hl, hn', hm⟩ := kw_rules HB.out hNW)
      | (go_at_call 32; (refine (grid_yes W H a n c xs la ln lc bs _ ?_ ?_ (by omega) (by omega) cl (HLC.out _ HB.out) hc3 MM).mono ?_); (exact (HBY.out _ HB.out).mono (hsz1 HB.out)); (exact (HBQ.out _ HB.out).mono (hsz1 HB.out)); rintro e z ⟨I, rfl, hg2, hA1, hb⟩; have HA1 := Hk.mk hA1; clear hA1 hg2; replace HB := Hk.mk (kw_step HB.out hNW hb); clear hb; clear hc hf hl hn' hm; obtain ⟨hc, hf, hl, hn', hm⟩ := kw_rules HB.out hNW)
      | (go_at_call 27; (with_reducible refine (num9_any _ _).mono ?_); rintro e z ⟨rfl, rfl⟩))
    go_ret
    exact ⟨rfl, HTR.out _ HB.out⟩
  have dl : ((ln : Int) == 0) = false := by simp; omega
  have s0 : (1 : Int) ≤ (ln : Int) := by omega
  have s1 : (ln : Int) ≤ (lc : Int) := by omega
  obtain ⟨lb, loff, rfl, hlb, -⟩ := (HBQ.out _ (Below.refl _ _)).rd (by omega)
  have HBT : Hk (∀ X B, Bq X B (some ⟨lb, loff, none⟩) ln bs → Bq X B (if lc = 1 then some ⟨lb, loff, none⟩ else some ⟨lb, loff + 6, none⟩) (ln - 1) bs.tail) := ⟨fun X B h => by
    by_cases e : lc = 1
    · rw [if_pos e]
      exact ⟨by have := h.len; simp; omega, fun h => absurd h (by omega)⟩
    · rw [if_neg e]
      exact bq_tail (n := ln - 1) (by rw [show ln - 1 + 1 = ln by omega]; exact h)⟩
  have MT := Hk.mk (mok_tail MM.out)
  obtain ⟨T0, hT0, HT1, HT2⟩ : ∃ T0, T0 < n ∧ Hk ((opn W xs bs cl) T0 = false) ∧ Hk ((opn W xs bs.tail cl) T0 = true) := by
    obtain ⟨k, h1, h2, h3⟩ := tail_more hc3 MM.out (by have := (HBQ.out _ (Below.refl _ _)).len; omega)
    exact ⟨k, h1, ⟨h2⟩, ⟨h3⟩⟩
  go_enter Tryd.func8, Tryd.ntmps8
  go_wp2_with (first
    | (go_at_call 23; (with_reducible refine (heavy9_as false W H a n c _ ln lc _ _ (by omega) (by omega) HV).mono ?_); rintro e z ⟨rfl, hb⟩; replace HB := Hk.mk (kw_step HB.out hNW hb); clear hb; clear hc hf hl hn' hm; obtain ⟨hc, hf, hl, hn', hm⟩ := kw_rules HB.out hNW)
    | (go_at_call 32; (refine (grid_yes W H a n c xs (some ⟨lb, loff, none⟩) ln lc bs _ ?_ ?_ (by omega) (by omega) cl (HLC.out _ HB.out) hc3 MM).mono ?_); (exact (HBY.out _ HB.out).mono (hsz1 HB.out)); (exact (HBQ.out _ HB.out).mono (hsz1 HB.out)); rintro e z ⟨I, rfl, hg2, hA1, hb⟩; have HA1 := Hk.mk hA1; clear hA1 hg2; replace HB := Hk.mk (kw_step HB.out hNW hb); clear hb; clear hc hf hl hn' hm; obtain ⟨hc, hf, hl, hn', hm⟩ := kw_rules HB.out hNW)
    | (go_at_call 27; (with_reducible refine (num9_any _ _).mono ?_); rintro e z ⟨rfl, rfl⟩))
  refine wp_region_held_drew (S := (fun X => (∀ b o, b < w.heap.size + 1 → X.cell? ⟨b, o, none⟩ = (w.alloc (.cells #[.int .i64 W, .int .i64 H, .slice a n c, .slice (some ⟨lb, loff, none⟩) ln lc, .int .i64 cl] 48)).cell? ⟨b, o, none⟩) ∧ Below (w.heap.size + 1) (w.alloc (.cells #[.int .i64 W, .int .i64 H, .slice a n c, .slice (some ⟨lb, loff, none⟩) ln lc, .int .i64 cl] 48)) X)) (by kernel_rfl) ?_ (fun hHeld => ?_)
  · exact kw_S (kw_drew HB.out)
  refine wpAnyH_take (i := 0) (v := ?_) rfl (by kernel_rfl) (by kernel_rfl) (by kernel_rfl) (fun _ _ _ h => h) (Or.inl ⟨by rfl, fun wX hSw => ?_⟩) (by assumption) ?_
  rotate_left
  · (try dsimp only at hSw); go_simp; try with_reducible rfl
  (try simp only [Act.put, List.getElem_toArray, List.getElem_cons_succ, List.getElem_cons_zero, List.setIfInBounds_toArray, List.set_cons_zero, List.set_cons_succ])
  refine wpAnyH_take (i := 1) (v := ?_) rfl (by kernel_rfl) (by kernel_rfl) (by kernel_rfl) (fun _ _ _ h => h) (Or.inl ⟨by rfl, fun wX hSw => ?_⟩) (by assumption) ?_
  rotate_left
  · (try dsimp only at hSw); go_simp; try with_reducible rfl
  (try simp only [Act.put, List.getElem_toArray, List.getElem_cons_succ, List.getElem_cons_zero, List.setIfInBounds_toArray, List.set_cons_zero, List.set_cons_succ])
  refine wpAnyH_take (i := 2) (v := ?_) rfl (by kernel_rfl) (by kernel_rfl) (by kernel_rfl) (fun _ _ _ h => h) (Or.inl ⟨by rfl, fun wX hSw => ?_⟩) (by assumption) ?_
  rotate_left
  · (try dsimp only at hSw); go_simp; try with_reducible rfl
  (try simp only [Act.put, List.getElem_toArray, List.getElem_cons_succ, List.getElem_cons_zero, List.setIfInBounds_toArray, List.set_cons_zero, List.set_cons_succ])
  refine wpAnyH_take (i := 3) (v := ?_) rfl (by kernel_rfl) (by kernel_rfl) (by kernel_rfl) (fun _ _ _ h => h) (Or.inl ⟨by rfl, fun wX hSw => ?_⟩) (by assumption) ?_
  rotate_left
  · (try dsimp only at hSw); go_simp; try with_reducible rfl
  (try simp only [Act.put, List.getElem_toArray, List.getElem_cons_succ, List.getElem_cons_zero, List.setIfInBounds_toArray, List.set_cons_zero, List.set_cons_succ])
  refine wpAnyH_take (i := 4) (v := ?_) rfl (by kernel_rfl) (by kernel_rfl) (by kernel_rfl) (fun _ _ _ h => h) (Or.inl ⟨by rfl, fun wX hSw => ?_⟩) (by assumption) ?_
  rotate_left
  · (try dsimp only at hSw); go_simp; try with_reducible rfl
  (try simp only [Act.put, List.getElem_toArray, List.getElem_cons_succ, List.getElem_cons_zero, List.setIfInBounds_toArray, List.set_cons_zero, List.set_cons_succ])
  refine wpAnyH_take (i := 5) (v := ?_) rfl (by kernel_rfl) (by kernel_rfl) (by kernel_rfl) (fun _ _ _ h => h) (Or.inl ⟨by rfl, fun wX hSw => ?_⟩) (by assumption) ?_
  rotate_left
  · (try dsimp only at hSw); go_simp; try with_reducible rfl
  (try simp only [Act.put, List.getElem_toArray, List.getElem_cons_succ, List.getElem_cons_zero, List.setIfInBounds_toArray, List.set_cons_zero, List.set_cons_succ])
  refine wpAnyH_take (i := 6) (v := ?_) rfl (by kernel_rfl) (by kernel_rfl) (by kernel_rfl) (fun _ _ _ h => h) (Or.inl ⟨by rfl, fun wX hSw => ?_⟩) (by assumption) ?_
  rotate_left
  · (try dsimp only at hSw); go_simp; try with_reducible rfl
  (try simp only [Act.put, List.getElem_toArray, List.getElem_cons_succ, List.getElem_cons_zero, List.setIfInBounds_toArray, List.set_cons_zero, List.set_cons_succ])
  refine wpAnyH_ready (rs := [7]) (by kernel_rfl) (by simp) ?_
  refine AllReadyH.cons rfl (fun K hK => ?_) (AllReadyH.nil)
  go_simp
  ((go_at_call 32; (with_reducible refine (grid_yes W H a n c xs (if lc = 1 then some ⟨lb, loff, none⟩ else some ⟨lb, loff + 6, none⟩) (ln - 1) (lc - 1) bs.tail _ ?_ ?_ (by omega) (by omega) cl (HLC.out _ HB.out.drew) hc3 MT).mono ?_); (exact (HBY.out _ HB.out.drew).mono (hsz1 HB.out.drew)); (exact (HBT.out _ _ (HBQ.out _ HB.out.drew)).mono (hsz1 HB.out.drew)); rintro e z ⟨J, rfl, hg2, hA2, hb⟩; replace HA1 := Hk.mk (HA1.out.drew.later hb); have HA2 := Hk.mk hA2; clear hA2 hg2; have hB2 : Hk (Below (w.heap.size + 1) _ z) := ⟨kw_step HB.out.drew hNW hb⟩; clear hb; replace HB := hB2; clear hB2; clear hc hf hl hn' hm; obtain ⟨hc, hf, hl, hn', hm⟩ := kw_rules HB.out hNW))
  refine hK.out _ _ ?_ (fun hHeld => ?_)
  · exact kw_S HB.out
  clear hK K
  (try simp only [Act.put, List.getElem_toArray, List.getElem_cons_succ, List.getElem_cons_zero, List.setIfInBounds_toArray, List.set_cons_zero, List.set_cons_succ])
  refine wpAnyH_take (i := 8) (v := ?_) rfl (by kernel_rfl) (by kernel_rfl) (by kernel_rfl) (fun _ _ _ h => h) (Or.inl ⟨by rfl, fun wX hSw => ?_⟩) (by assumption) ?_
  rotate_left
  · (try dsimp only at hSw); go_simp; try with_reducible rfl
  (try simp only [Act.put, List.getElem_toArray, List.getElem_cons_succ, List.getElem_cons_zero, List.setIfInBounds_toArray, List.set_cons_zero, List.set_cons_succ])
  refine wpAnyH_take (i := 9) (v := ?_) rfl (by kernel_rfl) (by kernel_rfl) (by kernel_rfl) (fun _ _ _ h => h) (Or.inl ⟨by rfl, fun wX hSw => ?_⟩) (by assumption) ?_
  rotate_left
  · (try dsimp only at hSw); go_simp; try with_reducible rfl
  (try simp only [Act.put, List.getElem_toArray, List.getElem_cons_succ, List.getElem_cons_zero, List.setIfInBounds_toArray, List.set_cons_zero, List.set_cons_succ])
  refine wpAnyH_take (i := 10) (v := ?_) rfl (by kernel_rfl) (by kernel_rfl) (by kernel_rfl) (fun _ _ _ h => h) (Or.inl ⟨by rfl, fun wX hSw => ?_⟩) (by assumption) ?_
  rotate_left
  · (try dsimp only at hSw); go_simp; try with_reducible rfl
  (try simp only [Act.put, List.getElem_toArray, List.getElem_cons_succ, List.getElem_cons_zero, List.setIfInBounds_toArray, List.set_cons_zero, List.set_cons_succ])
  refine wpAnyH_take (i := 11) (v := ?_) rfl (by kernel_rfl) (by kernel_rfl) (by kernel_rfl) (fun _ _ _ h => h) (Or.inl ⟨by rfl, fun wX hSw => ?_⟩) (by assumption) ?_
  rotate_left
  · (try dsimp only at hSw); go_simp; try with_reducible rfl
  (try simp only [Act.put, List.getElem_toArray, List.getElem_cons_succ, List.getElem_cons_zero, List.setIfInBounds_toArray, List.set_cons_zero, List.set_cons_succ])
  refine wpAnyH_take (i := 12) (v := ?_) rfl (by kernel_rfl) (by kernel_rfl) (by kernel_rfl) (fun _ _ _ h => h) (Or.inl ⟨by rfl, fun wX hSw => ?_⟩) (by assumption) ?_
  rotate_left
  · (try dsimp only at hSw); go_simp; try with_reducible rfl
  (try simp only [Act.put, List.getElem_toArray, List.getElem_cons_succ, List.getElem_cons_zero, List.setIfInBounds_toArray, List.set_cons_zero, List.set_cons_succ])
  refine wpAnyH_done (by kernel_rfl) ?_ _
  go_wp2_with (go_at_call 27; (with_reducible refine (num9_any _ _).mono ?_); rintro e z ⟨rfl, rfl⟩)
  clear hc hf hl hn' hm
  all_goals (
    have HA1 := HA1; have HA2 := HA2
    have hI : I < z.heap.size := HA1.out.lt
    have hJ : J < z.heap.size := HA2.out.lt
    have HZ := Hk.mk (fun (X : World) (hX : Below z.heap.size z X) => HB.out.trans (hX.mono (kw_size HB.out hNW)))
    have HBZ : Hk (Below z.heap.size z z) := ⟨Below.refl _ _⟩
    have HMO := Hk.mk (fun t => sC_mono (W := W) (H := H) w2 (opn_tail W xs bs cl) t)
    have HT3 : Hk (sC W H (opn W xs bs cl) T0 = 0) := ⟨by
      have hA := at_of (H := H) (n := n) w1 HNN.out hT0
      unfold sC
      exact sV_no w2 (by rw [op_at hA]; exact HT1.out)⟩
    have HT4 : Hk (1 ≤ sC W H (opn W xs bs.tail cl) T0) := ⟨by
      have hA := at_of (H := H) (n := n) w1 HNN.out hT0
      exact (sqT_sC w2 1 T0).1 (by rw [sqT_one w1 HNN.out hT0]; exact HT2.out)⟩
    obtain ⟨zz, rfl⟩ : ∃ zz : World, zz = z := ⟨z, rfl⟩
    clear HB
    go_loopw [7, 8] (fun l s wr => ∃ (t : Nat) (lv : Bool), l = .bool lv ∧ s = .int .i64 t ∧ t ≤ n ∧ Hk (lv = true ∨ t ≤ T0) ∧ Hk (Below zz.heap.size zz wr)) (fun _ s _ => n - (intOf s).toNat)
    case atStart => exact ⟨0, false, rfl, rfl, Nat.zero_le _, ⟨Or.inr (Nat.zero_le _)⟩, HBZ⟩
    case round =>
      clear HBZ
      obtain ⟨t, lv, rfl, rfl, ht, HV2, HB⟩ := hrel
      by_cases hlt : t < n
      · have t0 : (0 : Int) ≤ (t : Int) := by omega
        have t1 : (t : Int) < (n : Int) := by omega
        have c1 := HA1.out.cell hlt
        have c2 := HA2.out.cell hlt
        have hle := HMO.out t
        have hs1 : sC W H (opn W xs bs.tail cl) t ≤ 128 := by unfold sC; exact sV_le _ _
        have HVN : Hk ((lv || decide (sC W H (opn W xs bs cl) t < sC W H (opn W xs bs.tail cl) t)) = true ∨ t + 1 ≤ T0) := ⟨by
          rcases HV2.out with h | h
          · left; rw [h]; rfl
          · by_cases e : t = T0
            · left; rw [e, HT3.out]; have := HT4.out; simp; omega
            · right; omega⟩
        obtain ⟨u, hu⟩ : ∃ u, sC W H (opn W xs bs cl) t = u := ⟨_, rfl⟩
        obtain ⟨v, hv⟩ : ∃ v, sC W H (opn W xs bs.tail cl) t = v := ⟨_, rfl⟩
        rw [hu] at c1 HVN hle
        rw [hv] at c2 HVN hle hs1
        clear hu hv
        have d1 : decide ((v : Int) < (u : Int)) = false := by simp; omega
        obtain ⟨hc, hf, hl, hn', hm⟩ := kw_rules HB.out (Nat.le_refl _)
        cases lv <;> (
          go_wp2_with fail
          go_quiet (fail)
          go_wp2_with fail
          go_quiet (fail)
          go_wp2
          exact ⟨⟨t + 1, _, rfl, by go_num, by omega, HVN, ⟨below_drewN HB.out _⟩⟩, by simp [intOf]; omega⟩)
      · have htn : t = n := by omega
        subst htn
        replace HB := Hk.mk (HZ.out _ HB.out)
        obtain ⟨hc, hf, hl, hn', hm⟩ := kw_rules HB.out hNW
        have hlv : lv = true := by rcases HV2.out with h | h; exact h; omega
        subst hlv
        go_wp2_with (go_at_call 30; (with_reducible refine (wakes9_any _ (HLC.out _ HB.out)).mono ?_); rintro e z ⟨rfl, hb⟩; replace HB := Hk.mk (kw_step HB.out hNW hb); clear hb; clear hc hf hl hn' hm; obtain ⟨hc, hf, hl, hn', hm⟩ := kw_rules HB.out hNW)
        go_ret
        exact ⟨rfl, HTR.out _ HB.out⟩)
theorem clearBuilt_no (W H : Int) (a : Option Addr) (n c : Nat) (xs : List Int) (la : Option Addr) (ln lc : Nat) (bs : List Bd) (x : Int) (w : World) (hL : LC w) (h : By w w.heap.size a n xs) (hb0 : Bq w w.heap.size la ln bs) (hn : n ≤ 700) (hln : ln ≤ 30) (HV : Hk (gtP n ln = false)) (MM : Hk (¬ (MOk W H n xs bs ∧ 0 ≤ x ∧ x ≤ 2))) :
    Calls Tryd.prog 8 #[.agg #[.int .i64 W, .int .i64 H, .slice a n c, .slice la ln lc, .int .i64 x]] w fun e w' => e = .returned (.bool true) ∧ Below w.heap.size w w' := by
  have HWB : Hk (Below w.heap.size w (w.alloc (.cells #[.int .i64 W, .int .i64 H, .slice a n c, .slice la ln lc, .int .i64 x] 48))) := ⟨(Below.refl _ _).alloc (Nat.le_refl _) _⟩
  have hNW : w.heap.size + 1 ≤ (w.alloc (.cells #[.int .i64 W, .int .i64 H, .slice a n c, .slice la ln lc, .int .i64 x] 48)).heap.size := by simp
  have HB : Hk (Below (w.heap.size + 1) (w.alloc (.cells #[.int .i64 W, .int .i64 H, .slice a n c, .slice la ln lc, .int .i64 x] 48)) (w.alloc (.cells #[.int .i64 W, .int .i64 H, .slice a n c, .slice la ln lc, .int .i64 x] 48))) := ⟨Below.refl _ _⟩
  have HTR : Hk (∀ X, Below (w.heap.size + 1) (w.alloc (.cells #[.int .i64 W, .int .i64 H, .slice a n c, .slice la ln lc, .int .i64 x] 48)) X → Below w.heap.size w X) := ⟨fun X hX => HWB.out.trans (hX.mono (by omega))⟩
  have HBY := Hk.mk (fun (X : World) (hX : Below (w.heap.size + 1) (w.alloc (.cells #[.int .i64 W, .int .i64 H, .slice a n c, .slice la ln lc, .int .i64 x] 48)) X) => h.below (HTR.out X hX) (Nat.le_refl _))
  have HBQ := Hk.mk (fun (X : World) (hX : Below (w.heap.size + 1) (w.alloc (.cells #[.int .i64 W, .int .i64 H, .slice a n c, .slice la ln lc, .int .i64 x] 48)) X) => hb0.below (HTR.out X hX) (Nat.le_refl _))
  have HLC := Hk.mk (fun (X : World) (hX : Below (w.heap.size + 1) (w.alloc (.cells #[.int .i64 W, .int .i64 H, .slice a n c, .slice la ln lc, .int .i64 x] 48)) X) => hL.below (HTR.out X hX) (Nat.le_refl _))
  clear h hb0 hL
  obtain ⟨hc, hf, hl, hn', hm⟩ := kw_rules HB.out hNW
  go_enter Tryd.func8, Tryd.ntmps8
  go_wp2_with (first
    | (go_at_call 23; (with_reducible refine (heavy9_as false W H a n c _ ln lc _ _ (by omega) (by omega) HV).mono ?_); rintro e z ⟨rfl, hb⟩; replace HB := Hk.mk (kw_step HB.out hNW hb); clear hb; clear hc hf hl hn' hm; obtain ⟨hc, hf, hl, hn', hm⟩ := kw_rules HB.out hNW)
    | (go_at_call 32; (refine (grid_no W H a n c xs la ln lc bs _ ?_ ?_ (by omega) (by omega) x MM).mono ?_); (exact (HBY.out _ HB.out).mono (hsz1 HB.out)); (exact (HBQ.out _ HB.out).mono (hsz1 HB.out)); rintro e z ⟨rfl, hb⟩; replace HB := Hk.mk (kw_step HB.out hNW hb); clear hb; clear hc hf hl hn' hm; obtain ⟨hc, hf, hl, hn', hm⟩ := kw_rules HB.out hNW)
    | (go_at_call 27; (with_reducible refine (num9_any _ _).mono ?_); rintro e z ⟨rfl, rfl⟩))
  go_ret
  exact ⟨rfl, HTR.out _ HB.out⟩
theorem clearBuilt_walk (v : Value) (w : World) (hL : LC w) (rows : Asks9 w v) :
    Calls Tryd.prog 8 #[v] w fun e w' => e = .returned (.bool true) ∧ Below w.heap.size w w' := by
  obtain ⟨W, H, a, n, c, xs, la, ln, lc, bs, x, rfl, hW, hH, hx, hn, hlc, hcc, hby, hbq, hi⟩ := rows
  by_cases g : gtP n ln = true
  · exact clearBuilt_big W H a n c xs la ln lc bs x w hL hby hbq hn (by omega) ⟨g⟩
  · have g' : gtP n ln = false := by simpa using g
    have hs : n ≤ 700 ∧ ln ≤ 30 := by unfold gtP at g'; simp at g'; exact g'
    by_cases M : MOk W H n xs bs ∧ 0 ≤ x ∧ x ≤ 2
    · obtain ⟨cl, rfl⟩ : ∃ cl : Nat, x = cl := ⟨x.toNat, by omega⟩
      exact clearBuilt_yes W H a n c xs la ln lc bs cl w hL hby hbq hs.1 hs.2 hlc ⟨g'⟩ (by omega) ⟨M.1⟩
    · exact clearBuilt_no W H a n c xs la ln lc bs x w hL hby hbq hs.1 hs.2 ⟨g'⟩ ⟨M⟩

theorem clearBuilt_own : ownKnob Tryd.prog.godebug = none := by kernel_rfl
theorem clearBuilt_laidOut : laidOutB Tryd.prog = true := by kernel_rfl
theorem clearBuilt_door (os : Os) (args : Array Value) : laidMetH Tryd.prog [("throng/kind.costs", Rows.laid_throng_kind_costs)] ((World.doorLaid Tryd.prog 400 os).forCall (fun _ _ => 0) ⟨#[], args, []⟩).memory :=
  laidMetH_of_parts3 (fuel := 8) (laidMet_of_run' 8 (by kernel_rfl) (by kernel_rfl)) (by kernel_rfl) (by kernel_rfl)
set_option maxRecDepth 100000 in
theorem clearBuilt_lifted (os : Os) (started : os.Started) (H : Type) (enc : TypeId × Value → H) :
    ReturnsInHanded {} Tryd.checked os 8 .any (fun w args => (Rows.clearBuiltSpec.pre enc Tryd.prog Tryd.f8 [] false w args ∧ laidMetH Tryd.prog [("throng/kind.costs", Rows.laid_throng_kind_costs)] w) ∧ sizedMet enc Tryd.prog Tryd.f8 (OpenSpec.ofChange Rows.clearBuiltSpec) false w args)
      (Rows.clearBuiltSpec.post enc Tryd.prog Tryd.f8 false true false false) := by
  refine returnsInHanded_of_change_and (C := Tryd.checked) (X := fun w _ => laidMetH Tryd.prog [("throng/kind.costs", Rows.laid_throng_kind_costs)] w) (fun _ _ _ hh h => h.of_heap hh) clearBuilt_own started (by kernel_rfl) Tryd.func8
    (ChangeSpec.witness_shaped (enc := enc) (C := Tryd.checked) (os := os) (X := fun w _ => laidMetH Tryd.prog [("throng/kind.costs", Rows.laid_throng_kind_costs)] w) false (World.doorLaid Tryd.prog 400 os) #[.agg #[.int .i64 0, .int .i64 0, .slice none 0 0, .slice none 0 0, .int .i64 0]] 8 rfl (World.shaped_of_RefB (by kernel_rfl) (by kernel_rfl)) (by kernel_rfl) (by kernel_rfl) (by kernel_rfl) (clearBuilt_door os _)) ?_
  intro W base args ds gs before hval0 hW _ _ hL _
  have hval : ∀ (j : Nat) t v, Tryd.f8.params[j]? = some t → args[j]? = some v → Value.okWide Tryd.prog W .any base t v := hval0
  have hW' := hW
  obtain ⟨p, q, hA0, hV, rfl, hfz, hnd⟩ := hW
  have hA : DataW.TrodAll enc Tryd.prog W 0 (fun _ => true) true Tryd.f8.params.toList args.toList ds p := hA0
  rw [Tryd.params8] at hA hval
  obtain ⟨v0, vs0, d0, ds0, p0, q0, hargs, rfl, rfl, h0, r0⟩ := trodAll_cons hA
  obtain ⟨rfl, rfl, rfl⟩ := trodAll_nil r0
  obtain rfl : args = #[v0] := by cases args; simp_all
  obtain ⟨rfl, rfl⟩ := trodVars_none hV
  obtain ⟨cs0, rfl, hcs0⟩ := okWide_struct Tryd.underlying48 (hval 0 48 v0 rfl rfl)
  have k0 := h0
  have lt0 : ∀ x ∈ p0, x.block < W.heap.size := by obtain ⟨m, hm⟩ := k0; exact DataW.trod_lt m _ _ _ hm
  have rows : Asks9 W (.agg cs0) := by obtain ⟨fuel, hf⟩ := h0; exact asks9_of hcs0 hf
  clear hA0 hval0
  refine (clearBuilt_walk (.agg cs0) W (of_laidC hL) rows).mono fun e W' ⟨he, bel⟩ => ?_
  subst he
  exact ⟨_, rfl, _, _, _, [], _, [], hW', trodAll_mk1 (shut_bool Tryd.underlying4 _), (trodAll_cons_mk (Below.trod clearBuilt_laidOut (by kernel_rfl) (of_decide_eq_true (by kernel_rfl)) k0 bel lt0) trodAll_mk0), rfl, bel.frame _, fun h => by cases h⟩
theorem clearBuilt_over : Rows.ClearBuiltSaid :=
  OpenClaim.holds_of_wide 8 Tryd.f8 rfl rfl rfl rfl rfl rfl rfl ⟨rfl, rfl, rfl, rfl, rfl⟩ rfl rfl rfl rfl rfl (by kernel_rfl) Tryd.func8 (by kernel_rfl)
    (of_decide_eq_true (by kernel_rfl)) (by unfold Func.isWrapper; first | (rw [if_pos (by decide +kernel)]; kernel_rfl) | (rw [if_neg (by decide +kernel)]; exact ⟨rfl, rfl⟩))
    (fun os started H enc _ => clearBuilt_lifted os started H enc)
/-- The given card of ClearBuilt. -/
theorem clearBuilt_card : Rows.ClearBuiltCardSaid :=
  Claim7.holds_tied_plain_at .later [] [.data] true (true, "2c4bcf7ec666a06e3a39b6c766dcfdcece0d58204668e437dfc8163f308f0d77") false
    clearBuilt_over (fun _ h => by cases h) (by kernel_rfl) (fun _ h => by cases h) clearBuilt_row_tie rfl ⟨rfl, rfl⟩ (by kernel_rfl) rfl
    (fun f fn hf hfn => by
      obtain rfl : f = 8 := Option.some.inj ((show Tryd.prog.funcNamed "throng/thronglaw9.ClearBuilt" = some 8 by kernel_rfl).symm.trans hf) |>.symm
      obtain rfl : fn = Tryd.f8 := (Option.some.inj (Tryd.func8.symm.trans hfn)).symm
      exact ⟨by kernel_rfl, fun j t ht => by
        rw [Tryd.params8] at ht
        have hm : t ∈ [48] := by simpa using Array.mem_of_getElem? ht
        have hall : ([48].all fun u => !Tryd.prog.wantsStandIn u) = true := by kernel_rfl
        exact (show Tryd.prog.wantsStandIn t = false by simpa using List.all_eq_true.1 hall t hm)⟩)
    (by kernel_rfl)
end Go.Proofs.YtjjodfdmbiebnaaDoor

