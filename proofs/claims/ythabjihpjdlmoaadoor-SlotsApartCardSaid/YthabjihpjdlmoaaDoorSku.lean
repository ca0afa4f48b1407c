import Derived.Deep.QuietTactic
import Derived.BigQuiet
import Derived.Deep.RegionWith
import Derived.Deep.RegionHeld3
import Derived.Deep.DeepCutAuto
import Derived.Deep.DeepFit
import Derived.Outline
import Derived.Test.YthabjihpjdlmoaaDoorSkt
/- Layer 8: the reference's May. -/
namespace Go.Proofs.YthabjihpjdlmoaaDoor
open Go.RowKit
set_option linter.unusedVariables false
set_option linter.unusedSimpArgs false
theorem hsz1 {w X : World} {o : Obj} (h : Below (w.heap.size + 1) (w.alloc o) X) : w.heap.size ≤ X.heap.size := by have := h.size; simp at this; omega
set_option maxRecDepth 100000 in
set_option maxHeartbeats 1600000 in
theorem may_as (r : Bool) (W H : Int) (a : Option Addr) (n c : Nat) (xs : List Int) (la : Option Addr) (ln lc : Nat) (bs : List Bd) (w : World) (h : By w w.heap.size a n xs) (hb0 : Bq w w.heap.size la ln bs) (hn : n ≤ 140737488355328) (hln : ln ≤ 1099511627776) (E : Hk (r = true ↔ MOk W H n xs bs)) :
    Calls Tryd.prog 64 #[.agg #[.int .i64 W, .int .i64 H, .slice a n c], .slice la ln lc] w fun e w' => e = .returned (.bool r) ∧ Below w.heap.size w w' := by
  have HWB : Hk (Below w.heap.size w (w.alloc (.cells #[.int .i64 W, .int .i64 H, .slice a n c] 24))) := ⟨(Below.refl _ _).alloc (Nat.le_refl _) _⟩
  have hNW : w.heap.size + 1 ≤ (w.alloc (.cells #[.int .i64 W, .int .i64 H, .slice a n c] 24)).heap.size := by simp
  have HB : Hk (Below (w.heap.size + 1) (w.alloc (.cells #[.int .i64 W, .int .i64 H, .slice a n c] 24)) (w.alloc (.cells #[.int .i64 W, .int .i64 H, .slice a n c] 24))) := ⟨Below.refl _ _⟩
  have HTR : Hk (∀ X, Below (w.heap.size + 1) (w.alloc (.cells #[.int .i64 W, .int .i64 H, .slice a n c] 24)) X → Below w.heap.size w X) := ⟨fun X hX => HWB.out.trans (hX.mono (by omega))⟩
  have HBY := Hk.mk (fun (X : World) (hX : Below (w.heap.size + 1) (w.alloc (.cells #[.int .i64 W, .int .i64 H, .slice a n c] 24)) X) => h.below (HTR.out X hX) (Nat.le_refl _))
  have HBQ := Hk.mk (fun (X : World) (hX : Below (w.heap.size + 1) (w.alloc (.cells #[.int .i64 W, .int .i64 H, .slice a n c] 24)) X) => hb0.below (HTR.out X hX) (Nat.le_refl _))
  have HLN := Hk.mk hb0.len
  have HQ0 := Hk.mk hb0
  clear h hb0
  by_cases hg : GOk W H n xs
  case neg =>
    have EQ : Hk (gB W H n xs = false) := ⟨gB_no hg⟩
    have R : Hk (false = r) := ⟨by cases r; rfl; exact absurd (E.out.1 rfl).g hg⟩
    clear hg
    go_enter Tryd.func64, Tryd.ntmps64
    go_wp2_with (go_at_call 83; (with_reducible refine (rgr_as false W H a n c w.heap.size xs _ ?_ ?_ hn EQ).mono ?_); (exact HBY.out _ HB.out); (exact hsz1 HB.out); rintro e z ⟨rfl, hb⟩; replace HB := Hk.mk (kw_step HB.out hNW hb); clear hb; obtain ⟨hc, hf, hl, hn', hm⟩ := kw_rules HB.out hNW)
    go_ret
    exact ⟨rbo R.out, HTR.out _ HB.out⟩
  have EQ : Hk (gB W H n xs = true) := ⟨gB_yes hg⟩
  have HG := Hk.mk hg
  have w1 := hg.w1; have w2 := hg.w2; have h1 := hg.h1; have h2 := hg.h2
  clear hg
  by_cases hl256 : 256 < ln
  · have R : Hk (false = r) := ⟨by cases r; rfl; have := (E.out.1 rfl).len; rw [HLN.out] at this; omega⟩
    have d256 : decide ((256 : Int) < (ln : Int)) = true := by simp; omega
    go_enter Tryd.func64, Tryd.ntmps64
    go_wp2_with (go_at_call 83; (with_reducible refine (rgr_as true W H a n c w.heap.size xs _ ?_ ?_ hn EQ).mono ?_); (exact HBY.out _ HB.out); (exact hsz1 HB.out); rintro e z ⟨rfl, hb⟩; replace HB := Hk.mk (kw_step HB.out hNW hb); clear hb; obtain ⟨hc, hf, hl, hn', hm⟩ := kw_rules HB.out hNW)
    go_ret
    exact ⟨rbo R.out, HTR.out _ HB.out⟩
  have d256 : decide ((256 : Int) < (ln : Int)) = false := by simp; omega
  by_cases has : ascB bs
  case neg =>
    have EA : Hk (¬ ascB bs) := ⟨has⟩
    have R : Hk (false = r) := ⟨by cases r; rfl; exact absurd (E.out.1 rfl).asc has⟩
    clear has
    go_enter Tryd.func64, Tryd.ntmps64
    go_wp2_with (first | (go_at_call 83; (with_reducible refine (rgr_as true W H a n c w.heap.size xs _ ?_ ?_ hn EQ).mono ?_); (exact HBY.out _ HB.out); (exact hsz1 HB.out); rintro e z ⟨rfl, hb⟩; replace HB := Hk.mk (kw_step HB.out hNW hb); clear hb; obtain ⟨hc, hf, hl, hn', hm⟩ := kw_rules HB.out hNW) | (go_at_call 84; (with_reducible refine (ids8_no la ln lc w.heap.size bs _ ?_ (by omega) EA).mono ?_); (exact HBQ.out _ HB.out); rintro e z ⟨rfl, m, rfl⟩))
    go_ret
    exact ⟨rbo R.out, HTR.out _ (below_drewN HB.out _)⟩
  have EA : Hk (ascB bs) := ⟨has⟩
  have HAS := Hk.mk has
  clear has
  go_enter Tryd.func64, Tryd.ntmps64
  go_wp2_with (first | (go_at_call 83; (with_reducible refine (rgr_as true W H a n c w.heap.size xs _ ?_ ?_ hn EQ).mono ?_); (exact HBY.out _ HB.out); (exact hsz1 HB.out); rintro e z ⟨rfl, hb⟩; replace HB := Hk.mk (kw_step HB.out hNW hb); clear hb; obtain ⟨hc, hf, hl, hn', hm⟩ := kw_rules HB.out hNW) | (go_at_call 84; (with_reducible refine (ids8_yes la ln lc w.heap.size bs _ ?_ (by omega) EA).mono ?_); (exact HBQ.out _ HB.out); rintro e z ⟨rfl, m, rfl⟩; have HB0 := Hk.mk (below_drewN HB.out m)))
  clear hc hf hl hn' hm
  go_loopw [5] (fun i wr => ∃ k : Nat, i = .int .i64 k ∧ k ≤ ln ∧ Hk (∀ j, j < k → FmOk (bs.getD j default) ∧ InOk W H (bs.getD j default) ∧ frB W xs (bs.getD j default) = true ∧ ∀ j2, j2 < j → mtB (bs.getD j default) (bs.getD j2 default) = false) ∧ Hk (Below (w.heap.size + 1) (w.alloc (.cells #[.int .i64 W, .int .i64 H, .slice a n c] 24)) wr)) (fun i _ => ln - (intOf i).toNat)
  case atStart => exact ⟨0, rfl, Nat.zero_le _, ⟨fun j hj => absurd hj (by omega)⟩, HB0⟩
  case round =>
    clear HB0 HB
    obtain ⟨k, rfl, hk, HJ, HB⟩ := hrel
    obtain ⟨hc, hf, hl, hn', hm⟩ := kw_rules HB.out hNW
    by_cases hlt : k < ln
    · obtain ⟨bb, off, rfl, hbl, p0, p1, p2, p3, p4, p5⟩ := HQ0.out.six hlt
      have hbw2 : bb < w.heap.size + 1 := by omega
      have hmem : bs.getD k default ∈ bs := getD_memB (by rw [HLN.out]; exact hlt)
      have HM : Hk (r = true → FmOk (bs.getD k default) ∧ InOk W H (bs.getD k default) ∧ frB W xs (bs.getD k default) = true) := ⟨fun hr => ⟨(E.out.1 hr).fm _ hmem, (E.out.1 hr).ins _ hmem, (E.out.1 hr).fr _ hmem⟩⟩
      clear hmem
      obtain ⟨b, hbd⟩ : ∃ b, bs.getD k default = b := ⟨_, rfl⟩
      rw [hbd] at p0 p1 p2 p3 p4 p5 HM
      have HBD := Hk.mk hbd
      clear hbd
      have t0 : (0 : Int) ≤ (k : Int) := by omega
      have t1 : (k : Int) < (ln : Int) := by omega
      cases hq1 : fmB b
      case false =>
        have R : Hk (false = r) := ⟨by cases r; rfl; have := fmB_iff.2 (HM.out rfl).1; rw [hq1] at this; exact this⟩
        have Q1 := Hk.mk hq1
        clear hq1
        go_wp2_with fail
        refine wp_region_held_drew (S := (fun X => (∀ b o, b < w.heap.size + 1 → X.cell? ⟨b, o, none⟩ = ((w.alloc (.cells #[.int .i64 W, .int .i64 H, .slice a n c] 24))).cell? ⟨b, o, none⟩) ∧ Below (w.heap.size + 1) (w.alloc (.cells #[.int .i64 W, .int .i64 H, .slice a n c] 24)) X)) (by kernel_rfl) ?_ (fun hHeld => ?_)
        · exact kw_S (kw_drew HB.out)
        refine wpAnyH_take (i := 0) (v := ?_) rfl (by kernel_rfl) (by kernel_rfl) (by kernel_rfl) (fun _ _ _ h => h) (Or.inl ⟨by rfl, fun wX hSw => ?_⟩) (by assumption) ?_
        rotate_left
        · (try dsimp only at hSw); go_simp; try with_reducible rfl
        (try simp only [Act.put, List.getElem_toArray, List.getElem_cons_succ, List.getElem_cons_zero, List.setIfInBounds_toArray, List.set_cons_zero, List.set_cons_succ])
        refine wpAnyH_take (i := 1) (v := ?_) rfl (by kernel_rfl) (by kernel_rfl) (by kernel_rfl) (fun _ _ _ h => h) (Or.inl ⟨by rfl, fun wX hSw => ?_⟩) (by assumption) ?_
        rotate_left
        · (try dsimp only at hSw); go_simp; try with_reducible rfl
        (try simp only [Act.put, List.getElem_toArray, List.getElem_cons_succ, List.getElem_cons_zero, List.setIfInBounds_toArray, List.set_cons_zero, List.set_cons_succ])
        refine wpAnyH_take (i := 2) (v := ?_) rfl (by kernel_rfl) (by kernel_rfl) (by kernel_rfl) (fun _ _ _ h => h) (Or.inl ⟨by rfl, fun wX hSw => ?_⟩) (by assumption) ?_
        rotate_left
        · (try dsimp only at hSw); go_simp; try with_reducible rfl
        (try simp only [Act.put, List.getElem_toArray, List.getElem_cons_succ, List.getElem_cons_zero, List.setIfInBounds_toArray, List.set_cons_zero, List.set_cons_succ])
        refine wpAnyH_take (i := 3) (v := ?_) rfl (by kernel_rfl) (by kernel_rfl) (by kernel_rfl) (fun _ _ _ h => h) (Or.inl ⟨by rfl, fun wX hSw => ?_⟩) (by assumption) ?_
        rotate_left
        · (try dsimp only at hSw); go_simp; try with_reducible rfl
        (try simp only [Act.put, List.getElem_toArray, List.getElem_cons_succ, List.getElem_cons_zero, List.setIfInBounds_toArray, List.set_cons_zero, List.set_cons_succ])
        refine wpAnyH_ready (rs := [4]) (by kernel_rfl) (by simp) ?_
        refine AllReadyH.cons rfl (fun K hK => ?_) (AllReadyH.nil)
        go_simp
        ((go_at_call 85; (with_reducible refine (sides_as false b _ Q1).mono ?_); rintro e z ⟨rfl, hb⟩; have hB2 : Hk (Below (w.heap.size + 1) (w.alloc (.cells #[.int .i64 W, .int .i64 H, .slice a n c] 24)) z) := ⟨by first | exact kw_step HB.out hNW hb | exact kw_step HB.out.drew hNW hb⟩; clear hb; replace HB := hB2; clear hB2))
        refine hK.out _ _ ?_ (fun hHeld => ?_)
        · exact kw_S HB.out
        clear hK K
        (try simp only [Act.put, List.getElem_toArray, List.getElem_cons_succ, List.getElem_cons_zero, List.setIfInBounds_toArray, List.set_cons_zero, List.set_cons_succ])
        refine wpAnyH_take (i := 5) (v := ?_) rfl (by kernel_rfl) (by kernel_rfl) (by kernel_rfl) (fun _ _ _ h => h) (Or.inl ⟨by rfl, fun wX hSw => ?_⟩) (by assumption) ?_
        rotate_left
        · (try dsimp only at hSw); go_simp; try with_reducible rfl
        (try simp only [Act.put, List.getElem_toArray, List.getElem_cons_succ, List.getElem_cons_zero, List.setIfInBounds_toArray, List.set_cons_zero, List.set_cons_succ])
        refine wpAnyH_take (i := 6) (v := ?_) rfl (by kernel_rfl) (by kernel_rfl) (by kernel_rfl) (fun _ _ _ h => h) (Or.inl ⟨by rfl, fun wX hSw => ?_⟩) (by assumption) ?_
        rotate_left
        · (try dsimp only at hSw); go_simp; try with_reducible rfl
        (try simp only [Act.put, List.getElem_toArray, List.getElem_cons_succ, List.getElem_cons_zero, List.setIfInBounds_toArray, List.set_cons_zero, List.set_cons_succ])
        refine wpAnyH_take (i := 7) (v := undef) rfl (by kernel_rfl) (by kernel_rfl) (by kernel_rfl) (fun _ _ _ h => h) (Or.inr ⟨by rfl, rfl⟩) (by assumption) ?_
        (try simp only [Act.put, List.getElem_toArray, List.getElem_cons_succ, List.getElem_cons_zero, List.setIfInBounds_toArray, List.set_cons_zero, List.set_cons_succ])
        refine wpAnyH_take (i := 8) (v := undef) rfl (by kernel_rfl) (by kernel_rfl) (by kernel_rfl) (fun _ _ _ h => h) (Or.inr ⟨by rfl, rfl⟩) (by assumption) ?_
        (try simp only [Act.put, List.getElem_toArray, List.getElem_cons_succ, List.getElem_cons_zero, List.setIfInBounds_toArray, List.set_cons_zero, List.set_cons_succ])
        refine wpAnyH_take (i := 9) (v := undef) rfl (by kernel_rfl) (by kernel_rfl) (by kernel_rfl) (fun _ _ _ h => h) (Or.inr ⟨by rfl, rfl⟩) (by assumption) ?_
        (try simp only [Act.put, List.getElem_toArray, List.getElem_cons_succ, List.getElem_cons_zero, List.setIfInBounds_toArray, List.set_cons_zero, List.set_cons_succ])
        refine wpAnyH_take (i := 10) (v := undef) rfl (by kernel_rfl) (by kernel_rfl) (by kernel_rfl) (fun _ _ _ h => h) (Or.inr ⟨by rfl, rfl⟩) (by assumption) ?_
        (try simp only [Act.put, List.getElem_toArray, List.getElem_cons_succ, List.getElem_cons_zero, List.setIfInBounds_toArray, List.set_cons_zero, List.set_cons_succ])
        refine wpAnyH_take (i := 11) (v := undef) rfl (by kernel_rfl) (by kernel_rfl) (by kernel_rfl) (fun _ _ _ h => h) (Or.inr ⟨by rfl, rfl⟩) (by assumption) ?_
        (try simp only [Act.put, List.getElem_toArray, List.getElem_cons_succ, List.getElem_cons_zero, List.setIfInBounds_toArray, List.set_cons_zero, List.set_cons_succ])
        refine wpAnyH_take (i := 12) (v := undef) rfl (by kernel_rfl) (by kernel_rfl) (by kernel_rfl) (fun _ _ _ h => h) (Or.inr ⟨by rfl, rfl⟩) (by assumption) ?_
        (try simp only [Act.put, List.getElem_toArray, List.getElem_cons_succ, List.getElem_cons_zero, List.setIfInBounds_toArray, List.set_cons_zero, List.set_cons_succ])
        refine wpAnyH_take (i := 13) (v := undef) rfl (by kernel_rfl) (by kernel_rfl) (by kernel_rfl) (fun _ _ _ h => h) (Or.inr ⟨by rfl, rfl⟩) (by assumption) ?_
        (try simp only [Act.put, List.getElem_toArray, List.getElem_cons_succ, List.getElem_cons_zero, List.setIfInBounds_toArray, List.set_cons_zero, List.set_cons_succ])
        refine wpAnyH_take (i := 14) (v := ?_) rfl (by kernel_rfl) (by kernel_rfl) (by kernel_rfl) (fun _ _ _ h => h) (Or.inl ⟨by rfl, fun wX hSw => ?_⟩) (by assumption) ?_
        rotate_left
        · (try dsimp only at hSw); go_simp; try with_reducible rfl
        (try simp only [Act.put, List.getElem_toArray, List.getElem_cons_succ, List.getElem_cons_zero, List.setIfInBounds_toArray, List.set_cons_zero, List.set_cons_succ])
        refine wpAnyH_take (i := 15) (v := ?_) rfl (by kernel_rfl) (by kernel_rfl) (by kernel_rfl) (fun _ _ _ h => h) (Or.inl ⟨by rfl, fun wX hSw => ?_⟩) (by assumption) ?_
        rotate_left
        · (try dsimp only at hSw); go_simp; try with_reducible rfl
        (try simp only [Act.put, List.getElem_toArray, List.getElem_cons_succ, List.getElem_cons_zero, List.setIfInBounds_toArray, List.set_cons_zero, List.set_cons_succ])
        refine wpAnyH_take (i := 16) (v := undef) rfl (by kernel_rfl) (by kernel_rfl) (by kernel_rfl) (fun _ _ _ h => h) (Or.inr ⟨by rfl, rfl⟩) (by assumption) ?_
        (try simp only [Act.put, List.getElem_toArray, List.getElem_cons_succ, List.getElem_cons_zero, List.setIfInBounds_toArray, List.set_cons_zero, List.set_cons_succ])
        refine wpAnyH_take (i := 17) (v := undef) rfl (by kernel_rfl) (by kernel_rfl) (by kernel_rfl) (fun _ _ _ h => h) (Or.inr ⟨by rfl, rfl⟩) (by assumption) ?_
        (try simp only [Act.put, List.getElem_toArray, List.getElem_cons_succ, List.getElem_cons_zero, List.setIfInBounds_toArray, List.set_cons_zero, List.set_cons_succ])
        refine wpAnyH_take (i := 18) (v := undef) rfl (by kernel_rfl) (by kernel_rfl) (by kernel_rfl) (fun _ _ _ h => h) (Or.inr ⟨by rfl, rfl⟩) (by assumption) ?_
        (try simp only [Act.put, List.getElem_toArray, List.getElem_cons_succ, List.getElem_cons_zero, List.setIfInBounds_toArray, List.set_cons_zero, List.set_cons_succ])
        refine wpAnyH_take (i := 19) (v := undef) rfl (by kernel_rfl) (by kernel_rfl) (by kernel_rfl) (fun _ _ _ h => h) (Or.inr ⟨by rfl, rfl⟩) (by assumption) ?_
        (try simp only [Act.put, List.getElem_toArray, List.getElem_cons_succ, List.getElem_cons_zero, List.setIfInBounds_toArray, List.set_cons_zero, List.set_cons_succ])
        refine wpAnyH_take (i := 20) (v := undef) rfl (by kernel_rfl) (by kernel_rfl) (by kernel_rfl) (fun _ _ _ h => h) (Or.inr ⟨by rfl, rfl⟩) (by assumption) ?_
        (try simp only [Act.put, List.getElem_toArray, List.getElem_cons_succ, List.getElem_cons_zero, List.setIfInBounds_toArray, List.set_cons_zero, List.set_cons_succ])
        refine wpAnyH_take (i := 21) (v := undef) rfl (by kernel_rfl) (by kernel_rfl) (by kernel_rfl) (fun _ _ _ h => h) (Or.inr ⟨by rfl, rfl⟩) (by assumption) ?_
        (try simp only [Act.put, List.getElem_toArray, List.getElem_cons_succ, List.getElem_cons_zero, List.setIfInBounds_toArray, List.set_cons_zero, List.set_cons_succ])
        refine wpAnyH_take (i := 22) (v := undef) rfl (by kernel_rfl) (by kernel_rfl) (by kernel_rfl) (fun _ _ _ h => h) (Or.inr ⟨by rfl, rfl⟩) (by assumption) ?_
        (try simp only [Act.put, List.getElem_toArray, List.getElem_cons_succ, List.getElem_cons_zero, List.setIfInBounds_toArray, List.set_cons_zero, List.set_cons_succ])
        refine wpAnyH_take (i := 23) (v := ?_) rfl (by kernel_rfl) (by kernel_rfl) (by kernel_rfl) (fun _ _ _ h => h) (Or.inl ⟨by rfl, fun wX hSw => ?_⟩) (by assumption) ?_
        rotate_left
        · (try dsimp only at hSw); go_simp; try with_reducible rfl
        (try simp only [Act.put, List.getElem_toArray, List.getElem_cons_succ, List.getElem_cons_zero, List.setIfInBounds_toArray, List.set_cons_zero, List.set_cons_succ])
        refine wpAnyH_done (by kernel_rfl) ?_ _
        go_wp2
        go_ret
        exact ⟨rbo R.out, HTR.out _ HB.out⟩
      case true =>
        have f1 := fmB_iff.1 hq1
        have Q1 := Hk.mk hq1
        have FF := Hk.mk f1
        clear hq1 f1
        cases hq2 : inB W H b
        case false =>
          have R : Hk (false = r) := ⟨by cases r; rfl; have := inB_iff.2 (HM.out rfl).2.1; rw [hq2] at this; exact this⟩
          have Q2 := Hk.mk hq2
          clear hq2
          go_wp2_with fail
          refine wp_region_held_drew (S := (fun X => (∀ b o, b < w.heap.size + 1 → X.cell? ⟨b, o, none⟩ = ((w.alloc (.cells #[.int .i64 W, .int .i64 H, .slice a n c] 24))).cell? ⟨b, o, none⟩) ∧ Below (w.heap.size + 1) (w.alloc (.cells #[.int .i64 W, .int .i64 H, .slice a n c] 24)) X)) (by kernel_rfl) ?_ (fun hHeld => ?_)
          · exact kw_S (kw_drew HB.out)
          refine wpAnyH_take (i := 0) (v := ?_) rfl (by kernel_rfl) (by kernel_rfl) (by kernel_rfl) (fun _ _ _ h => h) (Or.inl ⟨by rfl, fun wX hSw => ?_⟩) (by assumption) ?_
          rotate_left
          · (try dsimp only at hSw); go_simp; try with_reducible rfl
          (try simp only [Act.put, List.getElem_toArray, List.getElem_cons_succ, List.getElem_cons_zero, List.setIfInBounds_toArray, List.set_cons_zero, List.set_cons_succ])
          refine wpAnyH_take (i := 1) (v := ?_) rfl (by kernel_rfl) (by kernel_rfl) (by kernel_rfl) (fun _ _ _ h => h) (Or.inl ⟨by rfl, fun wX hSw => ?_⟩) (by assumption) ?_
          rotate_left
          · (try dsimp only at hSw); go_simp; try with_reducible rfl
          (try simp only [Act.put, List.getElem_toArray, List.getElem_cons_succ, List.getElem_cons_zero, List.setIfInBounds_toArray, List.set_cons_zero, List.set_cons_succ])
          refine wpAnyH_take (i := 2) (v := ?_) rfl (by kernel_rfl) (by kernel_rfl) (by kernel_rfl) (fun _ _ _ h => h) (Or.inl ⟨by rfl, fun wX hSw => ?_⟩) (by assumption) ?_
          rotate_left
          · (try dsimp only at hSw); go_simp; try with_reducible rfl
          (try simp only [Act.put, List.getElem_toArray, List.getElem_cons_succ, List.getElem_cons_zero, List.setIfInBounds_toArray, List.set_cons_zero, List.set_cons_succ])
          refine wpAnyH_take (i := 3) (v := ?_) rfl (by kernel_rfl) (by kernel_rfl) (by kernel_rfl) (fun _ _ _ h => h) (Or.inl ⟨by rfl, fun wX hSw => ?_⟩) (by assumption) ?_
          rotate_left
          · (try dsimp only at hSw); go_simp; try with_reducible rfl
          (try simp only [Act.put, List.getElem_toArray, List.getElem_cons_succ, List.getElem_cons_zero, List.setIfInBounds_toArray, List.set_cons_zero, List.set_cons_succ])
          refine wpAnyH_ready (rs := [4]) (by kernel_rfl) (by simp) ?_
          refine AllReadyH.cons rfl (fun K hK => ?_) (AllReadyH.nil)
          go_simp
          (first | (go_at_call 85; (with_reducible refine (sides_as true b _ Q1).mono ?_); rintro e z ⟨rfl, hb⟩; have hB2 : Hk (Below (w.heap.size + 1) (w.alloc (.cells #[.int .i64 W, .int .i64 H, .slice a n c] 24)) z) := ⟨by first | exact kw_step HB.out hNW hb | exact kw_step HB.out.drew hNW hb⟩; clear hb; replace HB := hB2; clear hB2) | (go_at_call 86; (with_reducible refine (on_as false W H a n c b _ w1 w2 h1 h2 FF.out Q2).mono ?_); rintro e z ⟨rfl, hb⟩; have hB2 : Hk (Below (w.heap.size + 1) (w.alloc (.cells #[.int .i64 W, .int .i64 H, .slice a n c] 24)) z) := ⟨by first | exact kw_step HB.out hNW hb | exact kw_step HB.out.drew hNW hb⟩; clear hb; replace HB := hB2; clear hB2))
          refine hK.out _ _ ?_ (fun hHeld => ?_)
          · exact kw_S HB.out
          clear hK K
          (try simp only [Act.put, List.getElem_toArray, List.getElem_cons_succ, List.getElem_cons_zero, List.setIfInBounds_toArray, List.set_cons_zero, List.set_cons_succ])
          refine wpAnyH_take (i := 5) (v := ?_) rfl (by kernel_rfl) (by kernel_rfl) (by kernel_rfl) (fun _ _ _ h => h) (Or.inl ⟨by rfl, fun wX hSw => ?_⟩) (by assumption) ?_
          rotate_left
          · (try dsimp only at hSw); go_simp; try with_reducible rfl
          (try simp only [Act.put, List.getElem_toArray, List.getElem_cons_succ, List.getElem_cons_zero, List.setIfInBounds_toArray, List.set_cons_zero, List.set_cons_succ])
          refine wpAnyH_take (i := 6) (v := ?_) rfl (by kernel_rfl) (by kernel_rfl) (by kernel_rfl) (fun _ _ _ h => h) (Or.inl ⟨by rfl, fun wX hSw => ?_⟩) (by assumption) ?_
          rotate_left
          · (try dsimp only at hSw); go_simp; try with_reducible rfl
          (try simp only [Act.put, List.getElem_toArray, List.getElem_cons_succ, List.getElem_cons_zero, List.setIfInBounds_toArray, List.set_cons_zero, List.set_cons_succ])
          refine wpAnyH_take (i := 7) (v := ?_) rfl (by kernel_rfl) (by kernel_rfl) (by kernel_rfl) (fun _ _ _ h => h) (Or.inl ⟨by rfl, fun wX hSw => ?_⟩) (by assumption) ?_
          rotate_left
          · (try dsimp only at hSw); go_simp; try with_reducible rfl
          (try simp only [Act.put, List.getElem_toArray, List.getElem_cons_succ, List.getElem_cons_zero, List.setIfInBounds_toArray, List.set_cons_zero, List.set_cons_succ])
          refine wpAnyH_take (i := 8) (v := ?_) rfl (by kernel_rfl) (by kernel_rfl) (by kernel_rfl) (fun _ _ _ h => h) (Or.inl ⟨by rfl, fun wX hSw => ?_⟩) (by assumption) ?_
          rotate_left
          · (try dsimp only at hSw); go_simp; try with_reducible rfl
          (try simp only [Act.put, List.getElem_toArray, List.getElem_cons_succ, List.getElem_cons_zero, List.setIfInBounds_toArray, List.set_cons_zero, List.set_cons_succ])
          refine wpAnyH_take (i := 9) (v := ?_) rfl (by kernel_rfl) (by kernel_rfl) (by kernel_rfl) (fun _ _ _ h => h) (Or.inl ⟨by rfl, fun wX hSw => ?_⟩) (by assumption) ?_
          rotate_left
          · (try dsimp only at hSw); go_simp; try with_reducible rfl
          (try simp only [Act.put, List.getElem_toArray, List.getElem_cons_succ, List.getElem_cons_zero, List.setIfInBounds_toArray, List.set_cons_zero, List.set_cons_succ])
          refine wpAnyH_take (i := 10) (v := ?_) rfl (by kernel_rfl) (by kernel_rfl) (by kernel_rfl) (fun _ _ _ h => h) (Or.inl ⟨by rfl, fun wX hSw => ?_⟩) (by assumption) ?_
          rotate_left
          · (try dsimp only at hSw); go_simp; try with_reducible rfl
          (try simp only [Act.put, List.getElem_toArray, List.getElem_cons_succ, List.getElem_cons_zero, List.setIfInBounds_toArray, List.set_cons_zero, List.set_cons_succ])
          refine wpAnyH_take (i := 11) (v := ?_) rfl (by kernel_rfl) (by kernel_rfl) (by kernel_rfl) (fun _ _ _ h => h) (Or.inl ⟨by rfl, fun wX hSw => ?_⟩) (by assumption) ?_
          rotate_left
          · (try dsimp only at hSw); go_simp; try with_reducible rfl
          (try simp only [Act.put, List.getElem_toArray, List.getElem_cons_succ, List.getElem_cons_zero, List.setIfInBounds_toArray, List.set_cons_zero, List.set_cons_succ])
          refine wpAnyH_ready (rs := [12]) (by kernel_rfl) (by simp) ?_
          refine AllReadyH.cons rfl (fun K hK => ?_) (AllReadyH.nil)
          go_simp
          (first | (go_at_call 85; (with_reducible refine (sides_as true b _ Q1).mono ?_); rintro e z ⟨rfl, hb⟩; have hB2 : Hk (Below (w.heap.size + 1) (w.alloc (.cells #[.int .i64 W, .int .i64 H, .slice a n c] 24)) z) := ⟨by first | exact kw_step HB.out hNW hb | exact kw_step HB.out.drew hNW hb⟩; clear hb; replace HB := hB2; clear hB2) | (go_at_call 86; (with_reducible refine (on_as false W H a n c b _ w1 w2 h1 h2 FF.out Q2).mono ?_); rintro e z ⟨rfl, hb⟩; have hB2 : Hk (Below (w.heap.size + 1) (w.alloc (.cells #[.int .i64 W, .int .i64 H, .slice a n c] 24)) z) := ⟨by first | exact kw_step HB.out hNW hb | exact kw_step HB.out.drew hNW hb⟩; clear hb; replace HB := hB2; clear hB2))
          refine hK.out _ _ ?_ (fun hHeld => ?_)
          · exact kw_S HB.out
          clear hK K
          (try simp only [Act.put, List.getElem_toArray, List.getElem_cons_succ, List.getElem_cons_zero, List.setIfInBounds_toArray, List.set_cons_zero, List.set_cons_succ])
          refine wpAnyH_take (i := 13) (v := ?_) rfl (by kernel_rfl) (by kernel_rfl) (by kernel_rfl) (fun _ _ _ h => h) (Or.inl ⟨by rfl, fun wX hSw => ?_⟩) (by assumption) ?_
          rotate_left
          · (try dsimp only at hSw); go_simp; try with_reducible rfl
          (try simp only [Act.put, List.getElem_toArray, List.getElem_cons_succ, List.getElem_cons_zero, List.setIfInBounds_toArray, List.set_cons_zero, List.set_cons_succ])
          refine wpAnyH_take (i := 14) (v := ?_) rfl (by kernel_rfl) (by kernel_rfl) (by kernel_rfl) (fun _ _ _ h => h) (Or.inl ⟨by rfl, fun wX hSw => ?_⟩) (by assumption) ?_
          rotate_left
          · (try dsimp only at hSw); go_simp; try with_reducible rfl
          (try simp only [Act.put, List.getElem_toArray, List.getElem_cons_succ, List.getElem_cons_zero, List.setIfInBounds_toArray, List.set_cons_zero, List.set_cons_succ])
          refine wpAnyH_take (i := 15) (v := ?_) rfl (by kernel_rfl) (by kernel_rfl) (by kernel_rfl) (fun _ _ _ h => h) (Or.inl ⟨by rfl, fun wX hSw => ?_⟩) (by assumption) ?_
          rotate_left
          · (try dsimp only at hSw); go_simp; try with_reducible rfl
          (try simp only [Act.put, List.getElem_toArray, List.getElem_cons_succ, List.getElem_cons_zero, List.setIfInBounds_toArray, List.set_cons_zero, List.set_cons_succ])
          refine wpAnyH_take (i := 16) (v := undef) rfl (by kernel_rfl) (by kernel_rfl) (by kernel_rfl) (fun _ _ _ h => h) (Or.inr ⟨by rfl, rfl⟩) (by assumption) ?_
          (try simp only [Act.put, List.getElem_toArray, List.getElem_cons_succ, List.getElem_cons_zero, List.setIfInBounds_toArray, List.set_cons_zero, List.set_cons_succ])
          refine wpAnyH_take (i := 17) (v := undef) rfl (by kernel_rfl) (by kernel_rfl) (by kernel_rfl) (fun _ _ _ h => h) (Or.inr ⟨by rfl, rfl⟩) (by assumption) ?_
          (try simp only [Act.put, List.getElem_toArray, List.getElem_cons_succ, List.getElem_cons_zero, List.setIfInBounds_toArray, List.set_cons_zero, List.set_cons_succ])
          refine wpAnyH_take (i := 18) (v := undef) rfl (by kernel_rfl) (by kernel_rfl) (by kernel_rfl) (fun _ _ _ h => h) (Or.inr ⟨by rfl, rfl⟩) (by assumption) ?_
          (try simp only [Act.put, List.getElem_toArray, List.getElem_cons_succ, List.getElem_cons_zero, List.setIfInBounds_toArray, List.set_cons_zero, List.set_cons_succ])
          refine wpAnyH_take (i := 19) (v := undef) rfl (by kernel_rfl) (by kernel_rfl) (by kernel_rfl) (fun _ _ _ h => h) (Or.inr ⟨by rfl, rfl⟩) (by assumption) ?_
          (try simp only [Act.put, List.getElem_toArray, List.getElem_cons_succ, List.getElem_cons_zero, List.setIfInBounds_toArray, List.set_cons_zero, List.set_cons_succ])
          refine wpAnyH_take (i := 20) (v := undef) rfl (by kernel_rfl) (by kernel_rfl) (by kernel_rfl) (fun _ _ _ h => h) (Or.inr ⟨by rfl, rfl⟩) (by assumption) ?_
          (try simp only [Act.put, List.getElem_toArray, List.getElem_cons_succ, List.getElem_cons_zero, List.setIfInBounds_toArray, List.set_cons_zero, List.set_cons_succ])
          refine wpAnyH_take (i := 21) (v := undef) rfl (by kernel_rfl) (by kernel_rfl) (by kernel_rfl) (fun _ _ _ h => h) (Or.inr ⟨by rfl, rfl⟩) (by assumption) ?_
          (try simp only [Act.put, List.getElem_toArray, List.getElem_cons_succ, List.getElem_cons_zero, List.setIfInBounds_toArray, List.set_cons_zero, List.set_cons_succ])
          refine wpAnyH_take (i := 22) (v := undef) rfl (by kernel_rfl) (by kernel_rfl) (by kernel_rfl) (fun _ _ _ h => h) (Or.inr ⟨by rfl, rfl⟩) (by assumption) ?_
          (try simp only [Act.put, List.getElem_toArray, List.getElem_cons_succ, List.getElem_cons_zero, List.setIfInBounds_toArray, List.set_cons_zero, List.set_cons_succ])
          refine wpAnyH_take (i := 23) (v := ?_) rfl (by kernel_rfl) (by kernel_rfl) (by kernel_rfl) (fun _ _ _ h => h) (Or.inl ⟨by rfl, fun wX hSw => ?_⟩) (by assumption) ?_
          rotate_left
          · (try dsimp only at hSw); go_simp; try with_reducible rfl
          (try simp only [Act.put, List.getElem_toArray, List.getElem_cons_succ, List.getElem_cons_zero, List.setIfInBounds_toArray, List.set_cons_zero, List.set_cons_succ])
          refine wpAnyH_done (by kernel_rfl) ?_ _
          go_wp2
          go_ret
          exact ⟨rbo R.out, HTR.out _ HB.out⟩
        case true =>
          have i1 := inB_iff.1 hq2
          have Q2 := Hk.mk hq2
          have II := Hk.mk i1
          clear hq2 i1
          cases hq3 : frB W xs b
          case false =>
            have R : Hk (false = r) := ⟨by cases r; rfl; have := (HM.out rfl).2.2; rw [hq3] at this; exact this⟩
            have Q3 := Hk.mk hq3
            clear hq3
            go_wp2_with fail
            refine wp_region_held_drew (S := (fun X => (∀ b o, b < w.heap.size + 1 → X.cell? ⟨b, o, none⟩ = ((w.alloc (.cells #[.int .i64 W, .int .i64 H, .slice a n c] 24))).cell? ⟨b, o, none⟩) ∧ Below (w.heap.size + 1) (w.alloc (.cells #[.int .i64 W, .int .i64 H, .slice a n c] 24)) X)) (by kernel_rfl) ?_ (fun hHeld => ?_)
            · exact kw_S (kw_drew HB.out)
            refine wpAnyH_take (i := 0) (v := ?_) rfl (by kernel_rfl) (by kernel_rfl) (by kernel_rfl) (fun _ _ _ h => h) (Or.inl ⟨by rfl, fun wX hSw => ?_⟩) (by assumption) ?_
            rotate_left
            · (try dsimp only at hSw); go_simp; try with_reducible rfl
            (try simp only [Act.put, List.getElem_toArray, List.getElem_cons_succ, List.getElem_cons_zero, List.setIfInBounds_toArray, List.set_cons_zero, List.set_cons_succ])
            refine wpAnyH_take (i := 1) (v := ?_) rfl (by kernel_rfl) (by kernel_rfl) (by kernel_rfl) (fun _ _ _ h => h) (Or.inl ⟨by rfl, fun wX hSw => ?_⟩) (by assumption) ?_
            rotate_left
            · (try dsimp only at hSw); go_simp; try with_reducible rfl
            (try simp only [Act.put, List.getElem_toArray, List.getElem_cons_succ, List.getElem_cons_zero, List.setIfInBounds_toArray, List.set_cons_zero, List.set_cons_succ])
            refine wpAnyH_take (i := 2) (v := ?_) rfl (by kernel_rfl) (by kernel_rfl) (by kernel_rfl) (fun _ _ _ h => h) (Or.inl ⟨by rfl, fun wX hSw => ?_⟩) (by assumption) ?_
            rotate_left
            · (try dsimp only at hSw); go_simp; try with_reducible rfl
            (try simp only [Act.put, List.getElem_toArray, List.getElem_cons_succ, List.getElem_cons_zero, List.setIfInBounds_toArray, List.set_cons_zero, List.set_cons_succ])
            refine wpAnyH_take (i := 3) (v := ?_) rfl (by kernel_rfl) (by kernel_rfl) (by kernel_rfl) (fun _ _ _ h => h) (Or.inl ⟨by rfl, fun wX hSw => ?_⟩) (by assumption) ?_
            rotate_left
            · (try dsimp only at hSw); go_simp; try with_reducible rfl
            (try simp only [Act.put, List.getElem_toArray, List.getElem_cons_succ, List.getElem_cons_zero, List.setIfInBounds_toArray, List.set_cons_zero, List.set_cons_succ])
            refine wpAnyH_ready (rs := [4]) (by kernel_rfl) (by simp) ?_
            refine AllReadyH.cons rfl (fun K hK => ?_) (AllReadyH.nil)
            go_simp
            (first | (go_at_call 85; (with_reducible refine (sides_as true b _ Q1).mono ?_); rintro e z ⟨rfl, hb⟩; have hB2 : Hk (Below (w.heap.size + 1) (w.alloc (.cells #[.int .i64 W, .int .i64 H, .slice a n c] 24)) z) := ⟨by first | exact kw_step HB.out hNW hb | exact kw_step HB.out.drew hNW hb⟩; clear hb; replace HB := hB2; clear hB2) | (go_at_call 86; (with_reducible refine (on_as true W H a n c b _ w1 w2 h1 h2 FF.out Q2).mono ?_); rintro e z ⟨rfl, hb⟩; have hB2 : Hk (Below (w.heap.size + 1) (w.alloc (.cells #[.int .i64 W, .int .i64 H, .slice a n c] 24)) z) := ⟨by first | exact kw_step HB.out hNW hb | exact kw_step HB.out.drew hNW hb⟩; clear hb; replace HB := hB2; clear hB2) | (go_at_call 87; (with_reducible refine (rfirm_as false W H a n c w.heap.size xs b _ ?_ ?_ HG.out FF.out II.out Q3).mono ?_); (exact HBY.out _ HB.out); (exact hsz1 HB.out); rintro e z ⟨rfl, hb⟩; have hB2 : Hk (Below (w.heap.size + 1) (w.alloc (.cells #[.int .i64 W, .int .i64 H, .slice a n c] 24)) z) := ⟨by first | exact kw_step HB.out hNW hb | exact kw_step HB.out.drew hNW hb⟩; clear hb; replace HB := hB2; clear hB2))
            refine hK.out _ _ ?_ (fun hHeld => ?_)
            · exact kw_S HB.out
            clear hK K
            (try simp only [Act.put, List.getElem_toArray, List.getElem_cons_succ, List.getElem_cons_zero, List.setIfInBounds_toArray, List.set_cons_zero, List.set_cons_succ])
            refine wpAnyH_take (i := 5) (v := ?_) rfl (by kernel_rfl) (by kernel_rfl) (by kernel_rfl) (fun _ _ _ h => h) (Or.inl ⟨by rfl, fun wX hSw => ?_⟩) (by assumption) ?_
            rotate_left
            · (try dsimp only at hSw); go_simp; try with_reducible rfl
            (try simp only [Act.put, List.getElem_toArray, List.getElem_cons_succ, List.getElem_cons_zero, List.setIfInBounds_toArray, List.set_cons_zero, List.set_cons_succ])
            refine wpAnyH_take (i := 6) (v := ?_) rfl (by kernel_rfl) (by kernel_rfl) (by kernel_rfl) (fun _ _ _ h => h) (Or.inl ⟨by rfl, fun wX hSw => ?_⟩) (by assumption) ?_
            rotate_left
            · (try dsimp only at hSw); go_simp; try with_reducible rfl
            (try simp only [Act.put, List.getElem_toArray, List.getElem_cons_succ, List.getElem_cons_zero, List.setIfInBounds_toArray, List.set_cons_zero, List.set_cons_succ])
            refine wpAnyH_take (i := 7) (v := ?_) rfl (by kernel_rfl) (by kernel_rfl) (by kernel_rfl) (fun _ _ _ h => h) (Or.inl ⟨by rfl, fun wX hSw => ?_⟩) (by assumption) ?_
            rotate_left
            · (try dsimp only at hSw); go_simp; try with_reducible rfl
            (try simp only [Act.put, List.getElem_toArray, List.getElem_cons_succ, List.getElem_cons_zero, List.setIfInBounds_toArray, List.set_cons_zero, List.set_cons_succ])
            refine wpAnyH_take (i := 8) (v := ?_) rfl (by kernel_rfl) (by kernel_rfl) (by kernel_rfl) (fun _ _ _ h => h) (Or.inl ⟨by rfl, fun wX hSw => ?_⟩) (by assumption) ?_
            rotate_left
            · (try dsimp only at hSw); go_simp; try with_reducible rfl
            (try simp only [Act.put, List.getElem_toArray, List.getElem_cons_succ, List.getElem_cons_zero, List.setIfInBounds_toArray, List.set_cons_zero, List.set_cons_succ])
            refine wpAnyH_take (i := 9) (v := ?_) rfl (by kernel_rfl) (by kernel_rfl) (by kernel_rfl) (fun _ _ _ h => h) (Or.inl ⟨by rfl, fun wX hSw => ?_⟩) (by assumption) ?_
            rotate_left
            · (try dsimp only at hSw); go_simp; try with_reducible rfl
            (try simp only [Act.put, List.getElem_toArray, List.getElem_cons_succ, List.getElem_cons_zero, List.setIfInBounds_toArray, List.set_cons_zero, List.set_cons_succ])
            refine wpAnyH_take (i := 10) (v := ?_) rfl (by kernel_rfl) (by kernel_rfl) (by kernel_rfl) (fun _ _ _ h => h) (Or.inl ⟨by rfl, fun wX hSw => ?_⟩) (by assumption) ?_
            rotate_left
            · (try dsimp only at hSw); go_simp; try with_reducible rfl
            (try simp only [Act.put, List.getElem_toArray, List.getElem_cons_succ, List.getElem_cons_zero, List.setIfInBounds_toArray, List.set_cons_zero, List.set_cons_succ])
            refine wpAnyH_take (i := 11) (v := ?_) rfl (by kernel_rfl) (by kernel_rfl) (by kernel_rfl) (fun _ _ _ h => h) (Or.inl ⟨by rfl, fun wX hSw => ?_⟩) (by assumption) ?_
            rotate_left
            · (try dsimp only at hSw); go_simp; try with_reducible rfl
            (try simp only [Act.put, List.getElem_toArray, List.getElem_cons_succ, List.getElem_cons_zero, List.setIfInBounds_toArray, List.set_cons_zero, List.set_cons_succ])
            refine wpAnyH_ready (rs := [12]) (by kernel_rfl) (by simp) ?_
            refine AllReadyH.cons rfl (fun K hK => ?_) (AllReadyH.nil)
            go_simp
            (first | (go_at_call 85; (with_reducible refine (sides_as true b _ Q1).mono ?_); rintro e z ⟨rfl, hb⟩; have hB2 : Hk (Below (w.heap.size + 1) (w.alloc (.cells #[.int .i64 W, .int .i64 H, .slice a n c] 24)) z) := ⟨by first | exact kw_step HB.out hNW hb | exact kw_step HB.out.drew hNW hb⟩; clear hb; replace HB := hB2; clear hB2) | (go_at_call 86; (with_reducible refine (on_as true W H a n c b _ w1 w2 h1 h2 FF.out Q2).mono ?_); rintro e z ⟨rfl, hb⟩; have hB2 : Hk (Below (w.heap.size + 1) (w.alloc (.cells #[.int .i64 W, .int .i64 H, .slice a n c] 24)) z) := ⟨by first | exact kw_step HB.out hNW hb | exact kw_step HB.out.drew hNW hb⟩; clear hb; replace HB := hB2; clear hB2) | (go_at_call 87; (with_reducible refine (rfirm_as false W H a n c w.heap.size xs b _ ?_ ?_ HG.out FF.out II.out Q3).mono ?_); (exact HBY.out _ HB.out); (exact hsz1 HB.out); rintro e z ⟨rfl, hb⟩; have hB2 : Hk (Below (w.heap.size + 1) (w.alloc (.cells #[.int .i64 W, .int .i64 H, .slice a n c] 24)) z) := ⟨by first | exact kw_step HB.out hNW hb | exact kw_step HB.out.drew hNW hb⟩; clear hb; replace HB := hB2; clear hB2))
            refine hK.out _ _ ?_ (fun hHeld => ?_)
            · exact kw_S HB.out
            clear hK K
            (try simp only [Act.put, List.getElem_toArray, List.getElem_cons_succ, List.getElem_cons_zero, List.setIfInBounds_toArray, List.set_cons_zero, List.set_cons_succ])
            refine wpAnyH_take (i := 13) (v := ?_) rfl (by kernel_rfl) (by kernel_rfl) (by kernel_rfl) (fun _ _ _ h => h) (Or.inl ⟨by rfl, fun wX hSw => ?_⟩) (by assumption) ?_
            rotate_left
            · (try dsimp only at hSw); go_simp; try with_reducible rfl
            (try simp only [Act.put, List.getElem_toArray, List.getElem_cons_succ, List.getElem_cons_zero, List.setIfInBounds_toArray, List.set_cons_zero, List.set_cons_succ])
            refine wpAnyH_take (i := 14) (v := ?_) rfl (by kernel_rfl) (by kernel_rfl) (by kernel_rfl) (fun _ _ _ h => h) (Or.inl ⟨by rfl, fun wX hSw => ?_⟩) (by assumption) ?_
            rotate_left
            · (try dsimp only at hSw); go_simp; try with_reducible rfl
            (try simp only [Act.put, List.getElem_toArray, List.getElem_cons_succ, List.getElem_cons_zero, List.setIfInBounds_toArray, List.set_cons_zero, List.set_cons_succ])
            refine wpAnyH_take (i := 15) (v := ?_) rfl (by kernel_rfl) (by kernel_rfl) (by kernel_rfl) (fun _ _ _ h => h) (Or.inl ⟨by rfl, fun wX hSw => ?_⟩) (by assumption) ?_
            rotate_left
            · (try dsimp only at hSw); go_simp; try with_reducible rfl
            (try simp only [Act.put, List.getElem_toArray, List.getElem_cons_succ, List.getElem_cons_zero, List.setIfInBounds_toArray, List.set_cons_zero, List.set_cons_succ])
            refine wpAnyH_take (i := 16) (v := ?_) rfl (by kernel_rfl) (by kernel_rfl) (by kernel_rfl) (fun _ _ _ h => h) (Or.inl ⟨by rfl, fun wX hSw => ?_⟩) (by assumption) ?_
            rotate_left
            · (try dsimp only at hSw); go_simp; try with_reducible rfl
            (try simp only [Act.put, List.getElem_toArray, List.getElem_cons_succ, List.getElem_cons_zero, List.setIfInBounds_toArray, List.set_cons_zero, List.set_cons_succ])
            refine wpAnyH_take (i := 17) (v := ?_) rfl (by kernel_rfl) (by kernel_rfl) (by kernel_rfl) (fun _ _ _ h => h) (Or.inl ⟨by rfl, fun wX hSw => ?_⟩) (by assumption) ?_
            rotate_left
            · (try dsimp only at hSw); go_simp; try with_reducible rfl
            (try simp only [Act.put, List.getElem_toArray, List.getElem_cons_succ, List.getElem_cons_zero, List.setIfInBounds_toArray, List.set_cons_zero, List.set_cons_succ])
            refine wpAnyH_take (i := 18) (v := ?_) rfl (by kernel_rfl) (by kernel_rfl) (by kernel_rfl) (fun _ _ _ h => h) (Or.inl ⟨by rfl, fun wX hSw => ?_⟩) (by assumption) ?_
            rotate_left
            · (try dsimp only at hSw); go_simp; try with_reducible rfl
            (try simp only [Act.put, List.getElem_toArray, List.getElem_cons_succ, List.getElem_cons_zero, List.setIfInBounds_toArray, List.set_cons_zero, List.set_cons_succ])
            refine wpAnyH_take (i := 19) (v := ?_) rfl (by kernel_rfl) (by kernel_rfl) (by kernel_rfl) (fun _ _ _ h => h) (Or.inl ⟨by rfl, fun wX hSw => ?_⟩) (by assumption) ?_
            rotate_left
            · (try dsimp only at hSw); go_simp; try with_reducible rfl
            (try simp only [Act.put, List.getElem_toArray, List.getElem_cons_succ, List.getElem_cons_zero, List.setIfInBounds_toArray, List.set_cons_zero, List.set_cons_succ])
            refine wpAnyH_take (i := 20) (v := ?_) rfl (by kernel_rfl) (by kernel_rfl) (by kernel_rfl) (fun _ _ _ h => h) (Or.inl ⟨by rfl, fun wX hSw => ?_⟩) (by assumption) ?_
            rotate_left
            · (try dsimp only at hSw); go_simp; try with_reducible rfl
            (try simp only [Act.put, List.getElem_toArray, List.getElem_cons_succ, List.getElem_cons_zero, List.setIfInBounds_toArray, List.set_cons_zero, List.set_cons_succ])
            refine wpAnyH_ready (rs := [21]) (by kernel_rfl) (by simp) ?_
            refine AllReadyH.cons rfl (fun K hK => ?_) (AllReadyH.nil)
            go_simp
            (first | (go_at_call 85; (with_reducible refine (sides_as true b _ Q1).mono ?_); rintro e z ⟨rfl, hb⟩; have hB2 : Hk (Below (w.heap.size + 1) (w.alloc (.cells #[.int .i64 W, .int .i64 H, .slice a n c] 24)) z) := ⟨by first | exact kw_step HB.out hNW hb | exact kw_step HB.out.drew hNW hb⟩; clear hb; replace HB := hB2; clear hB2) | (go_at_call 86; (with_reducible refine (on_as true W H a n c b _ w1 w2 h1 h2 FF.out Q2).mono ?_); rintro e z ⟨rfl, hb⟩; have hB2 : Hk (Below (w.heap.size + 1) (w.alloc (.cells #[.int .i64 W, .int .i64 H, .slice a n c] 24)) z) := ⟨by first | exact kw_step HB.out hNW hb | exact kw_step HB.out.drew hNW hb⟩; clear hb; replace HB := hB2; clear hB2) | (go_at_call 87; (with_reducible refine (rfirm_as false W H a n c w.heap.size xs b _ ?_ ?_ HG.out FF.out II.out Q3).mono ?_); (exact HBY.out _ HB.out); (exact hsz1 HB.out); rintro e z ⟨rfl, hb⟩; have hB2 : Hk (Below (w.heap.size + 1) (w.alloc (.cells #[.int .i64 W, .int .i64 H, .slice a n c] 24)) z) := ⟨by first | exact kw_step HB.out hNW hb | exact kw_step HB.out.drew hNW hb⟩; clear hb; replace HB := hB2; clear hB2))
            refine hK.out _ _ ?_ (fun hHeld => ?_)
            · exact kw_S HB.out
            clear hK K
            (try simp only [Act.put, List.getElem_toArray, List.getElem_cons_succ, List.getElem_cons_zero, List.setIfInBounds_toArray, List.set_cons_zero, List.set_cons_succ])
            refine wpAnyH_take (i := 22) (v := ?_) rfl (by kernel_rfl) (by kernel_rfl) (by kernel_rfl) (fun _ _ _ h => h) (Or.inl ⟨by rfl, fun wX hSw => ?_⟩) (by assumption) ?_
            rotate_left
            · (try dsimp only at hSw); go_simp; try with_reducible rfl
            (try simp only [Act.put, List.getElem_toArray, List.getElem_cons_succ, List.getElem_cons_zero, List.setIfInBounds_toArray, List.set_cons_zero, List.set_cons_succ])
            refine wpAnyH_take (i := 23) (v := ?_) rfl (by kernel_rfl) (by kernel_rfl) (by kernel_rfl) (fun _ _ _ h => h) (Or.inl ⟨by rfl, fun wX hSw => ?_⟩) (by assumption) ?_
            rotate_left
            · (try dsimp only at hSw); go_simp; try with_reducible rfl
            (try simp only [Act.put, List.getElem_toArray, List.getElem_cons_succ, List.getElem_cons_zero, List.setIfInBounds_toArray, List.set_cons_zero, List.set_cons_succ])
            refine wpAnyH_done (by kernel_rfl) ?_ _
            go_wp2
            go_ret
            exact ⟨rbo R.out, HTR.out _ HB.out⟩
          case true =>
            have Q3 := Hk.mk hq3
            clear hq3
            go_wp2_with fail
            refine wp_region_held_drew (S := (fun X => (∀ b o, b < w.heap.size + 1 → X.cell? ⟨b, o, none⟩ = ((w.alloc (.cells #[.int .i64 W, .int .i64 H, .slice a n c] 24))).cell? ⟨b, o, none⟩) ∧ Below (w.heap.size + 1) (w.alloc (.cells #[.int .i64 W, .int .i64 H, .slice a n c] 24)) X)) (by kernel_rfl) ?_ (fun hHeld => ?_)
            · exact kw_S (kw_drew HB.out)
            refine wpAnyH_take (i := 0) (v := ?_) rfl (by kernel_rfl) (by kernel_rfl) (by kernel_rfl) (fun _ _ _ h => h) (Or.inl ⟨by rfl, fun wX hSw => ?_⟩) (by assumption) ?_
            rotate_left
            · (try dsimp only at hSw); go_simp; try with_reducible rfl
            (try simp only [Act.put, List.getElem_toArray, List.getElem_cons_succ, List.getElem_cons_zero, List.setIfInBounds_toArray, List.set_cons_zero, List.set_cons_succ])
            refine wpAnyH_take (i := 1) (v := ?_) rfl (by kernel_rfl) (by kernel_rfl) (by kernel_rfl) (fun _ _ _ h => h) (Or.inl ⟨by rfl, fun wX hSw => ?_⟩) (by assumption) ?_
            rotate_left
            · (try dsimp only at hSw); go_simp; try with_reducible rfl
            (try simp only [Act.put, List.getElem_toArray, List.getElem_cons_succ, List.getElem_cons_zero, List.setIfInBounds_toArray, List.set_cons_zero, List.set_cons_succ])
            refine wpAnyH_take (i := 2) (v := ?_) rfl (by kernel_rfl) (by kernel_rfl) (by kernel_rfl) (fun _ _ _ h => h) (Or.inl ⟨by rfl, fun wX hSw => ?_⟩) (by assumption) ?_
            rotate_left
            · (try dsimp only at hSw); go_simp; try with_reducible rfl
            (try simp only [Act.put, List.getElem_toArray, List.getElem_cons_succ, List.getElem_cons_zero, List.setIfInBounds_toArray, List.set_cons_zero, List.set_cons_succ])
            refine wpAnyH_take (i := 3) (v := ?_) rfl (by kernel_rfl) (by kernel_rfl) (by kernel_rfl) (fun _ _ _ h => h) (Or.inl ⟨by rfl, fun wX hSw => ?_⟩) (by assumption) ?_
            rotate_left
            · (try dsimp only at hSw); go_simp; try with_reducible rfl
            (try simp only [Act.put, List.getElem_toArray, List.getElem_cons_succ, List.getElem_cons_zero, List.setIfInBounds_toArray, List.set_cons_zero, List.set_cons_succ])
            refine wpAnyH_ready (rs := [4]) (by kernel_rfl) (by simp) ?_
            refine AllReadyH.cons rfl (fun K hK => ?_) (AllReadyH.nil)
            go_simp
            (first | (go_at_call 85; (with_reducible refine (sides_as true b _ Q1).mono ?_); rintro e z ⟨rfl, hb⟩; have hB2 : Hk (Below (w.heap.size + 1) (w.alloc (.cells #[.int .i64 W, .int .i64 H, .slice a n c] 24)) z) := ⟨by first | exact kw_step HB.out hNW hb | exact kw_step HB.out.drew hNW hb⟩; clear hb; replace HB := hB2; clear hB2) | (go_at_call 86; (with_reducible refine (on_as true W H a n c b _ w1 w2 h1 h2 FF.out Q2).mono ?_); rintro e z ⟨rfl, hb⟩; have hB2 : Hk (Below (w.heap.size + 1) (w.alloc (.cells #[.int .i64 W, .int .i64 H, .slice a n c] 24)) z) := ⟨by first | exact kw_step HB.out hNW hb | exact kw_step HB.out.drew hNW hb⟩; clear hb; replace HB := hB2; clear hB2) | (go_at_call 87; (with_reducible refine (rfirm_as true W H a n c w.heap.size xs b _ ?_ ?_ HG.out FF.out II.out Q3).mono ?_); (exact HBY.out _ HB.out); (exact hsz1 HB.out); rintro e z ⟨rfl, hb⟩; have hB2 : Hk (Below (w.heap.size + 1) (w.alloc (.cells #[.int .i64 W, .int .i64 H, .slice a n c] 24)) z) := ⟨by first | exact kw_step HB.out hNW hb | exact kw_step HB.out.drew hNW hb⟩; clear hb; replace HB := hB2; clear hB2))
            refine hK.out _ _ ?_ (fun hHeld => ?_)
            · exact kw_S HB.out
            clear hK K
            (try simp only [Act.put, List.getElem_toArray, List.getElem_cons_succ, List.getElem_cons_zero, List.setIfInBounds_toArray, List.set_cons_zero, List.set_cons_succ])
            refine wpAnyH_take (i := 5) (v := ?_) rfl (by kernel_rfl) (by kernel_rfl) (by kernel_rfl) (fun _ _ _ h => h) (Or.inl ⟨by rfl, fun wX hSw => ?_⟩) (by assumption) ?_
            rotate_left
            · (try dsimp only at hSw); go_simp; try with_reducible rfl
            (try simp only [Act.put, List.getElem_toArray, List.getElem_cons_succ, List.getElem_cons_zero, List.setIfInBounds_toArray, List.set_cons_zero, List.set_cons_succ])
            refine wpAnyH_take (i := 6) (v := ?_) rfl (by kernel_rfl) (by kernel_rfl) (by kernel_rfl) (fun _ _ _ h => h) (Or.inl ⟨by rfl, fun wX hSw => ?_⟩) (by assumption) ?_
            rotate_left
            · (try dsimp only at hSw); go_simp; try with_reducible rfl
            (try simp only [Act.put, List.getElem_toArray, List.getElem_cons_succ, List.getElem_cons_zero, List.setIfInBounds_toArray, List.set_cons_zero, List.set_cons_succ])
            refine wpAnyH_take (i := 7) (v := ?_) rfl (by kernel_rfl) (by kernel_rfl) (by kernel_rfl) (fun _ _ _ h => h) (Or.inl ⟨by rfl, fun wX hSw => ?_⟩) (by assumption) ?_
            rotate_left
            · (try dsimp only at hSw); go_simp; try with_reducible rfl
            (try simp only [Act.put, List.getElem_toArray, List.getElem_cons_succ, List.getElem_cons_zero, List.setIfInBounds_toArray, List.set_cons_zero, List.set_cons_succ])
            refine wpAnyH_take (i := 8) (v := ?_) rfl (by kernel_rfl) (by kernel_rfl) (by kernel_rfl) (fun _ _ _ h => h) (Or.inl ⟨by rfl, fun wX hSw => ?_⟩) (by assumption) ?_
            rotate_left
            · (try dsimp only at hSw); go_simp; try with_reducible rfl
            (try simp only [Act.put, List.getElem_toArray, List.getElem_cons_succ, List.getElem_cons_zero, List.setIfInBounds_toArray, List.set_cons_zero, List.set_cons_succ])
            refine wpAnyH_take (i := 9) (v := ?_) rfl (by kernel_rfl) (by kernel_rfl) (by kernel_rfl) (fun _ _ _ h => h) (Or.inl ⟨by rfl, fun wX hSw => ?_⟩) (by assumption) ?_
            rotate_left
            · (try dsimp only at hSw); go_simp; try with_reducible rfl
            (try simp only [Act.put, List.getElem_toArray, List.getElem_cons_succ, List.getElem_cons_zero, List.setIfInBounds_toArray, List.set_cons_zero, List.set_cons_succ])
            refine wpAnyH_take (i := 10) (v := ?_) rfl (by kernel_rfl) (by kernel_rfl) (by kernel_rfl) (fun _ _ _ h => h) (Or.inl ⟨by rfl, fun wX hSw => ?_⟩) (by assumption) ?_
            rotate_left
            · (try dsimp only at hSw); go_simp; try with_reducible rfl
            (try simp only [Act.put, List.getElem_toArray, List.getElem_cons_succ, List.getElem_cons_zero, List.setIfInBounds_toArray, List.set_cons_zero, List.set_cons_succ])
            refine wpAnyH_take (i := 11) (v := ?_) rfl (by kernel_rfl) (by kernel_rfl) (by kernel_rfl) (fun _ _ _ h => h) (Or.inl ⟨by rfl, fun wX hSw => ?_⟩) (by assumption) ?_
            rotate_left
            · (try dsimp only at hSw); go_simp; try with_reducible rfl
            (try simp only [Act.put, List.getElem_toArray, List.getElem_cons_succ, List.getElem_cons_zero, List.setIfInBounds_toArray, List.set_cons_zero, List.set_cons_succ])
            refine wpAnyH_ready (rs := [12]) (by kernel_rfl) (by simp) ?_
            refine AllReadyH.cons rfl (fun K hK => ?_) (AllReadyH.nil)
            go_simp
            (first | (go_at_call 85; (with_reducible refine (sides_as true b _ Q1).mono ?_); rintro e z ⟨rfl, hb⟩; have hB2 : Hk (Below (w.heap.size + 1) (w.alloc (.cells #[.int .i64 W, .int .i64 H, .slice a n c] 24)) z) := ⟨by first | exact kw_step HB.out hNW hb | exact kw_step HB.out.drew hNW hb⟩; clear hb; replace HB := hB2; clear hB2) | (go_at_call 86; (with_reducible refine (on_as true W H a n c b _ w1 w2 h1 h2 FF.out Q2).mono ?_); rintro e z ⟨rfl, hb⟩; have hB2 : Hk (Below (w.heap.size + 1) (w.alloc (.cells #[.int .i64 W, .int .i64 H, .slice a n c] 24)) z) := ⟨by first | exact kw_step HB.out hNW hb | exact kw_step HB.out.drew hNW hb⟩; clear hb; replace HB := hB2; clear hB2) | (go_at_call 87; (with_reducible refine (rfirm_as true W H a n c w.heap.size xs b _ ?_ ?_ HG.out FF.out II.out Q3).mono ?_); (exact HBY.out _ HB.out); (exact hsz1 HB.out); rintro e z ⟨rfl, hb⟩; have hB2 : Hk (Below (w.heap.size + 1) (w.alloc (.cells #[.int .i64 W, .int .i64 H, .slice a n c] 24)) z) := ⟨by first | exact kw_step HB.out hNW hb | exact kw_step HB.out.drew hNW hb⟩; clear hb; replace HB := hB2; clear hB2))
            refine hK.out _ _ ?_ (fun hHeld => ?_)
            · exact kw_S HB.out
            clear hK K
            (try simp only [Act.put, List.getElem_toArray, List.getElem_cons_succ, List.getElem_cons_zero, List.setIfInBounds_toArray, List.set_cons_zero, List.set_cons_succ])
            refine wpAnyH_take (i := 13) (v := ?_) rfl (by kernel_rfl) (by kernel_rfl) (by kernel_rfl) (fun _ _ _ h => h) (Or.inl ⟨by rfl, fun wX hSw => ?_⟩) (by assumption) ?_
            rotate_left
            · (try dsimp only at hSw); go_simp; try with_reducible rfl
            (try simp only [Act.put, List.getElem_toArray, List.getElem_cons_succ, List.getElem_cons_zero, List.setIfInBounds_toArray, List.set_cons_zero, List.set_cons_succ])
            refine wpAnyH_take (i := 14) (v := ?_) rfl (by kernel_rfl) (by kernel_rfl) (by kernel_rfl) (fun _ _ _ h => h) (Or.inl ⟨by rfl, fun wX hSw => ?_⟩) (by assumption) ?_
            rotate_left
            · (try dsimp only at hSw); go_simp; try with_reducible rfl
            (try simp only [Act.put, List.getElem_toArray, List.getElem_cons_succ, List.getElem_cons_zero, List.setIfInBounds_toArray, List.set_cons_zero, List.set_cons_succ])
            refine wpAnyH_take (i := 15) (v := ?_) rfl (by kernel_rfl) (by kernel_rfl) (by kernel_rfl) (fun _ _ _ h => h) (Or.inl ⟨by rfl, fun wX hSw => ?_⟩) (by assumption) ?_
            rotate_left
            · (try dsimp only at hSw); go_simp; try with_reducible rfl
            (try simp only [Act.put, List.getElem_toArray, List.getElem_cons_succ, List.getElem_cons_zero, List.setIfInBounds_toArray, List.set_cons_zero, List.set_cons_succ])
            refine wpAnyH_take (i := 16) (v := ?_) rfl (by kernel_rfl) (by kernel_rfl) (by kernel_rfl) (fun _ _ _ h => h) (Or.inl ⟨by rfl, fun wX hSw => ?_⟩) (by assumption) ?_
            rotate_left
            · (try dsimp only at hSw); go_simp; try with_reducible rfl
            (try simp only [Act.put, List.getElem_toArray, List.getElem_cons_succ, List.getElem_cons_zero, List.setIfInBounds_toArray, List.set_cons_zero, List.set_cons_succ])
            refine wpAnyH_take (i := 17) (v := ?_) rfl (by kernel_rfl) (by kernel_rfl) (by kernel_rfl) (fun _ _ _ h => h) (Or.inl ⟨by rfl, fun wX hSw => ?_⟩) (by assumption) ?_
            rotate_left
            · (try dsimp only at hSw); go_simp; try with_reducible rfl
            (try simp only [Act.put, List.getElem_toArray, List.getElem_cons_succ, List.getElem_cons_zero, List.setIfInBounds_toArray, List.set_cons_zero, List.set_cons_succ])
            refine wpAnyH_take (i := 18) (v := ?_) rfl (by kernel_rfl) (by kernel_rfl) (by kernel_rfl) (fun _ _ _ h => h) (Or.inl ⟨by rfl, fun wX hSw => ?_⟩) (by assumption) ?_
            rotate_left
            · (try dsimp only at hSw); go_simp; try with_reducible rfl
            (try simp only [Act.put, List.getElem_toArray, List.getElem_cons_succ, List.getElem_cons_zero, List.setIfInBounds_toArray, List.set_cons_zero, List.set_cons_succ])
            refine wpAnyH_take (i := 19) (v := ?_) rfl (by kernel_rfl) (by kernel_rfl) (by kernel_rfl) (fun _ _ _ h => h) (Or.inl ⟨by rfl, fun wX hSw => ?_⟩) (by assumption) ?_
            rotate_left
            · (try dsimp only at hSw); go_simp; try with_reducible rfl
            (try simp only [Act.put, List.getElem_toArray, List.getElem_cons_succ, List.getElem_cons_zero, List.setIfInBounds_toArray, List.set_cons_zero, List.set_cons_succ])
            refine wpAnyH_take (i := 20) (v := ?_) rfl (by kernel_rfl) (by kernel_rfl) (by kernel_rfl) (fun _ _ _ h => h) (Or.inl ⟨by rfl, fun wX hSw => ?_⟩) (by assumption) ?_
            rotate_left
            · (try dsimp only at hSw); go_simp; try with_reducible rfl
            (try simp only [Act.put, List.getElem_toArray, List.getElem_cons_succ, List.getElem_cons_zero, List.setIfInBounds_toArray, List.set_cons_zero, List.set_cons_succ])
            refine wpAnyH_ready (rs := [21]) (by kernel_rfl) (by simp) ?_
            refine AllReadyH.cons rfl (fun K hK => ?_) (AllReadyH.nil)
            go_simp
            (first | (go_at_call 85; (with_reducible refine (sides_as true b _ Q1).mono ?_); rintro e z ⟨rfl, hb⟩; have hB2 : Hk (Below (w.heap.size + 1) (w.alloc (.cells #[.int .i64 W, .int .i64 H, .slice a n c] 24)) z) := ⟨by first | exact kw_step HB.out hNW hb | exact kw_step HB.out.drew hNW hb⟩; clear hb; replace HB := hB2; clear hB2) | (go_at_call 86; (with_reducible refine (on_as true W H a n c b _ w1 w2 h1 h2 FF.out Q2).mono ?_); rintro e z ⟨rfl, hb⟩; have hB2 : Hk (Below (w.heap.size + 1) (w.alloc (.cells #[.int .i64 W, .int .i64 H, .slice a n c] 24)) z) := ⟨by first | exact kw_step HB.out hNW hb | exact kw_step HB.out.drew hNW hb⟩; clear hb; replace HB := hB2; clear hB2) | (go_at_call 87; (with_reducible refine (rfirm_as true W H a n c w.heap.size xs b _ ?_ ?_ HG.out FF.out II.out Q3).mono ?_); (exact HBY.out _ HB.out); (exact hsz1 HB.out); rintro e z ⟨rfl, hb⟩; have hB2 : Hk (Below (w.heap.size + 1) (w.alloc (.cells #[.int .i64 W, .int .i64 H, .slice a n c] 24)) z) := ⟨by first | exact kw_step HB.out hNW hb | exact kw_step HB.out.drew hNW hb⟩; clear hb; replace HB := hB2; clear hB2))
            refine hK.out _ _ ?_ (fun hHeld => ?_)
            · exact kw_S HB.out
            clear hK K
            (try simp only [Act.put, List.getElem_toArray, List.getElem_cons_succ, List.getElem_cons_zero, List.setIfInBounds_toArray, List.set_cons_zero, List.set_cons_succ])
            refine wpAnyH_take (i := 22) (v := ?_) rfl (by kernel_rfl) (by kernel_rfl) (by kernel_rfl) (fun _ _ _ h => h) (Or.inl ⟨by rfl, fun wX hSw => ?_⟩) (by assumption) ?_
            rotate_left
            · (try dsimp only at hSw); go_simp; try with_reducible rfl
            (try simp only [Act.put, List.getElem_toArray, List.getElem_cons_succ, List.getElem_cons_zero, List.setIfInBounds_toArray, List.set_cons_zero, List.set_cons_succ])
            refine wpAnyH_take (i := 23) (v := ?_) rfl (by kernel_rfl) (by kernel_rfl) (by kernel_rfl) (fun _ _ _ h => h) (Or.inl ⟨by rfl, fun wX hSw => ?_⟩) (by assumption) ?_
            rotate_left
            · (try dsimp only at hSw); go_simp; try with_reducible rfl
            (try simp only [Act.put, List.getElem_toArray, List.getElem_cons_succ, List.getElem_cons_zero, List.setIfInBounds_toArray, List.set_cons_zero, List.set_cons_succ])
            refine wpAnyH_done (by kernel_rfl) ?_ _
            clear hc hf hl hn' hm
            go_wp2
            obtain ⟨wo, rfl⟩ : ∃ wo : World, wo = wr := ⟨wr, rfl⟩
            go_loopw [6] (fun i wr => ∃ j : Nat, i = .int .i64 j ∧ j ≤ k ∧ Hk (∀ j2, j2 < j → mtB b (bs.getD j2 default) = false) ∧ Hk (Below (w.heap.size + 1) (w.alloc (.cells #[.int .i64 W, .int .i64 H, .slice a n c] 24)) wr)) (fun i _ => k - (intOf i).toNat)
            case atStart => exact ⟨0, rfl, Nat.zero_le _, ⟨fun j hj => absurd hj (by omega)⟩, HB⟩
            case round =>
              clear HB
              obtain ⟨j, rfl, hj, HJJ, HB⟩ := hrel
              obtain ⟨hc, hf, hl, hn', hm⟩ := kw_rules HB.out hNW
              by_cases hjt : j < k
              · obtain ⟨b2, off2, e2, -, s0, s1, s2, s3, s4, s5⟩ := HQ0.out.six (show j < ln by omega)
                obtain ⟨rfl, rfl⟩ : b2 = bb ∧ off2 = off := by
                  injection e2 with h9
                  injection h9 with h7 h8
                  exact ⟨h7.symm, h8.symm⟩
                clear e2
                have HF2 := Hk.mk (HJ.out j hjt)
                have HAP : Hk (r = true → mtB b (bs.getD j default) = false) := ⟨fun hr => by have := (E.out.1 hr).ap k j hjt (by rw [HLN.out]; exact hlt); rw [HBD.out] at this; exact this⟩
                obtain ⟨b', hbd'⟩ : ∃ b', bs.getD j default = b' := ⟨_, rfl⟩
                rw [hbd'] at s0 s1 s2 s3 s4 s5 HF2 HAP
                have HBD2 := Hk.mk hbd'
                clear hbd'
                have j0 : (0 : Int) ≤ (j : Int) := by omega
                have j1 : (j : Int) < (k : Int) := by omega
                have j2 : (j : Int) < (ln : Int) := by omega
                cases hq4 : mtB b b'
                case true =>
                  have R : Hk (false = r) := ⟨by cases r; rfl; have := HAP.out rfl; rw [hq4] at this; exact this.symm⟩
                  have Q4 := Hk.mk hq4
                  clear hq4
                  go_wp2_with fail
                  refine wp_region_held_drew (S := (fun X => (∀ b o, b < w.heap.size + 1 → X.cell? ⟨b, o, none⟩ = ((w.alloc (.cells #[.int .i64 W, .int .i64 H, .slice a n c] 24))).cell? ⟨b, o, none⟩) ∧ Below (w.heap.size + 1) (w.alloc (.cells #[.int .i64 W, .int .i64 H, .slice a n c] 24)) X)) (by kernel_rfl) ?_ (fun hHeld => ?_)
                  · exact kw_S (kw_drew HB.out)
                  refine wpAnyH_take (i := 0) (v := ?_) rfl (by kernel_rfl) (by kernel_rfl) (by kernel_rfl) (fun _ _ _ h => h) (Or.inl ⟨by rfl, fun wX hSw => ?_⟩) (by assumption) ?_
                  rotate_left
                  · (try dsimp only at hSw); go_simp; try with_reducible rfl
                  (try simp only [Act.put, List.getElem_toArray, List.getElem_cons_succ, List.getElem_cons_zero, List.setIfInBounds_toArray, List.set_cons_zero, List.set_cons_succ])
                  refine wpAnyH_take (i := 1) (v := ?_) rfl (by kernel_rfl) (by kernel_rfl) (by kernel_rfl) (fun _ _ _ h => h) (Or.inl ⟨by rfl, fun wX hSw => ?_⟩) (by assumption) ?_
                  rotate_left
                  · (try dsimp only at hSw); go_simp; try with_reducible rfl
                  (try simp only [Act.put, List.getElem_toArray, List.getElem_cons_succ, List.getElem_cons_zero, List.setIfInBounds_toArray, List.set_cons_zero, List.set_cons_succ])
                  refine wpAnyH_take (i := 2) (v := ?_) rfl (by kernel_rfl) (by kernel_rfl) (by kernel_rfl) (fun _ _ _ h => h) (Or.inl ⟨by rfl, fun wX hSw => ?_⟩) (by assumption) ?_
                  rotate_left
                  · (try dsimp only at hSw); go_simp; try with_reducible rfl
                  (try simp only [Act.put, List.getElem_toArray, List.getElem_cons_succ, List.getElem_cons_zero, List.setIfInBounds_toArray, List.set_cons_zero, List.set_cons_succ])
                  refine wpAnyH_take (i := 3) (v := ?_) rfl (by kernel_rfl) (by kernel_rfl) (by kernel_rfl) (fun _ _ _ h => h) (Or.inl ⟨by rfl, fun wX hSw => ?_⟩) (by assumption) ?_
                  rotate_left
                  · (try dsimp only at hSw); go_simp; try with_reducible rfl
                  (try simp only [Act.put, List.getElem_toArray, List.getElem_cons_succ, List.getElem_cons_zero, List.setIfInBounds_toArray, List.set_cons_zero, List.set_cons_succ])
                  refine wpAnyH_take (i := 4) (v := ?_) rfl (by kernel_rfl) (by kernel_rfl) (by kernel_rfl) (fun _ _ _ h => h) (Or.inl ⟨by rfl, fun wX hSw => ?_⟩) (by assumption) ?_
                  rotate_left
                  · (try dsimp only at hSw); go_simp; try with_reducible rfl
                  (try simp only [Act.put, List.getElem_toArray, List.getElem_cons_succ, List.getElem_cons_zero, List.setIfInBounds_toArray, List.set_cons_zero, List.set_cons_succ])
                  refine wpAnyH_take (i := 5) (v := ?_) rfl (by kernel_rfl) (by kernel_rfl) (by kernel_rfl) (fun _ _ _ h => h) (Or.inl ⟨by rfl, fun wX hSw => ?_⟩) (by assumption) ?_
                  rotate_left
                  · (try dsimp only at hSw); go_simp; try with_reducible rfl
                  (try simp only [Act.put, List.getElem_toArray, List.getElem_cons_succ, List.getElem_cons_zero, List.setIfInBounds_toArray, List.set_cons_zero, List.set_cons_succ])
                  refine wpAnyH_take (i := 6) (v := ?_) rfl (by kernel_rfl) (by kernel_rfl) (by kernel_rfl) (fun _ _ _ h => h) (Or.inl ⟨by rfl, fun wX hSw => ?_⟩) (by assumption) ?_
                  rotate_left
                  · (try dsimp only at hSw); go_simp; try with_reducible rfl
                  (try simp only [Act.put, List.getElem_toArray, List.getElem_cons_succ, List.getElem_cons_zero, List.setIfInBounds_toArray, List.set_cons_zero, List.set_cons_succ])
                  refine wpAnyH_take (i := 7) (v := ?_) rfl (by kernel_rfl) (by kernel_rfl) (by kernel_rfl) (fun _ _ _ h => h) (Or.inl ⟨by rfl, fun wX hSw => ?_⟩) (by assumption) ?_
                  rotate_left
                  · (try dsimp only at hSw); go_simp; try with_reducible rfl
                  (try simp only [Act.put, List.getElem_toArray, List.getElem_cons_succ, List.getElem_cons_zero, List.setIfInBounds_toArray, List.set_cons_zero, List.set_cons_succ])
                  refine wpAnyH_ready (rs := [8]) (by kernel_rfl) (by simp) ?_
                  refine AllReadyH.cons rfl (fun K hK => ?_) (AllReadyH.nil)
                  go_simp
                  ((go_at_call 88; (with_reducible refine (meet_as true b b' _ W H w2 h2 FF.out HF2.out.1 II.out HF2.out.2.1 Q4).mono ?_); rintro e z ⟨rfl, hb⟩; have hB2 : Hk (Below (w.heap.size + 1) (w.alloc (.cells #[.int .i64 W, .int .i64 H, .slice a n c] 24)) z) := ⟨by first | exact kw_step HB.out hNW hb | exact kw_step HB.out.drew hNW hb⟩; clear hb; replace HB := hB2; clear hB2))
                  refine hK.out _ _ ?_ (fun hHeld => ?_)
                  · exact kw_S HB.out
                  clear hK K
                  (try simp only [Act.put, List.getElem_toArray, List.getElem_cons_succ, List.getElem_cons_zero, List.setIfInBounds_toArray, List.set_cons_zero, List.set_cons_succ])
                  refine wpAnyH_done (by kernel_rfl) ?_ _
                  go_wp2
                  go_ret
                  exact ⟨rbo R.out, HTR.out _ HB.out⟩
                case false =>
                  have R : Hk (∀ j2, j2 < j + 1 → mtB b (bs.getD j2 default) = false) := ⟨fun j2 hj2 => by
                    by_cases e : j2 = j
                    · subst e; rw [HBD2.out]; exact hq4
                    · exact HJJ.out j2 (by omega)⟩
                  have Q4 := Hk.mk hq4
                  clear hq4
                  go_wp2_with fail
                  refine wp_region_held_drew (S := (fun X => (∀ b o, b < w.heap.size + 1 → X.cell? ⟨b, o, none⟩ = ((w.alloc (.cells #[.int .i64 W, .int .i64 H, .slice a n c] 24))).cell? ⟨b, o, none⟩) ∧ Below (w.heap.size + 1) (w.alloc (.cells #[.int .i64 W, .int .i64 H, .slice a n c] 24)) X)) (by kernel_rfl) ?_ (fun hHeld => ?_)
                  · exact kw_S (kw_drew HB.out)
                  refine wpAnyH_take (i := 0) (v := ?_) rfl (by kernel_rfl) (by kernel_rfl) (by kernel_rfl) (fun _ _ _ h => h) (Or.inl ⟨by rfl, fun wX hSw => ?_⟩) (by assumption) ?_
                  rotate_left
                  · (try dsimp only at hSw); go_simp; try with_reducible rfl
                  (try simp only [Act.put, List.getElem_toArray, List.getElem_cons_succ, List.getElem_cons_zero, List.setIfInBounds_toArray, List.set_cons_zero, List.set_cons_succ])
                  refine wpAnyH_take (i := 1) (v := ?_) rfl (by kernel_rfl) (by kernel_rfl) (by kernel_rfl) (fun _ _ _ h => h) (Or.inl ⟨by rfl, fun wX hSw => ?_⟩) (by assumption) ?_
                  rotate_left
                  · (try dsimp only at hSw); go_simp; try with_reducible rfl
                  (try simp only [Act.put, List.getElem_toArray, List.getElem_cons_succ, List.getElem_cons_zero, List.setIfInBounds_toArray, List.set_cons_zero, List.set_cons_succ])
                  refine wpAnyH_take (i := 2) (v := ?_) rfl (by kernel_rfl) (by kernel_rfl) (by kernel_rfl) (fun _ _ _ h => h) (Or.inl ⟨by rfl, fun wX hSw => ?_⟩) (by assumption) ?_
                  rotate_left
                  · (try dsimp only at hSw); go_simp; try with_reducible rfl
                  (try simp only [Act.put, List.getElem_toArray, List.getElem_cons_succ, List.getElem_cons_zero, List.setIfInBounds_toArray, List.set_cons_zero, List.set_cons_succ])
                  refine wpAnyH_take (i := 3) (v := ?_) rfl (by kernel_rfl) (by kernel_rfl) (by kernel_rfl) (fun _ _ _ h => h) (Or.inl ⟨by rfl, fun wX hSw => ?_⟩) (by assumption) ?_
                  rotate_left
                  · (try dsimp only at hSw); go_simp; try with_reducible rfl
                  (try simp only [Act.put, List.getElem_toArray, List.getElem_cons_succ, List.getElem_cons_zero, List.setIfInBounds_toArray, List.set_cons_zero, List.set_cons_succ])
                  refine wpAnyH_take (i := 4) (v := ?_) rfl (by kernel_rfl) (by kernel_rfl) (by kernel_rfl) (fun _ _ _ h => h) (Or.inl ⟨by rfl, fun wX hSw => ?_⟩) (by assumption) ?_
                  rotate_left
                  · (try dsimp only at hSw); go_simp; try with_reducible rfl
                  (try simp only [Act.put, List.getElem_toArray, List.getElem_cons_succ, List.getElem_cons_zero, List.setIfInBounds_toArray, List.set_cons_zero, List.set_cons_succ])
                  refine wpAnyH_take (i := 5) (v := ?_) rfl (by kernel_rfl) (by kernel_rfl) (by kernel_rfl) (fun _ _ _ h => h) (Or.inl ⟨by rfl, fun wX hSw => ?_⟩) (by assumption) ?_
                  rotate_left
                  · (try dsimp only at hSw); go_simp; try with_reducible rfl
                  (try simp only [Act.put, List.getElem_toArray, List.getElem_cons_succ, List.getElem_cons_zero, List.setIfInBounds_toArray, List.set_cons_zero, List.set_cons_succ])
                  refine wpAnyH_take (i := 6) (v := ?_) rfl (by kernel_rfl) (by kernel_rfl) (by kernel_rfl) (fun _ _ _ h => h) (Or.inl ⟨by rfl, fun wX hSw => ?_⟩) (by assumption) ?_
                  rotate_left
                  · (try dsimp only at hSw); go_simp; try with_reducible rfl
                  (try simp only [Act.put, List.getElem_toArray, List.getElem_cons_succ, List.getElem_cons_zero, List.setIfInBounds_toArray, List.set_cons_zero, List.set_cons_succ])
                  refine wpAnyH_take (i := 7) (v := ?_) rfl (by kernel_rfl) (by kernel_rfl) (by kernel_rfl) (fun _ _ _ h => h) (Or.inl ⟨by rfl, fun wX hSw => ?_⟩) (by assumption) ?_
                  rotate_left
                  · (try dsimp only at hSw); go_simp; try with_reducible rfl
                  (try simp only [Act.put, List.getElem_toArray, List.getElem_cons_succ, List.getElem_cons_zero, List.setIfInBounds_toArray, List.set_cons_zero, List.set_cons_succ])
                  refine wpAnyH_ready (rs := [8]) (by kernel_rfl) (by simp) ?_
                  refine AllReadyH.cons rfl (fun K hK => ?_) (AllReadyH.nil)
                  go_simp
                  ((go_at_call 88; (with_reducible refine (meet_as false b b' _ W H w2 h2 FF.out HF2.out.1 II.out HF2.out.2.1 Q4).mono ?_); rintro e z ⟨rfl, hb⟩; have hB2 : Hk (Below (w.heap.size + 1) (w.alloc (.cells #[.int .i64 W, .int .i64 H, .slice a n c] 24)) z) := ⟨by first | exact kw_step HB.out hNW hb | exact kw_step HB.out.drew hNW hb⟩; clear hb; replace HB := hB2; clear hB2))
                  refine hK.out _ _ ?_ (fun hHeld => ?_)
                  · exact kw_S HB.out
                  clear hK K
                  (try simp only [Act.put, List.getElem_toArray, List.getElem_cons_succ, List.getElem_cons_zero, List.setIfInBounds_toArray, List.set_cons_zero, List.set_cons_succ])
                  refine wpAnyH_done (by kernel_rfl) ?_ _
                  go_wp2
                  exact ⟨⟨j + 1, by go_num, by omega, R, HB⟩, by simp [intOf]; omega⟩
              · have hjk : j = k := by omega
                subst hjk
                have R : Hk (∀ j2, j2 < j + 1 → FmOk (bs.getD j2 default) ∧ InOk W H (bs.getD j2 default) ∧ frB W xs (bs.getD j2 default) = true ∧ ∀ j3, j3 < j2 → mtB (bs.getD j2 default) (bs.getD j3 default) = false) := ⟨fun j2 hj2 => by
                  by_cases e : j2 = j
                  · subst e; rw [HBD.out]; exact ⟨FF.out, II.out, Q3.out, HJJ.out⟩
                  · exact HJ.out j2 (by omega)⟩
                go_wp2
                exact ⟨⟨j + 1, by go_num, by omega, R, HB⟩, by simp [intOf]; omega⟩
    · have hkn : k = ln := by omega
      subst hkn
      have R : Hk (true = r) := ⟨by
        symm
        rw [E.out]
        have mm : ∀ b ∈ bs, ∃ j, j < k ∧ bs.getD j default = b := fun b hb => by
          obtain ⟨j, hj, e⟩ := mem_getDB hb
          exact ⟨j, by rw [← HLN.out]; exact hj, e⟩
        exact ⟨HG.out, by rw [HLN.out]; omega, HAS.out, fun b hb => by obtain ⟨j, hj, rfl⟩ := mm b hb; exact (HJ.out j hj).1, fun b hb => by obtain ⟨j, hj, rfl⟩ := mm b hb; exact (HJ.out j hj).2.1, fun b hb => by obtain ⟨j, hj, rfl⟩ := mm b hb; exact (HJ.out j hj).2.2.1, fun i j hji hi => (HJ.out i (by rw [← HLN.out]; exact hi)).2.2.2 j hji⟩⟩
      go_wp2
      go_ret
      exact ⟨rbo R.out, HTR.out _ HB.out⟩
end Go.Proofs.YthabjihpjdlmoaaDoor
