import Derived.Deep.QuietTactic
import Derived.BigQuiet
import Derived.Deep.RegionWith
import Derived.Deep.RegionHeld3
import Derived.Deep.DeepCutAuto
import Derived.Deep.DeepFit
import Derived.Outline
import Derived.Test.YtjjodfdmbiebnaaRn
/- For every argument, BuildAdds answers true and leaves its argument as it was: what stands on any ground with any buildings more, one behind the other, is the page's, or refused. No condition. -/
namespace Go.Proofs.Ytjjodfdmbiebnaa
open Go.ChangeShapes Go.WideShapes Go.ChangeAt Go.RowKit Go.Deep
set_option linter.unusedVariables false
set_option linter.unusedSimpArgs false
theorem rbadd_no (W H : Int) (a : Option Addr) (n c : Nat) (xs : List Int) (la : Option Addr) (ln lc : Nat) (bs : List Bd) (b : Bd) (E : Int) (w : World) (h : By w w.heap.size a n xs) (hb0 : Bq w w.heap.size la ln bs) (hn : n ≤ 140737488355328) (hnc : ln ≤ lc) (hcc : lc ≤ 9223372036854775807) (hfo : (la = none ∧ lc = 0) ∨ ∃ g, la = some ⟨g, 0, none⟩) (MM : Hk (MOk W H n xs bs)) (EV : Hk (addE W H n xs bs b = E)) (hE : E ≠ 0) :
    Calls Try.prog 17 #[.agg #[.int .i64 W, .int .i64 H, .slice a n c], .slice la ln lc, .agg #[.int .i64 b.i, .int .i64 b.o, .int .i64 b.x, .int .i64 b.y, .int .i64 b.w, .int .i64 b.h]] w fun e w' => e = .returned (.tuple #[.slice none 0 0, .int .i64 E]) ∧ Below w.heap.size w w' := by
  refine (rbadd_any W H a n c xs la ln lc bs b w h hb0 hn hnc hcc hfo MM).mono ?_
  rintro e z (⟨h0, rfl, hb⟩ | ⟨h0, _⟩)
  · rw [EV.out]; exact ⟨rfl, hb⟩
  · exact absurd (EV.out.symm.trans h0) hE
theorem rbadd_yes (W H : Int) (a : Option Addr) (n c : Nat) (xs : List Int) (la : Option Addr) (ln lc : Nat) (bs : List Bd) (b : Bd) (w : World) (h : By w w.heap.size a n xs) (hb0 : Bq w w.heap.size la ln bs) (hn : n ≤ 140737488355328) (hnc : ln ≤ lc) (hcc : lc ≤ 9223372036854775807) (hfo : (la = none ∧ lc = 0) ∨ ∃ g, la = some ⟨g, 0, none⟩) (MM : Hk (MOk W H n xs bs)) (EV : Hk (addE W H n xs bs b = 0)) :
    Calls Try.prog 17 #[.agg #[.int .i64 W, .int .i64 H, .slice a n c], .slice la ln lc, .agg #[.int .i64 b.i, .int .i64 b.o, .int .i64 b.x, .int .i64 b.y, .int .i64 b.w, .int .i64 b.h]] w fun e w' => ∃ a6 c6, e = .returned (.tuple #[.slice a6 (ln + 1) c6, .int .i64 0]) ∧ OwnB8 w' w.heap.size (.slice a6 (ln + 1) c6) (ln + 1) (insB bs b) ∧ Below w.heap.size w w' := by
  have hl := hb0.len
  refine (rbadd_any W H a n c xs la ln lc bs b w h hb0 hn hnc hcc hfo MM).mono ?_
  rintro e z (⟨h0, _⟩ | ⟨h0, v, rfl, hv, hb⟩)
  · exact absurd EV.out h0
  · rw [hl] at hv
    obtain ⟨a6, c6, rfl, _⟩ := hv.bq
    exact ⟨a6, c6, rfl, hv, hb⟩
theorem badd_no (W H : Int) (a : Option Addr) (n c : Nat) (xs : List Int) (la : Option Addr) (ln lc : Nat) (bs : List Bd) (b : Bd) (E : Int) (w : World) (h : By w w.heap.size a n xs) (hb0 : Bq w w.heap.size la ln bs) (hn : n ≤ 140737488355328) (hln : ln ≤ 1099511627776) (EV : Hk (addE W H n xs bs b = E)) (hE : E ≠ 0) :
    Calls Try.prog 18 #[.agg #[.int .i64 W, .int .i64 H, .slice a n c], .slice la ln lc, .agg #[.int .i64 b.i, .int .i64 b.o, .int .i64 b.x, .int .i64 b.y, .int .i64 b.w, .int .i64 b.h]] w fun e w' => e = .returned (.tuple #[.slice none 0 0, .int .i64 E]) ∧ Below w.heap.size w w' := by
  refine (badd_any W H a n c xs la ln lc bs b w h hb0 hn hln).mono ?_
  rintro e z (⟨h0, rfl, hb⟩ | ⟨h0, _⟩)
  · rw [EV.out]; exact ⟨rfl, hb⟩
  · exact absurd (EV.out.symm.trans h0) hE
theorem badd_yes (W H : Int) (a : Option Addr) (n c : Nat) (xs : List Int) (la : Option Addr) (ln lc : Nat) (bs : List Bd) (b : Bd) (w : World) (h : By w w.heap.size a n xs) (hb0 : Bq w w.heap.size la ln bs) (hn : n ≤ 140737488355328) (hln : ln ≤ 1099511627776) (EV : Hk (addE W H n xs bs b = 0)) :
    Calls Try.prog 18 #[.agg #[.int .i64 W, .int .i64 H, .slice a n c], .slice la ln lc, .agg #[.int .i64 b.i, .int .i64 b.o, .int .i64 b.x, .int .i64 b.y, .int .i64 b.w, .int .i64 b.h]] w fun e w' => ∃ a6 c6, e = .returned (.tuple #[.slice a6 (ln + 1) c6, .int .i64 0]) ∧ OwnB8 w' w.heap.size (.slice a6 (ln + 1) c6) (ln + 1) (insB bs b) ∧ Below w.heap.size w w' := by
  have hl := hb0.len
  refine (badd_any W H a n c xs la ln lc bs b w h hb0 hn hln).mono ?_
  rintro e z (⟨h0, _⟩ | ⟨h0, v, rfl, hv, hb⟩)
  · exact absurd EV.out h0
  · rw [hl] at hv
    obtain ⟨a6, c6, rfl, _⟩ := hv.bq
    exact ⟨a6, c6, rfl, hv, hb⟩
theorem own8_form {w : World} {base n m c : Nat} {a : Option Addr} {bs : List Bd} (h : OwnB8 w base (.slice a m c) n bs) : (a = none ∧ c = 0) ∨ ∃ g, a = some ⟨g, 0, none⟩ := by
  rcases h.row.2 with ⟨e, _⟩ | ⟨g, cap, cur, e, _⟩
  · injection e with e1 e2 e3; exact .inl ⟨e1, e3⟩
  · injection e with e1; exact .inr ⟨g, e1⟩
set_option maxRecDepth 100000 in
set_option maxHeartbeats 3200000 in
theorem buildAdds_big (W H : Int) (a : Option Addr) (n c : Nat) (xs : List Int) (la : Option Addr) (ln lc : Nat) (bs : List Bd) (ma : Option Addr) (mn mc : Nat) (ia : Option Addr) (im ic : Nat) (w : World) (h : By w w.heap.size a n xs) (hb0 : Bq w w.heap.size la ln bs) (hn : n ≤ 9223372036854775807) (hln : ln ≤ 9223372036854775807) (HV : Hk (gtA n ln mn im = true)) :
    Calls Try.prog 3 #[.agg #[.int .i64 W, .int .i64 H, .slice a n c, .slice la ln lc, .slice ma mn mc, .slice ia im ic]] w fun e w' => e = .returned (.bool true) ∧ Below w.heap.size w w' := by
  have HWB : Hk (Below w.heap.size w (w.alloc (.cells #[.int .i64 W, .int .i64 H, .slice a n c, .slice la ln lc, .slice ma mn mc, .slice ia im ic] 28))) := ⟨(Below.refl _ _).alloc (Nat.le_refl _) _⟩
  have hNW : w.heap.size + 1 ≤ (w.alloc (.cells #[.int .i64 W, .int .i64 H, .slice a n c, .slice la ln lc, .slice ma mn mc, .slice ia im ic] 28)).heap.size := by simp
  have HB : Hk (Below (w.heap.size + 1) (w.alloc (.cells #[.int .i64 W, .int .i64 H, .slice a n c, .slice la ln lc, .slice ma mn mc, .slice ia im ic] 28)) (w.alloc (.cells #[.int .i64 W, .int .i64 H, .slice a n c, .slice la ln lc, .slice ma mn mc, .slice ia im ic] 28))) := ⟨Below.refl _ _⟩
  have HTR : Hk (∀ X, Below (w.heap.size + 1) (w.alloc (.cells #[.int .i64 W, .int .i64 H, .slice a n c, .slice la ln lc, .slice ma mn mc, .slice ia im ic] 28)) X → Below w.heap.size w X) := ⟨fun X hX => HWB.out.trans (hX.mono (by omega))⟩
  have HBY := Hk.mk (fun (X : World) (hX : Below (w.heap.size + 1) (w.alloc (.cells #[.int .i64 W, .int .i64 H, .slice a n c, .slice la ln lc, .slice ma mn mc, .slice ia im ic] 28)) X) => h.below (HTR.out X hX) (Nat.le_refl _))
  have HBQ := Hk.mk (fun (X : World) (hX : Below (w.heap.size + 1) (w.alloc (.cells #[.int .i64 W, .int .i64 H, .slice a n c, .slice la ln lc, .slice ma mn mc, .slice ia im ic] 28)) X) => hb0.below (HTR.out X hX) (Nat.le_refl _))
  clear h hb0
  obtain ⟨hc, hf, hl, hn', hm⟩ := kw_rules HB.out hNW
  go_enter Try.func3, Try.ntmps3
  go_wp2_with (go_at_call 14; (with_reducible refine (heavy8_as true W H a n c la ln lc ma mn mc ia im ic _ (by omega) (by omega) HV).mono ?_); rintro e z ⟨rfl, hb⟩; replace HB := Hk.mk (kw_step HB.out hNW hb); clear hb; clear hc hf hl hn' hm; obtain ⟨hc, hf, hl, hn', hm⟩ := kw_rules HB.out hNW)
  go_ret
  exact ⟨rfl, HTR.out _ HB.out⟩
set_option maxRecDepth 100000 in
set_option maxHeartbeats 3200000 in
theorem buildAdds_go (W H : Int) (a : Option Addr) (n c : Nat) (xs : List Int) (la : Option Addr) (ln lc : Nat) (bs : List Bd) (ma : Option Addr) (mn mc : Nat) (ia : Option Addr) (im ic : Nat) (w : World) (h : By w w.heap.size a n xs) (hb0 : Bq w w.heap.size la ln bs) (hn : n ≤ 700) (hln : ln ≤ 30) (hmn : mn ≤ 60) (ms : List Bd) (hm0 : Bq w w.heap.size ma mn ms) (HV : Hk (gtA n ln mn im = false)) :
    Calls Try.prog 3 #[.agg #[.int .i64 W, .int .i64 H, .slice a n c, .slice la ln lc, .slice ma mn mc, .slice ia im ic]] w fun e w' => e = .returned (.bool true) ∧ Below w.heap.size w w' := by
  have HWB : Hk (Below w.heap.size w (w.alloc (.cells #[.int .i64 W, .int .i64 H, .slice a n c, .slice la ln lc, .slice ma mn mc, .slice ia im ic] 28))) := ⟨(Below.refl _ _).alloc (Nat.le_refl _) _⟩
  have hNW : w.heap.size + 1 ≤ (w.alloc (.cells #[.int .i64 W, .int .i64 H, .slice a n c, .slice la ln lc, .slice ma mn mc, .slice ia im ic] 28)).heap.size := by simp
  have HB : Hk (Below (w.heap.size + 1) (w.alloc (.cells #[.int .i64 W, .int .i64 H, .slice a n c, .slice la ln lc, .slice ma mn mc, .slice ia im ic] 28)) (w.alloc (.cells #[.int .i64 W, .int .i64 H, .slice a n c, .slice la ln lc, .slice ma mn mc, .slice ia im ic] 28))) := ⟨Below.refl _ _⟩
  have HTR : Hk (∀ X, Below (w.heap.size + 1) (w.alloc (.cells #[.int .i64 W, .int .i64 H, .slice a n c, .slice la ln lc, .slice ma mn mc, .slice ia im ic] 28)) X → Below w.heap.size w X) := ⟨fun X hX => HWB.out.trans (hX.mono (by omega))⟩
  have HBY := Hk.mk (fun (X : World) (hX : Below (w.heap.size + 1) (w.alloc (.cells #[.int .i64 W, .int .i64 H, .slice a n c, .slice la ln lc, .slice ma mn mc, .slice ia im ic] 28)) X) => h.below (HTR.out X hX) (Nat.le_refl _))
  have HBQ := Hk.mk (fun (X : World) (hX : Below (w.heap.size + 1) (w.alloc (.cells #[.int .i64 W, .int .i64 H, .slice a n c, .slice la ln lc, .slice ma mn mc, .slice ia im ic] 28)) X) => hb0.below (HTR.out X hX) (Nat.le_refl _))
  have HM0 := Hk.mk hm0
  clear h hb0 hm0
  obtain ⟨hc, hf, hl, hn', hm⟩ := kw_rules HB.out hNW
  go_enter Try.func3, Try.ntmps3
  go_wp2_with (first
    | (go_at_call 14; (with_reducible refine (heavy8_as false W H a n c la ln lc ma mn mc ia im ic _ (by omega) (by omega) HV).mono ?_); rintro e z ⟨rfl, hb⟩; replace HB := Hk.mk (kw_step HB.out hNW hb); clear hb; clear hc hf hl hn' hm; obtain ⟨hc, hf, hl, hn', hm⟩ := kw_rules HB.out hNW)
    | (go_at_call 15; (with_reducible refine (copyb_any la ln lc w.heap.size bs _ ?_ ?_ (by omega)).mono ?_); (exact HBQ.out _ HB.out); (exact hsz1 HB.out); rintro e z ⟨v0, rfl, ho, hb⟩; have HO := Hk.mk (ho.weak (kw_size HB.out hNW)); clear ho; replace HB := Hk.mk (kw_step HB.out hNW hb); clear hb; clear hc hf hl hn' hm; obtain ⟨hc, hf, hl, hn', hm⟩ := kw_rules HB.out hNW))
  clear hc hf hl hn' hm
  go_loopw [3, 4] (fun v i wr => ∃ (j m : Nat) (l : List Bd), i = .int .i64 j ∧ j ≤ 15 ∧ m ≤ 30 + j ∧ Hk (OwnB8 wr (w.heap.size + 1) v m l) ∧ Hk (Below (w.heap.size + 1) (w.alloc (.cells #[.int .i64 W, .int .i64 H, .slice a n c, .slice la ln lc, .slice ma mn mc, .slice ia im ic] 28)) wr)) (fun _ i _ => 15 - (intOf i).toNat)
  case atStart => exact ⟨0, ln, bs, rfl, by omega, by omega, HO, HB⟩
  case round =>
    clear HO HB
    obtain ⟨j, m, l, rfl, hj, hm30, HO, HB⟩ := hrel
    obtain ⟨hc, hf, hl, hn', hm⟩ := kw_rules HB.out hNW
    by_cases hlt : j < mn ∧ j < 15
    · obtain ⟨g1, g2⟩ := hlt
      have HFO0 := HO.out.bq
      obtain ⟨va, vc, rfl, hvc, hvm, -, -⟩ := HFO0
      have hvm' : vc ≤ 9223372036854775807 := by unfold maxLen at hvm; omega
      have HFO := Hk.mk (own8_form HO.out)
      clear hvm
      obtain ⟨mb, mo, rfl, hmb, p0, p1, p2, p3, p4, p5⟩ := HM0.out.six g1
      obtain ⟨d, hd⟩ : ∃ d, ms.getD j default = d := ⟨_, rfl⟩
      rw [hd] at p0 p1 p2 p3 p4 p5
      clear hd
      have hmbw : mb < w.heap.size + 1 := by omega
      have j0 : (0 : Int) ≤ (j : Int) := by omega
      have j1 : (j : Int) < (mn : Int) := by omega
      obtain ⟨E, hEV⟩ : ∃ E, addE W H n xs l d = E := ⟨_, rfl⟩
      have EV := Hk.mk hEV
      clear hEV
      by_cases hM : MOk W H n xs l
      case neg =>
        have HCK : Hk (ckE W H n xs l = 1) := ⟨by unfold ckE; rw [if_neg hM]⟩
        obtain rfl : E = 1 := by rw [← EV.out]; unfold addE; rw [if_neg hM]
        have hE : (1 : Int) ≠ 0 := by decide
        clear hM
        go_upto_region 12 with (first | (go_at_call 16; (with_reducible refine (check8_as 1 W H a n c xs va m vc l _ ?_ ?_ (by omega) (by omega) HCK).mono ?_); (exact (HBY.out _ HB.out).mono (hsz1 HB.out)); (exact own8_bq HO.out); rintro e z ⟨rfl, hb⟩; replace HO := Hk.mk (HO.out.below hb); replace HB := Hk.mk (kw_step HB.out hNW hb); clear hb; clear hc hf hl hn' hm; obtain ⟨hc, hf, hl, hn', hm⟩ := kw_rules HB.out hNW) | (go_at_call 15; (with_reducible refine (copyb_any va m vc _ l _ (own8_bq HO.out) (Nat.le_refl _) (by omega)).mono ?_); rintro e z ⟨v8, rfl, ho8, hb⟩; replace HO := Hk.mk (HO.out.below hb); replace HB := Hk.mk (kw_step HB.out hNW hb); clear hb; clear hc hf hl hn' hm; obtain ⟨hc, hf, hl, hn', hm⟩ := kw_rules HB.out hNW))
        have HI := Hk.mk ho8
        obtain ⟨a8, c8, rfl, hc8, hm8, -, -⟩ := ho8.bq
        clear ho8
        generalize z = VA at *
        have q0 : VA.cell? ⟨w.heap.size, 0, none⟩ = some (.int .i64 W) := (hc _ _ (by omega)).trans (by go_simp)
        have q1 : VA.cell? ⟨w.heap.size, 1, none⟩ = some (.int .i64 H) := (hc _ _ (by omega)).trans (by go_simp)
        have q2 : VA.cell? ⟨w.heap.size, 2, none⟩ = some (.slice a n c) := (hc _ _ (by omega)).trans (by go_simp)
        have q4 : VA.cell? ⟨w.heap.size, 4, none⟩ = some (.slice (some ⟨mb, mo, none⟩) mn mc) := (hc _ _ (by omega)).trans (by go_simp)
        have m0 : VA.cell? ⟨mb, mo + j * 6, none⟩ = some (.int .i64 d.i) := (hc _ _ (by omega)).trans (by go_simp)
        have m1 : VA.cell? ⟨mb, mo + j * 6 + 1, none⟩ = some (.int .i64 d.o) := (hc _ _ (by omega)).trans (by go_simp)
        have m2 : VA.cell? ⟨mb, mo + j * 6 + 2, none⟩ = some (.int .i64 d.x) := (hc _ _ (by omega)).trans (by go_simp)
        have m3 : VA.cell? ⟨mb, mo + j * 6 + 3, none⟩ = some (.int .i64 d.y) := (hc _ _ (by omega)).trans (by go_simp)
        have m4 : VA.cell? ⟨mb, mo + j * 6 + 4, none⟩ = some (.int .i64 d.w) := (hc _ _ (by omega)).trans (by go_simp)
        have m5 : VA.cell? ⟨mb, mo + j * 6 + 5, none⟩ = some (.int .i64 d.h) := (hc _ _ (by omega)).trans (by go_simp)
        have bX : w.heap.size < VA.heap.size := hl _ (by omega)
        have bM : mb < VA.heap.size := hl _ (by omega)
        have HBV := HB
        have HYV := Hk.mk (HBY.out _ HB.out)
        have hszv : Hk (w.heap.size ≤ VA.heap.size) := ⟨by omega⟩
        clear HB
        clear hc hf hl hn' hm
        have L0V : VA.heap.size ≤ VA.heap.size := Nat.le_refl _
        apply reg_merge
        intro HG1
        refine wp_region_held_drew (S := fun Z => (∀ b o, b < VA.heap.size → Z.cell? ⟨b, o, none⟩ = VA.cell? ⟨b, o, none⟩)) (by kernel_rfl) (fun _ _ _ => rfl) (fun hHeld => ?_)
        have HB : Hk (Below VA.heap.size VA VA.drew) := ⟨(Below.refl _ _).drew⟩
        obtain ⟨WZ, hWe⟩ : ∃ WZ, VA.drew = WZ := ⟨_, rfl⟩
        rw [hWe] at HB hHeld ⊢
        clear hWe
        refine wpAnyH_take (i := 0) (v := ?_) rfl (by kernel_rfl) (by kernel_rfl) (by kernel_rfl) (fun _ _ _ h => h) (Or.inl ⟨by rfl, fun wX hSw => ?_⟩) (by assumption) ?_
        rotate_left
        · (try dsimp only at hSw); go_simp; try with_reducible rfl
        (try simp only [Act.put, List.getElem_toArray, List.getElem_cons_succ, List.getElem_cons_zero, List.setIfInBounds_toArray, List.set_cons_zero, List.set_cons_succ])
        refine wpAnyH_take (i := 1) (v := ?_) rfl (by kernel_rfl) (by kernel_rfl) (by kernel_rfl) (fun _ _ _ h => h) (Or.inl ⟨by rfl, fun wX hSw => ?_⟩) (by assumption) ?_
        rotate_left
        · (try dsimp only at hSw); go_simp; try with_reducible rfl
        (try simp only [Act.put, List.getElem_toArray, List.getElem_cons_succ, List.getElem_cons_zero, List.setIfInBounds_toArray, List.set_cons_zero, List.set_cons_succ])
        refine wpAnyH_take (i := 2) (v := ?_) rfl (by kernel_rfl) (by kernel_rfl) (by kernel_rfl) (fun _ _ _ h => h) (Or.inl ⟨by rfl, fun wX hSw => ?_⟩) (by assumption) ?_
        rotate_left
        · (try dsimp only at hSw); go_simp; try with_reducible rfl
        (try simp only [Act.put, List.getElem_toArray, List.getElem_cons_succ, List.getElem_cons_zero, List.setIfInBounds_toArray, List.set_cons_zero, List.set_cons_succ])
        refine wpAnyH_take (i := 3) (v := ?_) rfl (by kernel_rfl) (by kernel_rfl) (by kernel_rfl) (fun _ _ _ h => h) (Or.inl ⟨by rfl, fun wX hSw => ?_⟩) (by assumption) ?_
        rotate_left
        · (try dsimp only at hSw); go_simp; try with_reducible rfl
        (try simp only [Act.put, List.getElem_toArray, List.getElem_cons_succ, List.getElem_cons_zero, List.setIfInBounds_toArray, List.set_cons_zero, List.set_cons_succ])
        refine wpAnyH_take (i := 4) (v := ?_) rfl (by kernel_rfl) (by kernel_rfl) (by kernel_rfl) (fun _ _ _ h => h) (Or.inl ⟨by rfl, fun wX hSw => ?_⟩) (by assumption) ?_
        rotate_left
        · (try dsimp only at hSw); go_simp; try with_reducible rfl
        (try simp only [Act.put, List.getElem_toArray, List.getElem_cons_succ, List.getElem_cons_zero, List.setIfInBounds_toArray, List.set_cons_zero, List.set_cons_succ])
        refine wpAnyH_take (i := 5) (v := ?_) rfl (by kernel_rfl) (by kernel_rfl) (by kernel_rfl) (fun _ _ _ h => h) (Or.inl ⟨by rfl, fun wX hSw => ?_⟩) (by assumption) ?_
        rotate_left
        · (try dsimp only at hSw); go_simp; try with_reducible rfl
        (try simp only [Act.put, List.getElem_toArray, List.getElem_cons_succ, List.getElem_cons_zero, List.setIfInBounds_toArray, List.set_cons_zero, List.set_cons_succ])
        refine wpAnyH_take (i := 6) (v := ?_) rfl (by kernel_rfl) (by kernel_rfl) (by kernel_rfl) (fun _ _ _ h => h) (Or.inl ⟨by rfl, fun wX hSw => ?_⟩) (by assumption) ?_
        rotate_left
        · (try dsimp only at hSw); go_simp; try with_reducible rfl
        (try simp only [Act.put, List.getElem_toArray, List.getElem_cons_succ, List.getElem_cons_zero, List.setIfInBounds_toArray, List.set_cons_zero, List.set_cons_succ])
        refine wpAnyH_take (i := 7) (v := ?_) rfl (by kernel_rfl) (by kernel_rfl) (by kernel_rfl) (fun _ _ _ h => h) (Or.inl ⟨by rfl, fun wX hSw => ?_⟩) (by assumption) ?_
        rotate_left
        · (try dsimp only at hSw); go_simp; try with_reducible rfl
        (try simp only [Act.put, List.getElem_toArray, List.getElem_cons_succ, List.getElem_cons_zero, List.setIfInBounds_toArray, List.set_cons_zero, List.set_cons_succ])
        refine wpAnyH_ready (rs := [8]) (by kernel_rfl) (by simp) ?_
        refine AllReadyH.cons rfl (fun K hK => ?_) (AllReadyH.nil)
        · skip
          go_simp
          ((go_at_call 18; (with_reducible refine (badd_no W H a n c xs a8 m c8 l d 1 _ ((HYV.out.below HB.out hszv.out).mono (Nat.le_trans hszv.out (kw_le HB.out L0V))) ((own8_bq HI.out).below HB.out (Nat.le_refl _) |>.mono (kw_le HB.out L0V)) (by omega) (by omega) EV hE).mono ?_); rintro e z ⟨rfl, hb⟩))
          replace HB := Hk.mk (kw_step HB.out L0V hb)
          clear hb
          refine hK.out _ _ ?_ (fun hHeld2 => ?_)
          · exact kw_s HB.out
          clear hK K hHeld
          have hHeld := hHeld2
          clear hHeld2
          (try simp only [Act.put, List.getElem_toArray, List.getElem_cons_succ, List.getElem_cons_zero, List.setIfInBounds_toArray, List.set_cons_zero, List.set_cons_succ])
          refine wpAnyH_take (i := 9) (v := ?_) rfl (by kernel_rfl) (by kernel_rfl) (by kernel_rfl) (fun _ _ _ h => h) (Or.inl ⟨by rfl, fun wX hSw => ?_⟩) (by assumption) ?_
          rotate_left
          · (try dsimp only at hSw); go_simp; try with_reducible rfl
          (try simp only [Act.put, List.getElem_toArray, List.getElem_cons_succ, List.getElem_cons_zero, List.setIfInBounds_toArray, List.set_cons_zero, List.set_cons_succ])
          refine wpAnyH_take (i := 10) (v := ?_) rfl (by kernel_rfl) (by kernel_rfl) (by kernel_rfl) (fun _ _ _ h => h) (Or.inl ⟨by rfl, fun wX hSw => ?_⟩) (by assumption) ?_
          rotate_left
          · (try dsimp only at hSw); go_simp; try with_reducible rfl
          (try simp only [Act.put, List.getElem_toArray, List.getElem_cons_succ, List.getElem_cons_zero, List.setIfInBounds_toArray, List.set_cons_zero, List.set_cons_succ])
          refine wpAnyH_take (i := 11) (v := ?_) rfl (by kernel_rfl) (by kernel_rfl) (by kernel_rfl) (fun _ _ _ h => h) (Or.inl ⟨by rfl, fun wX hSw => ?_⟩) (by assumption) ?_
          rotate_left
          · (try dsimp only at hSw); go_simp; try with_reducible rfl
          (try simp only [Act.put, List.getElem_toArray, List.getElem_cons_succ, List.getElem_cons_zero, List.setIfInBounds_toArray, List.set_cons_zero, List.set_cons_succ])
          refine wpAnyH_take (i := 12) (v := ?_) rfl (by kernel_rfl) (by kernel_rfl) (by kernel_rfl) (fun _ _ _ h => h) (Or.inl ⟨by rfl, fun wX hSw => ?_⟩) (by assumption) ?_
          rotate_left
          · (try dsimp only at hSw); go_simp; try with_reducible rfl
          (try simp only [Act.put, List.getElem_toArray, List.getElem_cons_succ, List.getElem_cons_zero, List.setIfInBounds_toArray, List.set_cons_zero, List.set_cons_succ])
          refine wpAnyH_take (i := 13) (v := ?_) rfl (by kernel_rfl) (by kernel_rfl) (by kernel_rfl) (fun _ _ _ h => h) (Or.inl ⟨by rfl, fun wX hSw => ?_⟩) (by assumption) ?_
          rotate_left
          · (try dsimp only at hSw); go_simp; try with_reducible rfl
          (try simp only [Act.put, List.getElem_toArray, List.getElem_cons_succ, List.getElem_cons_zero, List.setIfInBounds_toArray, List.set_cons_zero, List.set_cons_succ])
          refine reg_cast (l' := #[true, true, true, true, true, true, true, true, true, true, true, true, true, true]) (by kernel_rfl) ?_
          revert hHeld
          revert HB
          revert z
          exact HG1.out
        intro WZ HB hHeld
        refine wpAnyH_done (by kernel_rfl) ?_ _
        have HIq : Hk (∀ X, Below VA.heap.size VA X → Bq X VA.heap.size a8 m l) := ⟨fun X hX => (own8_bq HI.out).below hX (Nat.le_refl _)⟩
        have HLq : Hk (∀ X, Below VA.heap.size VA X → Bq X VA.heap.size va m l) := ⟨fun X hX => (own8_bq HO.out).below hX (Nat.le_refl _)⟩
        have HY3 : Hk (∀ X, Below VA.heap.size VA X → By X X.heap.size a n xs) := ⟨fun X hX => ((HYV.out).below hX hszv.out).mono (Nat.le_trans hszv.out hX.size)⟩
        have hsb : Hk (w.heap.size + 1 ≤ VA.heap.size) := ⟨by omega⟩
        clear m0 m1 m2 m3 m4 m5 q4 HI HYV hszv hHeld
        obtain ⟨hc, hf, hl, hn', hm⟩ := kw_rules HB.out L0V
        go_wp2_with (first | (go_at_call 20; (with_reducible refine (bcheck_as 1 W H a n c xs a8 m c8 l _ (HY3.out _ HB.out) ((HIq.out _ HB.out).mono HB.out.size) (by omega) (by omega) HCK).mono ?_); rintro e z ⟨rfl, hb⟩; replace HB := Hk.mk (kw_step HB.out L0V hb); clear hb; clear hc hf hl hn' hm; obtain ⟨hc, hf, hl, hn', hm⟩ := kw_rules HB.out L0V) | (go_at_call 19; (with_reducible refine (num8_any _ _).mono ?_); rintro e z ⟨rfl, rfl⟩) | (go_at_call 21; (with_reducible refine (eqbd_yes none none 0 0 0 0 0 [] _ (Bq.nil _ _ _) (Bq.nil _ _ _) (by omega)).mono ?_); rintro e z ⟨rfl, m2, rfl⟩; replace HB := Hk.mk (below_drewN HB.out m2); (try rw [World.drewN_drewN] at HB); clear hc hf hl hn' hm; obtain ⟨hc, hf, hl, hn', hm⟩ := kw_rules HB.out L0V) | (go_at_call 21; (with_reducible refine (eqbd_yes a8 va m c8 vc _ _ l _ (HIq.out _ HB.out) (HLq.out _ HB.out) (by omega)).mono ?_); rintro e z ⟨rfl, m3, rfl⟩; replace HB := Hk.mk (below_drewN HB.out m3); (try rw [World.drewN_drewN] at HB); clear hc hf hl hn' hm; obtain ⟨hc, hf, hl, hn', hm⟩ := kw_rules HB.out L0V) | (go_at_call 22; (with_reducible refine (spoil8 (.slice none 0 0) 0 _ [] _ (OwnB8.nil _ _) (Nat.le_refl _) (by omega)).mono ?_); rintro e z ⟨rfl, hb⟩; replace HB := Hk.mk (kw_step HB.out L0V hb); clear hb; clear hc hf hl hn' hm; obtain ⟨hc, hf, hl, hn', hm⟩ := kw_rules HB.out L0V))
        exact ⟨⟨j + 1, m, l, by go_num, by omega, by omega, ⟨HO.out.below HB.out⟩, ⟨HBV.out.trans (HB.out.mono hsb.out)⟩⟩, by simp [intOf]; omega⟩
      have MM := Hk.mk hM
      have HCK : Hk (ckE W H n xs l = 0) := ⟨by unfold ckE; rw [if_pos hM]⟩
      clear hM
      by_cases hE : E = 0
      · subst hE
        go_upto_region 10 with (go_at_call 16; (with_reducible refine (check8_as 0 W H a n c xs va m vc l _ ?_ ?_ (by omega) (by omega) HCK).mono ?_); (exact (HBY.out _ HB.out).mono (hsz1 HB.out)); (exact own8_bq HO.out); rintro e z ⟨rfl, hb⟩; replace HO := Hk.mk (HO.out.below hb); replace HB := Hk.mk (kw_step HB.out hNW hb); clear hb; clear hc hf hl hn' hm; obtain ⟨hc, hf, hl, hn', hm⟩ := kw_rules HB.out hNW)
        generalize z = VA at *
        have q0 : VA.cell? ⟨w.heap.size, 0, none⟩ = some (.int .i64 W) := (hc _ _ (by omega)).trans (by go_simp)
        have q1 : VA.cell? ⟨w.heap.size, 1, none⟩ = some (.int .i64 H) := (hc _ _ (by omega)).trans (by go_simp)
        have q2 : VA.cell? ⟨w.heap.size, 2, none⟩ = some (.slice a n c) := (hc _ _ (by omega)).trans (by go_simp)
        have q4 : VA.cell? ⟨w.heap.size, 4, none⟩ = some (.slice (some ⟨mb, mo, none⟩) mn mc) := (hc _ _ (by omega)).trans (by go_simp)
        have m0 : VA.cell? ⟨mb, mo + j * 6, none⟩ = some (.int .i64 d.i) := (hc _ _ (by omega)).trans (by go_simp)
        have m1 : VA.cell? ⟨mb, mo + j * 6 + 1, none⟩ = some (.int .i64 d.o) := (hc _ _ (by omega)).trans (by go_simp)
        have m2 : VA.cell? ⟨mb, mo + j * 6 + 2, none⟩ = some (.int .i64 d.x) := (hc _ _ (by omega)).trans (by go_simp)
        have m3 : VA.cell? ⟨mb, mo + j * 6 + 3, none⟩ = some (.int .i64 d.y) := (hc _ _ (by omega)).trans (by go_simp)
        have m4 : VA.cell? ⟨mb, mo + j * 6 + 4, none⟩ = some (.int .i64 d.w) := (hc _ _ (by omega)).trans (by go_simp)
        have m5 : VA.cell? ⟨mb, mo + j * 6 + 5, none⟩ = some (.int .i64 d.h) := (hc _ _ (by omega)).trans (by go_simp)
        have bX : w.heap.size < VA.heap.size := hl _ (by omega)
        have bM : mb < VA.heap.size := hl _ (by omega)
        have HBV := HB
        have HYV := Hk.mk (HBY.out _ HB.out)
        have hszv : Hk (w.heap.size ≤ VA.heap.size) := ⟨by omega⟩
        clear HB
        clear hc hf hl hn' hm
        have L0V : VA.heap.size ≤ VA.heap.size := Nat.le_refl _
        apply reg_merge
        intro HG1
        refine wp_region_held_drew (S := fun Z => (∀ b o, b < VA.heap.size → Z.cell? ⟨b, o, none⟩ = VA.cell? ⟨b, o, none⟩)) (by kernel_rfl) (fun _ _ _ => rfl) (fun hHeld => ?_)
        have HB : Hk (Below VA.heap.size VA VA.drew) := ⟨(Below.refl _ _).drew⟩
        obtain ⟨WZ, hWe⟩ : ∃ WZ, VA.drew = WZ := ⟨_, rfl⟩
        rw [hWe] at HB hHeld ⊢
        clear hWe
        refine wpAnyH_take (i := 0) (v := ?_) rfl (by kernel_rfl) (by kernel_rfl) (by kernel_rfl) (fun _ _ _ h => h) (Or.inl ⟨by rfl, fun wX hSw => ?_⟩) (by assumption) ?_
        rotate_left
        · (try dsimp only at hSw); go_simp; try with_reducible rfl
        (try simp only [Act.put, List.getElem_toArray, List.getElem_cons_succ, List.getElem_cons_zero, List.setIfInBounds_toArray, List.set_cons_zero, List.set_cons_succ])
        refine wpAnyH_take (i := 1) (v := ?_) rfl (by kernel_rfl) (by kernel_rfl) (by kernel_rfl) (fun _ _ _ h => h) (Or.inl ⟨by rfl, fun wX hSw => ?_⟩) (by assumption) ?_
        rotate_left
        · (try dsimp only at hSw); go_simp; try with_reducible rfl
        (try simp only [Act.put, List.getElem_toArray, List.getElem_cons_succ, List.getElem_cons_zero, List.setIfInBounds_toArray, List.set_cons_zero, List.set_cons_succ])
        refine wpAnyH_take (i := 2) (v := ?_) rfl (by kernel_rfl) (by kernel_rfl) (by kernel_rfl) (fun _ _ _ h => h) (Or.inl ⟨by rfl, fun wX hSw => ?_⟩) (by assumption) ?_
        rotate_left
        · (try dsimp only at hSw); go_simp; try with_reducible rfl
        (try simp only [Act.put, List.getElem_toArray, List.getElem_cons_succ, List.getElem_cons_zero, List.setIfInBounds_toArray, List.set_cons_zero, List.set_cons_succ])
        refine wpAnyH_take (i := 3) (v := ?_) rfl (by kernel_rfl) (by kernel_rfl) (by kernel_rfl) (fun _ _ _ h => h) (Or.inl ⟨by rfl, fun wX hSw => ?_⟩) (by assumption) ?_
        rotate_left
        · (try dsimp only at hSw); go_simp; try with_reducible rfl
        (try simp only [Act.put, List.getElem_toArray, List.getElem_cons_succ, List.getElem_cons_zero, List.setIfInBounds_toArray, List.set_cons_zero, List.set_cons_succ])
        refine wpAnyH_take (i := 4) (v := ?_) rfl (by kernel_rfl) (by kernel_rfl) (by kernel_rfl) (fun _ _ _ h => h) (Or.inl ⟨by rfl, fun wX hSw => ?_⟩) (by assumption) ?_
        rotate_left
        · (try dsimp only at hSw); go_simp; try with_reducible rfl
        (try simp only [Act.put, List.getElem_toArray, List.getElem_cons_succ, List.getElem_cons_zero, List.setIfInBounds_toArray, List.set_cons_zero, List.set_cons_succ])
        refine wpAnyH_take (i := 5) (v := ?_) rfl (by kernel_rfl) (by kernel_rfl) (by kernel_rfl) (fun _ _ _ h => h) (Or.inl ⟨by rfl, fun wX hSw => ?_⟩) (by assumption) ?_
        rotate_left
        · (try dsimp only at hSw); go_simp; try with_reducible rfl
        (try simp only [Act.put, List.getElem_toArray, List.getElem_cons_succ, List.getElem_cons_zero, List.setIfInBounds_toArray, List.set_cons_zero, List.set_cons_succ])
        refine wpAnyH_take (i := 6) (v := ?_) rfl (by kernel_rfl) (by kernel_rfl) (by kernel_rfl) (fun _ _ _ h => h) (Or.inl ⟨by rfl, fun wX hSw => ?_⟩) (by assumption) ?_
        rotate_left
        · (try dsimp only at hSw); go_simp; try with_reducible rfl
        (try simp only [Act.put, List.getElem_toArray, List.getElem_cons_succ, List.getElem_cons_zero, List.setIfInBounds_toArray, List.set_cons_zero, List.set_cons_succ])
        refine wpAnyH_take (i := 7) (v := ?_) rfl (by kernel_rfl) (by kernel_rfl) (by kernel_rfl) (fun _ _ _ h => h) (Or.inl ⟨by rfl, fun wX hSw => ?_⟩) (by assumption) ?_
        rotate_left
        · (try dsimp only at hSw); go_simp; try with_reducible rfl
        (try simp only [Act.put, List.getElem_toArray, List.getElem_cons_succ, List.getElem_cons_zero, List.setIfInBounds_toArray, List.set_cons_zero, List.set_cons_succ])
        refine wpAnyH_ready (rs := [8]) (by kernel_rfl) (by simp) ?_
        refine AllReadyH.cons rfl (fun K hK => ?_) (AllReadyH.nil)
        · skip
          go_simp
          ((go_at_call 17; (with_reducible refine (rbadd_yes W H a n c xs va m vc l d _ ((HYV.out.below HB.out hszv.out).mono (Nat.le_trans hszv.out (kw_le HB.out L0V))) ((own8_bq HO.out).below HB.out (Nat.le_refl _) |>.mono (kw_le HB.out L0V)) (by omega) hvc hvm' HFO.out MM EV).mono ?_); rintro e z ⟨a6, c6, rfl, ho6, hb⟩; have HW := Hk.mk (ho6.weak (kw_le HB.out L0V)); clear ho6))
          replace HB := Hk.mk (kw_step HB.out L0V hb)
          clear hb
          refine hK.out _ _ ?_ (fun hHeld2 => ?_)
          · exact kw_s HB.out
          clear hK K hHeld
          have hHeld := hHeld2
          clear hHeld2
          (try simp only [Act.put, List.getElem_toArray, List.getElem_cons_succ, List.getElem_cons_zero, List.setIfInBounds_toArray, List.set_cons_zero, List.set_cons_succ])
          refine wpAnyH_take (i := 9) (v := ?_) rfl (by kernel_rfl) (by kernel_rfl) (by kernel_rfl) (fun _ _ _ h => h) (Or.inl ⟨by rfl, fun wX hSw => ?_⟩) (by assumption) ?_
          rotate_left
          · (try dsimp only at hSw); go_simp; try with_reducible rfl
          (try simp only [Act.put, List.getElem_toArray, List.getElem_cons_succ, List.getElem_cons_zero, List.setIfInBounds_toArray, List.set_cons_zero, List.set_cons_succ])
          refine wpAnyH_take (i := 10) (v := ?_) rfl (by kernel_rfl) (by kernel_rfl) (by kernel_rfl) (fun _ _ _ h => h) (Or.inl ⟨by rfl, fun wX hSw => ?_⟩) (by assumption) ?_
          rotate_left
          · (try dsimp only at hSw); go_simp; try with_reducible rfl
          (try simp only [Act.put, List.getElem_toArray, List.getElem_cons_succ, List.getElem_cons_zero, List.setIfInBounds_toArray, List.set_cons_zero, List.set_cons_succ])
          refine wpAnyH_take (i := 11) (v := ?_) rfl (by kernel_rfl) (by kernel_rfl) (by kernel_rfl) (fun _ _ _ h => h) (Or.inl ⟨by rfl, fun wX hSw => ?_⟩) (by assumption) ?_
          rotate_left
          · (try dsimp only at hSw); go_simp; try with_reducible rfl
          (try simp only [Act.put, List.getElem_toArray, List.getElem_cons_succ, List.getElem_cons_zero, List.setIfInBounds_toArray, List.set_cons_zero, List.set_cons_succ])
          refine wpAnyH_take (i := 12) (v := ?_) rfl (by kernel_rfl) (by kernel_rfl) (by kernel_rfl) (fun _ _ _ h => h) (Or.inl ⟨by rfl, fun wX hSw => ?_⟩) (by assumption) ?_
          rotate_left
          · (try dsimp only at hSw); go_simp; try with_reducible rfl
          (try simp only [Act.put, List.getElem_toArray, List.getElem_cons_succ, List.getElem_cons_zero, List.setIfInBounds_toArray, List.set_cons_zero, List.set_cons_succ])
          refine wpAnyH_take (i := 13) (v := ?_) rfl (by kernel_rfl) (by kernel_rfl) (by kernel_rfl) (fun _ _ _ h => h) (Or.inl ⟨by rfl, fun wX hSw => ?_⟩) (by assumption) ?_
          rotate_left
          · (try dsimp only at hSw); go_simp; try with_reducible rfl
          (try simp only [Act.put, List.getElem_toArray, List.getElem_cons_succ, List.getElem_cons_zero, List.setIfInBounds_toArray, List.set_cons_zero, List.set_cons_succ])
          refine reg_cast (l' := #[true, true, true, true, true, true, true, true, true, true, true, true, true, true]) (by kernel_rfl) ?_
          revert hHeld
          revert HW
          revert HB
          revert c6
          revert a6
          revert z
          exact HG1.out
        intro WZ a6 c6 HB HW hHeld
        refine wpAnyH_done (by kernel_rfl) ?_ _
        replace HO := Hk.mk (HO.out.below HB.out)
        replace HB := Hk.mk (kw_step HBV.out hNW HB.out)
        clear q0 q1 q2 q4 m0 m1 m2 m3 m4 m5 hHeld HBV HYV hszv L0V
        clear bX bM
        obtain ⟨hc, hf, hl, hn', hm⟩ := kw_rules HB.out hNW
        go_upto_region 12 with (first | (go_at_call 15; (with_reducible refine (copyb_any va m vc _ l _ (own8_bq HO.out) (Nat.le_refl _) (by omega)).mono ?_); rintro e z ⟨v8, rfl, ho8, hb⟩; replace HO := Hk.mk (HO.out.below hb); replace HW := Hk.mk (HW.out.below hb); replace HB := Hk.mk (kw_step HB.out hNW hb); clear hb; clear hc hf hl hn' hm; obtain ⟨hc, hf, hl, hn', hm⟩ := kw_rules HB.out hNW))
        have HI := Hk.mk ho8
        obtain ⟨a8, c8, rfl, hc8, hm8, -, -⟩ := ho8.bq
        clear ho8
        generalize z = VA at *
        have q0 : VA.cell? ⟨w.heap.size, 0, none⟩ = some (.int .i64 W) := (hc _ _ (by omega)).trans (by go_simp)
        have q1 : VA.cell? ⟨w.heap.size, 1, none⟩ = some (.int .i64 H) := (hc _ _ (by omega)).trans (by go_simp)
        have q2 : VA.cell? ⟨w.heap.size, 2, none⟩ = some (.slice a n c) := (hc _ _ (by omega)).trans (by go_simp)
        have q4 : VA.cell? ⟨w.heap.size, 4, none⟩ = some (.slice (some ⟨mb, mo, none⟩) mn mc) := (hc _ _ (by omega)).trans (by go_simp)
        have m0 : VA.cell? ⟨mb, mo + j * 6, none⟩ = some (.int .i64 d.i) := (hc _ _ (by omega)).trans (by go_simp)
        have m1 : VA.cell? ⟨mb, mo + j * 6 + 1, none⟩ = some (.int .i64 d.o) := (hc _ _ (by omega)).trans (by go_simp)
        have m2 : VA.cell? ⟨mb, mo + j * 6 + 2, none⟩ = some (.int .i64 d.x) := (hc _ _ (by omega)).trans (by go_simp)
        have m3 : VA.cell? ⟨mb, mo + j * 6 + 3, none⟩ = some (.int .i64 d.y) := (hc _ _ (by omega)).trans (by go_simp)
        have m4 : VA.cell? ⟨mb, mo + j * 6 + 4, none⟩ = some (.int .i64 d.w) := (hc _ _ (by omega)).trans (by go_simp)
        have m5 : VA.cell? ⟨mb, mo + j * 6 + 5, none⟩ = some (.int .i64 d.h) := (hc _ _ (by omega)).trans (by go_simp)
        have bX : w.heap.size < VA.heap.size := hl _ (by omega)
        have bM : mb < VA.heap.size := hl _ (by omega)
        have HBV := HB
        have HYV := Hk.mk (HBY.out _ HB.out)
        have hszv : Hk (w.heap.size ≤ VA.heap.size) := ⟨by omega⟩
        clear HB
        clear hc hf hl hn' hm
        have HWq : Hk (∀ X, Below VA.heap.size VA X → Bq X VA.heap.size a6 (m + 1) (insB l d)) := ⟨fun X hX => (own8_bq HW.out).below hX (Nat.le_refl _)⟩
        clear HW
        have L0V : VA.heap.size ≤ VA.heap.size := Nat.le_refl _
        apply reg_merge
        intro HG1
        refine wp_region_held_drew (S := fun Z => (∀ b o, b < VA.heap.size → Z.cell? ⟨b, o, none⟩ = VA.cell? ⟨b, o, none⟩)) (by kernel_rfl) (fun _ _ _ => rfl) (fun hHeld => ?_)
        have HB : Hk (Below VA.heap.size VA VA.drew) := ⟨(Below.refl _ _).drew⟩
        obtain ⟨WZ, hWe⟩ : ∃ WZ, VA.drew = WZ := ⟨_, rfl⟩
        rw [hWe] at HB hHeld ⊢
        clear hWe
        refine wpAnyH_take (i := 0) (v := ?_) rfl (by kernel_rfl) (by kernel_rfl) (by kernel_rfl) (fun _ _ _ h => h) (Or.inl ⟨by rfl, fun wX hSw => ?_⟩) (by assumption) ?_
        rotate_left
        · (try dsimp only at hSw); go_simp; try with_reducible rfl
        (try simp only [Act.put, List.getElem_toArray, List.getElem_cons_succ, List.getElem_cons_zero, List.setIfInBounds_toArray, List.set_cons_zero, List.set_cons_succ])
        refine wpAnyH_take (i := 1) (v := ?_) rfl (by kernel_rfl) (by kernel_rfl) (by kernel_rfl) (fun _ _ _ h => h) (Or.inl ⟨by rfl, fun wX hSw => ?_⟩) (by assumption) ?_
        rotate_left
        · (try dsimp only at hSw); go_simp; try with_reducible rfl
        (try simp only [Act.put, List.getElem_toArray, List.getElem_cons_succ, List.getElem_cons_zero, List.setIfInBounds_toArray, List.set_cons_zero, List.set_cons_succ])
        refine wpAnyH_take (i := 2) (v := ?_) rfl (by kernel_rfl) (by kernel_rfl) (by kernel_rfl) (fun _ _ _ h => h) (Or.inl ⟨by rfl, fun wX hSw => ?_⟩) (by assumption) ?_
        rotate_left
        · (try dsimp only at hSw); go_simp; try with_reducible rfl
        (try simp only [Act.put, List.getElem_toArray, List.getElem_cons_succ, List.getElem_cons_zero, List.setIfInBounds_toArray, List.set_cons_zero, List.set_cons_succ])
        refine wpAnyH_take (i := 3) (v := ?_) rfl (by kernel_rfl) (by kernel_rfl) (by kernel_rfl) (fun _ _ _ h => h) (Or.inl ⟨by rfl, fun wX hSw => ?_⟩) (by assumption) ?_
        rotate_left
        · (try dsimp only at hSw); go_simp; try with_reducible rfl
        (try simp only [Act.put, List.getElem_toArray, List.getElem_cons_succ, List.getElem_cons_zero, List.setIfInBounds_toArray, List.set_cons_zero, List.set_cons_succ])
        refine wpAnyH_take (i := 4) (v := ?_) rfl (by kernel_rfl) (by kernel_rfl) (by kernel_rfl) (fun _ _ _ h => h) (Or.inl ⟨by rfl, fun wX hSw => ?_⟩) (by assumption) ?_
        rotate_left
        · (try dsimp only at hSw); go_simp; try with_reducible rfl
        (try simp only [Act.put, List.getElem_toArray, List.getElem_cons_succ, List.getElem_cons_zero, List.setIfInBounds_toArray, List.set_cons_zero, List.set_cons_succ])
        refine wpAnyH_take (i := 5) (v := ?_) rfl (by kernel_rfl) (by kernel_rfl) (by kernel_rfl) (fun _ _ _ h => h) (Or.inl ⟨by rfl, fun wX hSw => ?_⟩) (by assumption) ?_
        rotate_left
        · (try dsimp only at hSw); go_simp; try with_reducible rfl
        (try simp only [Act.put, List.getElem_toArray, List.getElem_cons_succ, List.getElem_cons_zero, List.setIfInBounds_toArray, List.set_cons_zero, List.set_cons_succ])
        refine wpAnyH_take (i := 6) (v := ?_) rfl (by kernel_rfl) (by kernel_rfl) (by kernel_rfl) (fun _ _ _ h => h) (Or.inl ⟨by rfl, fun wX hSw => ?_⟩) (by assumption) ?_
        rotate_left
        · (try dsimp only at hSw); go_simp; try with_reducible rfl
        (try simp only [Act.put, List.getElem_toArray, List.getElem_cons_succ, List.getElem_cons_zero, List.setIfInBounds_toArray, List.set_cons_zero, List.set_cons_succ])
        refine wpAnyH_take (i := 7) (v := ?_) rfl (by kernel_rfl) (by kernel_rfl) (by kernel_rfl) (fun _ _ _ h => h) (Or.inl ⟨by rfl, fun wX hSw => ?_⟩) (by assumption) ?_
        rotate_left
        · (try dsimp only at hSw); go_simp; try with_reducible rfl
        (try simp only [Act.put, List.getElem_toArray, List.getElem_cons_succ, List.getElem_cons_zero, List.setIfInBounds_toArray, List.set_cons_zero, List.set_cons_succ])
        refine wpAnyH_ready (rs := [8]) (by kernel_rfl) (by simp) ?_
        refine AllReadyH.cons rfl (fun K hK => ?_) (AllReadyH.nil)
        · skip
          go_simp
          ((go_at_call 18; (with_reducible refine (badd_yes W H a n c xs a8 m c8 l d _ ((HYV.out.below HB.out hszv.out).mono (Nat.le_trans hszv.out (kw_le HB.out L0V))) ((own8_bq HI.out).below HB.out (Nat.le_refl _) |>.mono (kw_le HB.out L0V)) (by omega) (by omega) EV).mono ?_); rintro e z ⟨a9, c9, rfl, ho9, hb⟩; have HX := Hk.mk (ho9.weak (kw_le HB.out L0V)); clear ho9))
          replace HB := Hk.mk (kw_step HB.out L0V hb)
          clear hb
          refine hK.out _ _ ?_ (fun hHeld2 => ?_)
          · exact kw_s HB.out
          clear hK K hHeld
          have hHeld := hHeld2
          clear hHeld2
          (try simp only [Act.put, List.getElem_toArray, List.getElem_cons_succ, List.getElem_cons_zero, List.setIfInBounds_toArray, List.set_cons_zero, List.set_cons_succ])
          refine wpAnyH_take (i := 9) (v := ?_) rfl (by kernel_rfl) (by kernel_rfl) (by kernel_rfl) (fun _ _ _ h => h) (Or.inl ⟨by rfl, fun wX hSw => ?_⟩) (by assumption) ?_
          rotate_left
          · (try dsimp only at hSw); go_simp; try with_reducible rfl
          (try simp only [Act.put, List.getElem_toArray, List.getElem_cons_succ, List.getElem_cons_zero, List.setIfInBounds_toArray, List.set_cons_zero, List.set_cons_succ])
          refine wpAnyH_take (i := 10) (v := ?_) rfl (by kernel_rfl) (by kernel_rfl) (by kernel_rfl) (fun _ _ _ h => h) (Or.inl ⟨by rfl, fun wX hSw => ?_⟩) (by assumption) ?_
          rotate_left
          · (try dsimp only at hSw); go_simp; try with_reducible rfl
          (try simp only [Act.put, List.getElem_toArray, List.getElem_cons_succ, List.getElem_cons_zero, List.setIfInBounds_toArray, List.set_cons_zero, List.set_cons_succ])
          refine wpAnyH_take (i := 11) (v := ?_) rfl (by kernel_rfl) (by kernel_rfl) (by kernel_rfl) (fun _ _ _ h => h) (Or.inl ⟨by rfl, fun wX hSw => ?_⟩) (by assumption) ?_
          rotate_left
          · (try dsimp only at hSw); go_simp; try with_reducible rfl
          (try simp only [Act.put, List.getElem_toArray, List.getElem_cons_succ, List.getElem_cons_zero, List.setIfInBounds_toArray, List.set_cons_zero, List.set_cons_succ])
          refine wpAnyH_take (i := 12) (v := ?_) rfl (by kernel_rfl) (by kernel_rfl) (by kernel_rfl) (fun _ _ _ h => h) (Or.inl ⟨by rfl, fun wX hSw => ?_⟩) (by assumption) ?_
          rotate_left
          · (try dsimp only at hSw); go_simp; try with_reducible rfl
          (try simp only [Act.put, List.getElem_toArray, List.getElem_cons_succ, List.getElem_cons_zero, List.setIfInBounds_toArray, List.set_cons_zero, List.set_cons_succ])
          refine wpAnyH_take (i := 13) (v := ?_) rfl (by kernel_rfl) (by kernel_rfl) (by kernel_rfl) (fun _ _ _ h => h) (Or.inl ⟨by rfl, fun wX hSw => ?_⟩) (by assumption) ?_
          rotate_left
          · (try dsimp only at hSw); go_simp; try with_reducible rfl
          (try simp only [Act.put, List.getElem_toArray, List.getElem_cons_succ, List.getElem_cons_zero, List.setIfInBounds_toArray, List.set_cons_zero, List.set_cons_succ])
          refine reg_cast (l' := #[true, true, true, true, true, true, true, true, true, true, true, true, true, true]) (by kernel_rfl) ?_
          revert hHeld
          revert HX
          revert HB
          revert c9
          revert a9
          revert z
          exact HG1.out
        intro WZ a9 c9 HB HX hHeld
        refine wpAnyH_done (by kernel_rfl) ?_ _
        have HIq : Hk (∀ X, Below VA.heap.size VA X → Bq X VA.heap.size a8 m l) := ⟨fun X hX => (own8_bq HI.out).below hX (Nat.le_refl _)⟩
        have HLq : Hk (∀ X, Below VA.heap.size VA X → Bq X VA.heap.size va m l) := ⟨fun X hX => (own8_bq HO.out).below hX (Nat.le_refl _)⟩
        have HY3 : Hk (∀ X, Below VA.heap.size VA X → By X X.heap.size a n xs) := ⟨fun X hX => ((HYV.out).below hX hszv.out).mono (Nat.le_trans hszv.out hX.size)⟩
        have hsb : Hk (w.heap.size + 1 ≤ VA.heap.size) := ⟨by omega⟩
        clear m0 m1 m2 m3 m4 m5 q4 HI HYV hszv hHeld
        obtain ⟨hc, hf, hl, hn', hm⟩ := kw_rules HB.out L0V
        go_wp2_with (first | (go_at_call 20; (with_reducible refine (bcheck_as 0 W H a n c xs a8 m c8 l _ (HY3.out _ HB.out) ((HIq.out _ HB.out).mono HB.out.size) (by omega) (by omega) HCK).mono ?_); rintro e z ⟨rfl, hb⟩; replace HX := Hk.mk (HX.out.below hb); replace HB := Hk.mk (kw_step HB.out L0V hb); clear hb; clear hc hf hl hn' hm; obtain ⟨hc, hf, hl, hn', hm⟩ := kw_rules HB.out L0V) | (go_at_call 19; (with_reducible refine (num8_any _ _).mono ?_); rintro e z ⟨rfl, rfl⟩) | (go_at_call 21; (with_reducible refine (eqbd_yes a9 a6 (m + 1) c9 c6 _ _ (insB l d) _ (own8_bq HX.out) (HWq.out _ HB.out) (by omega)).mono ?_); rintro e z ⟨rfl, m2, rfl⟩; replace HX := Hk.mk (HX.out.drewN m2); replace HB := Hk.mk (below_drewN HB.out m2); (try rw [World.drewN_drewN] at HB); clear hc hf hl hn' hm; obtain ⟨hc, hf, hl, hn', hm⟩ := kw_rules HB.out L0V) | (go_at_call 21; (with_reducible refine (eqbd_yes a8 va m c8 vc _ _ l _ (HIq.out _ HB.out) (HLq.out _ HB.out) (by omega)).mono ?_); rintro e z ⟨rfl, m3, rfl⟩; replace HX := Hk.mk (HX.out.drewN m3); (try rw [World.drewN_drewN] at HX); replace HB := Hk.mk (below_drewN HB.out m3); (try rw [World.drewN_drewN] at HB); clear hc hf hl hn' hm; obtain ⟨hc, hf, hl, hn', hm⟩ := kw_rules HB.out L0V) | (go_at_call 21; (with_reducible refine (eqbd_yes a8 va m c8 vc _ _ l _ (HIq.out _ HB.out) (HLq.out _ HB.out) (by omega)).mono ?_); rintro e z ⟨rfl, m3, rfl⟩; replace HB := Hk.mk (below_drewN HB.out m3); (try rw [World.drewN_drewN] at HB); clear hc hf hl hn' hm; obtain ⟨hc, hf, hl, hn', hm⟩ := kw_rules HB.out L0V) | (go_at_call 22; (with_reducible refine (spoil8 _ (m + 1) VA.heap.size _ _ HX.out HB.out.size (by omega)).mono ?_); rintro e z ⟨rfl, hb⟩; clear HX; replace HB := Hk.mk (HB.out.trans hb); clear hb; clear hc hf hl hn' hm; obtain ⟨hc, hf, hl, hn', hm⟩ := kw_rules HB.out L0V) | (go_at_call 15; (with_reducible refine (copyb_any a6 (m + 1) c6 _ (insB l d) _ (HWq.out _ HB.out) HB.out.size (by omega)).mono ?_); rintro e z ⟨v10, rfl, ho10, hb⟩; have HO2 := Hk.mk (ho10.weak (Nat.le_trans hsb.out HB.out.size)); clear ho10; replace HB := Hk.mk (kw_step HB.out L0V hb); clear hb; clear hc hf hl hn' hm; obtain ⟨hc, hf, hl, hn', hm⟩ := kw_rules HB.out L0V))
        exact ⟨⟨j + 1, m + 1, insB l d, by go_num, by omega, by omega, HO2, ⟨HBV.out.trans (HB.out.mono hsb.out)⟩⟩, by simp [intOf]; omega⟩
      · have dE : (E == 0) = false := by simpa using hE
        go_upto_region 10 with (go_at_call 16; (with_reducible refine (check8_as 0 W H a n c xs va m vc l _ ?_ ?_ (by omega) (by omega) HCK).mono ?_); (exact (HBY.out _ HB.out).mono (hsz1 HB.out)); (exact own8_bq HO.out); rintro e z ⟨rfl, hb⟩; replace HO := Hk.mk (HO.out.below hb); replace HB := Hk.mk (kw_step HB.out hNW hb); clear hb; clear hc hf hl hn' hm; obtain ⟨hc, hf, hl, hn', hm⟩ := kw_rules HB.out hNW)
        generalize z = VA at *
        have q0 : VA.cell? ⟨w.heap.size, 0, none⟩ = some (.int .i64 W) := (hc _ _ (by omega)).trans (by go_simp)
        have q1 : VA.cell? ⟨w.heap.size, 1, none⟩ = some (.int .i64 H) := (hc _ _ (by omega)).trans (by go_simp)
        have q2 : VA.cell? ⟨w.heap.size, 2, none⟩ = some (.slice a n c) := (hc _ _ (by omega)).trans (by go_simp)
        have q4 : VA.cell? ⟨w.heap.size, 4, none⟩ = some (.slice (some ⟨mb, mo, none⟩) mn mc) := (hc _ _ (by omega)).trans (by go_simp)
        have m0 : VA.cell? ⟨mb, mo + j * 6, none⟩ = some (.int .i64 d.i) := (hc _ _ (by omega)).trans (by go_simp)
        have m1 : VA.cell? ⟨mb, mo + j * 6 + 1, none⟩ = some (.int .i64 d.o) := (hc _ _ (by omega)).trans (by go_simp)
        have m2 : VA.cell? ⟨mb, mo + j * 6 + 2, none⟩ = some (.int .i64 d.x) := (hc _ _ (by omega)).trans (by go_simp)
        have m3 : VA.cell? ⟨mb, mo + j * 6 + 3, none⟩ = some (.int .i64 d.y) := (hc _ _ (by omega)).trans (by go_simp)
        have m4 : VA.cell? ⟨mb, mo + j * 6 + 4, none⟩ = some (.int .i64 d.w) := (hc _ _ (by omega)).trans (by go_simp)
        have m5 : VA.cell? ⟨mb, mo + j * 6 + 5, none⟩ = some (.int .i64 d.h) := (hc _ _ (by omega)).trans (by go_simp)
        have bX : w.heap.size < VA.heap.size := hl _ (by omega)
        have bM : mb < VA.heap.size := hl _ (by omega)
        have HBV := HB
        have HYV := Hk.mk (HBY.out _ HB.out)
        have hszv : Hk (w.heap.size ≤ VA.heap.size) := ⟨by omega⟩
        clear HB
        clear hc hf hl hn' hm
        have L0V : VA.heap.size ≤ VA.heap.size := Nat.le_refl _
        apply reg_merge
        intro HG1
        refine wp_region_held_drew (S := fun Z => (∀ b o, b < VA.heap.size → Z.cell? ⟨b, o, none⟩ = VA.cell? ⟨b, o, none⟩)) (by kernel_rfl) (fun _ _ _ => rfl) (fun hHeld => ?_)
        have HB : Hk (Below VA.heap.size VA VA.drew) := ⟨(Below.refl _ _).drew⟩
        obtain ⟨WZ, hWe⟩ : ∃ WZ, VA.drew = WZ := ⟨_, rfl⟩
        rw [hWe] at HB hHeld ⊢
        clear hWe
        refine wpAnyH_take (i := 0) (v := ?_) rfl (by kernel_rfl) (by kernel_rfl) (by kernel_rfl) (fun _ _ _ h => h) (Or.inl ⟨by rfl, fun wX hSw => ?_⟩) (by assumption) ?_
        rotate_left
        · (try dsimp only at hSw); go_simp; try with_reducible rfl
        (try simp only [Act.put, List.getElem_toArray, List.getElem_cons_succ, List.getElem_cons_zero, List.setIfInBounds_toArray, List.set_cons_zero, List.set_cons_succ])
        refine wpAnyH_take (i := 1) (v := ?_) rfl (by kernel_rfl) (by kernel_rfl) (by kernel_rfl) (fun _ _ _ h => h) (Or.inl ⟨by rfl, fun wX hSw => ?_⟩) (by assumption) ?_
        rotate_left
        · (try dsimp only at hSw); go_simp; try with_reducible rfl
        (try simp only [Act.put, List.getElem_toArray, List.getElem_cons_succ, List.getElem_cons_zero, List.setIfInBounds_toArray, List.set_cons_zero, List.set_cons_succ])
        refine wpAnyH_take (i := 2) (v := ?_) rfl (by kernel_rfl) (by kernel_rfl) (by kernel_rfl) (fun _ _ _ h => h) (Or.inl ⟨by rfl, fun wX hSw => ?_⟩) (by assumption) ?_
        rotate_left
        · (try dsimp only at hSw); go_simp; try with_reducible rfl
        (try simp only [Act.put, List.getElem_toArray, List.getElem_cons_succ, List.getElem_cons_zero, List.setIfInBounds_toArray, List.set_cons_zero, List.set_cons_succ])
        refine wpAnyH_take (i := 3) (v := ?_) rfl (by kernel_rfl) (by kernel_rfl) (by kernel_rfl) (fun _ _ _ h => h) (Or.inl ⟨by rfl, fun wX hSw => ?_⟩) (by assumption) ?_
        rotate_left
        · (try dsimp only at hSw); go_simp; try with_reducible rfl
        (try simp only [Act.put, List.getElem_toArray, List.getElem_cons_succ, List.getElem_cons_zero, List.setIfInBounds_toArray, List.set_cons_zero, List.set_cons_succ])
        refine wpAnyH_take (i := 4) (v := ?_) rfl (by kernel_rfl) (by kernel_rfl) (by kernel_rfl) (fun _ _ _ h => h) (Or.inl ⟨by rfl, fun wX hSw => ?_⟩) (by assumption) ?_
        rotate_left
        · (try dsimp only at hSw); go_simp; try with_reducible rfl
        (try simp only [Act.put, List.getElem_toArray, List.getElem_cons_succ, List.getElem_cons_zero, List.setIfInBounds_toArray, List.set_cons_zero, List.set_cons_succ])
        refine wpAnyH_take (i := 5) (v := ?_) rfl (by kernel_rfl) (by kernel_rfl) (by kernel_rfl) (fun _ _ _ h => h) (Or.inl ⟨by rfl, fun wX hSw => ?_⟩) (by assumption) ?_
        rotate_left
        · (try dsimp only at hSw); go_simp; try with_reducible rfl
        (try simp only [Act.put, List.getElem_toArray, List.getElem_cons_succ, List.getElem_cons_zero, List.setIfInBounds_toArray, List.set_cons_zero, List.set_cons_succ])
        refine wpAnyH_take (i := 6) (v := ?_) rfl (by kernel_rfl) (by kernel_rfl) (by kernel_rfl) (fun _ _ _ h => h) (Or.inl ⟨by rfl, fun wX hSw => ?_⟩) (by assumption) ?_
        rotate_left
        · (try dsimp only at hSw); go_simp; try with_reducible rfl
        (try simp only [Act.put, List.getElem_toArray, List.getElem_cons_succ, List.getElem_cons_zero, List.setIfInBounds_toArray, List.set_cons_zero, List.set_cons_succ])
        refine wpAnyH_take (i := 7) (v := ?_) rfl (by kernel_rfl) (by kernel_rfl) (by kernel_rfl) (fun _ _ _ h => h) (Or.inl ⟨by rfl, fun wX hSw => ?_⟩) (by assumption) ?_
        rotate_left
        · (try dsimp only at hSw); go_simp; try with_reducible rfl
        (try simp only [Act.put, List.getElem_toArray, List.getElem_cons_succ, List.getElem_cons_zero, List.setIfInBounds_toArray, List.set_cons_zero, List.set_cons_succ])
        refine wpAnyH_ready (rs := [8]) (by kernel_rfl) (by simp) ?_
        refine AllReadyH.cons rfl (fun K hK => ?_) (AllReadyH.nil)
        · skip
          go_simp
          ((go_at_call 17; (with_reducible refine (rbadd_no W H a n c xs va m vc l d E _ ((HYV.out.below HB.out hszv.out).mono (Nat.le_trans hszv.out (kw_le HB.out L0V))) ((own8_bq HO.out).below HB.out (Nat.le_refl _) |>.mono (kw_le HB.out L0V)) (by omega) hvc hvm' HFO.out MM EV hE).mono ?_); rintro e z ⟨rfl, hb⟩))
          replace HB := Hk.mk (kw_step HB.out L0V hb)
          clear hb
          refine hK.out _ _ ?_ (fun hHeld2 => ?_)
          · exact kw_s HB.out
          clear hK K hHeld
          have hHeld := hHeld2
          clear hHeld2
          (try simp only [Act.put, List.getElem_toArray, List.getElem_cons_succ, List.getElem_cons_zero, List.setIfInBounds_toArray, List.set_cons_zero, List.set_cons_succ])
          refine wpAnyH_take (i := 9) (v := ?_) rfl (by kernel_rfl) (by kernel_rfl) (by kernel_rfl) (fun _ _ _ h => h) (Or.inl ⟨by rfl, fun wX hSw => ?_⟩) (by assumption) ?_
          rotate_left
          · (try dsimp only at hSw); go_simp; try with_reducible rfl
          (try simp only [Act.put, List.getElem_toArray, List.getElem_cons_succ, List.getElem_cons_zero, List.setIfInBounds_toArray, List.set_cons_zero, List.set_cons_succ])
          refine wpAnyH_take (i := 10) (v := ?_) rfl (by kernel_rfl) (by kernel_rfl) (by kernel_rfl) (fun _ _ _ h => h) (Or.inl ⟨by rfl, fun wX hSw => ?_⟩) (by assumption) ?_
          rotate_left
          · (try dsimp only at hSw); go_simp; try with_reducible rfl
          (try simp only [Act.put, List.getElem_toArray, List.getElem_cons_succ, List.getElem_cons_zero, List.setIfInBounds_toArray, List.set_cons_zero, List.set_cons_succ])
          refine wpAnyH_take (i := 11) (v := ?_) rfl (by kernel_rfl) (by kernel_rfl) (by kernel_rfl) (fun _ _ _ h => h) (Or.inl ⟨by rfl, fun wX hSw => ?_⟩) (by assumption) ?_
          rotate_left
          · (try dsimp only at hSw); go_simp; try with_reducible rfl
          (try simp only [Act.put, List.getElem_toArray, List.getElem_cons_succ, List.getElem_cons_zero, List.setIfInBounds_toArray, List.set_cons_zero, List.set_cons_succ])
          refine wpAnyH_take (i := 12) (v := ?_) rfl (by kernel_rfl) (by kernel_rfl) (by kernel_rfl) (fun _ _ _ h => h) (Or.inl ⟨by rfl, fun wX hSw => ?_⟩) (by assumption) ?_
          rotate_left
          · (try dsimp only at hSw); go_simp; try with_reducible rfl
          (try simp only [Act.put, List.getElem_toArray, List.getElem_cons_succ, List.getElem_cons_zero, List.setIfInBounds_toArray, List.set_cons_zero, List.set_cons_succ])
          refine wpAnyH_take (i := 13) (v := ?_) rfl (by kernel_rfl) (by kernel_rfl) (by kernel_rfl) (fun _ _ _ h => h) (Or.inl ⟨by rfl, fun wX hSw => ?_⟩) (by assumption) ?_
          rotate_left
          · (try dsimp only at hSw); go_simp; try with_reducible rfl
          (try simp only [Act.put, List.getElem_toArray, List.getElem_cons_succ, List.getElem_cons_zero, List.setIfInBounds_toArray, List.set_cons_zero, List.set_cons_succ])
          refine reg_cast (l' := #[true, true, true, true, true, true, true, true, true, true, true, true, true, true]) (by kernel_rfl) ?_
          revert hHeld
          revert HB
          revert z
          exact HG1.out
        intro WZ HB hHeld
        refine wpAnyH_done (by kernel_rfl) ?_ _
        replace HO := Hk.mk (HO.out.below HB.out)
        replace HB := Hk.mk (kw_step HBV.out hNW HB.out)
        clear q0 q1 q2 q4 m0 m1 m2 m3 m4 m5 hHeld HBV HYV hszv L0V
        clear bX bM
        obtain ⟨hc, hf, hl, hn', hm⟩ := kw_rules HB.out hNW
        go_upto_region 12 with (go_at_call 15; (with_reducible refine (copyb_any va m vc _ l _ (own8_bq HO.out) (Nat.le_refl _) (by omega)).mono ?_); rintro e z ⟨v8, rfl, ho8, hb⟩; replace HO := Hk.mk (HO.out.below hb); replace HB := Hk.mk (kw_step HB.out hNW hb); clear hb; clear hc hf hl hn' hm; obtain ⟨hc, hf, hl, hn', hm⟩ := kw_rules HB.out hNW)
        have HI := Hk.mk ho8
        obtain ⟨a8, c8, rfl, hc8, hm8, -, -⟩ := ho8.bq
        clear ho8
        generalize z = VA at *
        have q0 : VA.cell? ⟨w.heap.size, 0, none⟩ = some (.int .i64 W) := (hc _ _ (by omega)).trans (by go_simp)
        have q1 : VA.cell? ⟨w.heap.size, 1, none⟩ = some (.int .i64 H) := (hc _ _ (by omega)).trans (by go_simp)
        have q2 : VA.cell? ⟨w.heap.size, 2, none⟩ = some (.slice a n c) := (hc _ _ (by omega)).trans (by go_simp)
        have q4 : VA.cell? ⟨w.heap.size, 4, none⟩ = some (.slice (some ⟨mb, mo, none⟩) mn mc) := (hc _ _ (by omega)).trans (by go_simp)
        have m0 : VA.cell? ⟨mb, mo + j * 6, none⟩ = some (.int .i64 d.i) := (hc _ _ (by omega)).trans (by go_simp)
        have m1 : VA.cell? ⟨mb, mo + j * 6 + 1, none⟩ = some (.int .i64 d.o) := (hc _ _ (by omega)).trans (by go_simp)
        have m2 : VA.cell? ⟨mb, mo + j * 6 + 2, none⟩ = some (.int .i64 d.x) := (hc _ _ (by omega)).trans (by go_simp)
        have m3 : VA.cell? ⟨mb, mo + j * 6 + 3, none⟩ = some (.int .i64 d.y) := (hc _ _ (by omega)).trans (by go_simp)
        have m4 : VA.cell? ⟨mb, mo + j * 6 + 4, none⟩ = some (.int .i64 d.w) := (hc _ _ (by omega)).trans (by go_simp)
        have m5 : VA.cell? ⟨mb, mo + j * 6 + 5, none⟩ = some (.int .i64 d.h) := (hc _ _ (by omega)).trans (by go_simp)
        have bX : w.heap.size < VA.heap.size := hl _ (by omega)
        have bM : mb < VA.heap.size := hl _ (by omega)
        have HBV := HB
        have HYV := Hk.mk (HBY.out _ HB.out)
        have hszv : Hk (w.heap.size ≤ VA.heap.size) := ⟨by omega⟩
        clear HB
        clear hc hf hl hn' hm
        have L0V : VA.heap.size ≤ VA.heap.size := Nat.le_refl _
        apply reg_merge
        intro HG1
        refine wp_region_held_drew (S := fun Z => (∀ b o, b < VA.heap.size → Z.cell? ⟨b, o, none⟩ = VA.cell? ⟨b, o, none⟩)) (by kernel_rfl) (fun _ _ _ => rfl) (fun hHeld => ?_)
        have HB : Hk (Below VA.heap.size VA VA.drew) := ⟨(Below.refl _ _).drew⟩
        obtain ⟨WZ, hWe⟩ : ∃ WZ, VA.drew = WZ := ⟨_, rfl⟩
        rw [hWe] at HB hHeld ⊢
        clear hWe
        refine wpAnyH_take (i := 0) (v := ?_) rfl (by kernel_rfl) (by kernel_rfl) (by kernel_rfl) (fun _ _ _ h => h) (Or.inl ⟨by rfl, fun wX hSw => ?_⟩) (by assumption) ?_
        rotate_left
        · (try dsimp only at hSw); go_simp; try with_reducible rfl
        (try simp only [Act.put, List.getElem_toArray, List.getElem_cons_succ, List.getElem_cons_zero, List.setIfInBounds_toArray, List.set_cons_zero, List.set_cons_succ])
        refine wpAnyH_take (i := 1) (v := ?_) rfl (by kernel_rfl) (by kernel_rfl) (by kernel_rfl) (fun _ _ _ h => h) (Or.inl ⟨by rfl, fun wX hSw => ?_⟩) (by assumption) ?_
        rotate_left
        · (try dsimp only at hSw); go_simp; try with_reducible rfl
        (try simp only [Act.put, List.getElem_toArray, List.getElem_cons_succ, List.getElem_cons_zero, List.setIfInBounds_toArray, List.set_cons_zero, List.set_cons_succ])
        refine wpAnyH_take (i := 2) (v := ?_) rfl (by kernel_rfl) (by kernel_rfl) (by kernel_rfl) (fun _ _ _ h => h) (Or.inl ⟨by rfl, fun wX hSw => ?_⟩) (by assumption) ?_
        rotate_left
        · (try dsimp only at hSw); go_simp; try with_reducible rfl
        (try simp only [Act.put, List.getElem_toArray, List.getElem_cons_succ, List.getElem_cons_zero, List.setIfInBounds_toArray, List.set_cons_zero, List.set_cons_succ])
        refine wpAnyH_take (i := 3) (v := ?_) rfl (by kernel_rfl) (by kernel_rfl) (by kernel_rfl) (fun _ _ _ h => h) (Or.inl ⟨by rfl, fun wX hSw => ?_⟩) (by assumption) ?_
        rotate_left
        · (try dsimp only at hSw); go_simp; try with_reducible rfl
        (try simp only [Act.put, List.getElem_toArray, List.getElem_cons_succ, List.getElem_cons_zero, List.setIfInBounds_toArray, List.set_cons_zero, List.set_cons_succ])
        refine wpAnyH_take (i := 4) (v := ?_) rfl (by kernel_rfl) (by kernel_rfl) (by kernel_rfl) (fun _ _ _ h => h) (Or.inl ⟨by rfl, fun wX hSw => ?_⟩) (by assumption) ?_
        rotate_left
        · (try dsimp only at hSw); go_simp; try with_reducible rfl
        (try simp only [Act.put, List.getElem_toArray, List.getElem_cons_succ, List.getElem_cons_zero, List.setIfInBounds_toArray, List.set_cons_zero, List.set_cons_succ])
        refine wpAnyH_take (i := 5) (v := ?_) rfl (by kernel_rfl) (by kernel_rfl) (by kernel_rfl) (fun _ _ _ h => h) (Or.inl ⟨by rfl, fun wX hSw => ?_⟩) (by assumption) ?_
        rotate_left
        · (try dsimp only at hSw); go_simp; try with_reducible rfl
        (try simp only [Act.put, List.getElem_toArray, List.getElem_cons_succ, List.getElem_cons_zero, List.setIfInBounds_toArray, List.set_cons_zero, List.set_cons_succ])
        refine wpAnyH_take (i := 6) (v := ?_) rfl (by kernel_rfl) (by kernel_rfl) (by kernel_rfl) (fun _ _ _ h => h) (Or.inl ⟨by rfl, fun wX hSw => ?_⟩) (by assumption) ?_
        rotate_left
        · (try dsimp only at hSw); go_simp; try with_reducible rfl
        (try simp only [Act.put, List.getElem_toArray, List.getElem_cons_succ, List.getElem_cons_zero, List.setIfInBounds_toArray, List.set_cons_zero, List.set_cons_succ])
        refine wpAnyH_take (i := 7) (v := ?_) rfl (by kernel_rfl) (by kernel_rfl) (by kernel_rfl) (fun _ _ _ h => h) (Or.inl ⟨by rfl, fun wX hSw => ?_⟩) (by assumption) ?_
        rotate_left
        · (try dsimp only at hSw); go_simp; try with_reducible rfl
        (try simp only [Act.put, List.getElem_toArray, List.getElem_cons_succ, List.getElem_cons_zero, List.setIfInBounds_toArray, List.set_cons_zero, List.set_cons_succ])
        refine wpAnyH_ready (rs := [8]) (by kernel_rfl) (by simp) ?_
        refine AllReadyH.cons rfl (fun K hK => ?_) (AllReadyH.nil)
        · skip
          go_simp
          ((go_at_call 18; (with_reducible refine (badd_no W H a n c xs a8 m c8 l d E _ ((HYV.out.below HB.out hszv.out).mono (Nat.le_trans hszv.out (kw_le HB.out L0V))) ((own8_bq HI.out).below HB.out (Nat.le_refl _) |>.mono (kw_le HB.out L0V)) (by omega) (by omega) EV hE).mono ?_); rintro e z ⟨rfl, hb⟩))
          replace HB := Hk.mk (kw_step HB.out L0V hb)
          clear hb
          refine hK.out _ _ ?_ (fun hHeld2 => ?_)
          · exact kw_s HB.out
          clear hK K hHeld
          have hHeld := hHeld2
          clear hHeld2
          (try simp only [Act.put, List.getElem_toArray, List.getElem_cons_succ, List.getElem_cons_zero, List.setIfInBounds_toArray, List.set_cons_zero, List.set_cons_succ])
          refine wpAnyH_take (i := 9) (v := ?_) rfl (by kernel_rfl) (by kernel_rfl) (by kernel_rfl) (fun _ _ _ h => h) (Or.inl ⟨by rfl, fun wX hSw => ?_⟩) (by assumption) ?_
          rotate_left
          · (try dsimp only at hSw); go_simp; try with_reducible rfl
          (try simp only [Act.put, List.getElem_toArray, List.getElem_cons_succ, List.getElem_cons_zero, List.setIfInBounds_toArray, List.set_cons_zero, List.set_cons_succ])
          refine wpAnyH_take (i := 10) (v := ?_) rfl (by kernel_rfl) (by kernel_rfl) (by kernel_rfl) (fun _ _ _ h => h) (Or.inl ⟨by rfl, fun wX hSw => ?_⟩) (by assumption) ?_
          rotate_left
          · (try dsimp only at hSw); go_simp; try with_reducible rfl
          (try simp only [Act.put, List.getElem_toArray, List.getElem_cons_succ, List.getElem_cons_zero, List.setIfInBounds_toArray, List.set_cons_zero, List.set_cons_succ])
          refine wpAnyH_take (i := 11) (v := ?_) rfl (by kernel_rfl) (by kernel_rfl) (by kernel_rfl) (fun _ _ _ h => h) (Or.inl ⟨by rfl, fun wX hSw => ?_⟩) (by assumption) ?_
          rotate_left
          · (try dsimp only at hSw); go_simp; try with_reducible rfl
          (try simp only [Act.put, List.getElem_toArray, List.getElem_cons_succ, List.getElem_cons_zero, List.setIfInBounds_toArray, List.set_cons_zero, List.set_cons_succ])
          refine wpAnyH_take (i := 12) (v := ?_) rfl (by kernel_rfl) (by kernel_rfl) (by kernel_rfl) (fun _ _ _ h => h) (Or.inl ⟨by rfl, fun wX hSw => ?_⟩) (by assumption) ?_
          rotate_left
          · (try dsimp only at hSw); go_simp; try with_reducible rfl
          (try simp only [Act.put, List.getElem_toArray, List.getElem_cons_succ, List.getElem_cons_zero, List.setIfInBounds_toArray, List.set_cons_zero, List.set_cons_succ])
          refine wpAnyH_take (i := 13) (v := ?_) rfl (by kernel_rfl) (by kernel_rfl) (by kernel_rfl) (fun _ _ _ h => h) (Or.inl ⟨by rfl, fun wX hSw => ?_⟩) (by assumption) ?_
          rotate_left
          · (try dsimp only at hSw); go_simp; try with_reducible rfl
          (try simp only [Act.put, List.getElem_toArray, List.getElem_cons_succ, List.getElem_cons_zero, List.setIfInBounds_toArray, List.set_cons_zero, List.set_cons_succ])
          refine reg_cast (l' := #[true, true, true, true, true, true, true, true, true, true, true, true, true, true]) (by kernel_rfl) ?_
          revert hHeld
          revert HB
          revert z
          exact HG1.out
        intro WZ HB hHeld
        refine wpAnyH_done (by kernel_rfl) ?_ _
        have HIq : Hk (∀ X, Below VA.heap.size VA X → Bq X VA.heap.size a8 m l) := ⟨fun X hX => (own8_bq HI.out).below hX (Nat.le_refl _)⟩
        have HLq : Hk (∀ X, Below VA.heap.size VA X → Bq X VA.heap.size va m l) := ⟨fun X hX => (own8_bq HO.out).below hX (Nat.le_refl _)⟩
        have HY3 : Hk (∀ X, Below VA.heap.size VA X → By X X.heap.size a n xs) := ⟨fun X hX => ((HYV.out).below hX hszv.out).mono (Nat.le_trans hszv.out hX.size)⟩
        have hsb : Hk (w.heap.size + 1 ≤ VA.heap.size) := ⟨by omega⟩
        clear m0 m1 m2 m3 m4 m5 q4 HI HYV hszv hHeld
        obtain ⟨hc, hf, hl, hn', hm⟩ := kw_rules HB.out L0V
        go_wp2_with (first | (go_at_call 20; (with_reducible refine (bcheck_as 0 W H a n c xs a8 m c8 l _ (HY3.out _ HB.out) ((HIq.out _ HB.out).mono HB.out.size) (by omega) (by omega) HCK).mono ?_); rintro e z ⟨rfl, hb⟩; replace HB := Hk.mk (kw_step HB.out L0V hb); clear hb; clear hc hf hl hn' hm; obtain ⟨hc, hf, hl, hn', hm⟩ := kw_rules HB.out L0V) | (go_at_call 19; (with_reducible refine (num8_any _ _).mono ?_); rintro e z ⟨rfl, rfl⟩) | (go_at_call 21; (with_reducible refine (eqbd_yes none none 0 0 0 0 0 [] _ (Bq.nil _ _ _) (Bq.nil _ _ _) (by omega)).mono ?_); rintro e z ⟨rfl, m2, rfl⟩; replace HB := Hk.mk (below_drewN HB.out m2); (try rw [World.drewN_drewN] at HB); clear hc hf hl hn' hm; obtain ⟨hc, hf, hl, hn', hm⟩ := kw_rules HB.out L0V) | (go_at_call 21; (with_reducible refine (eqbd_yes a8 va m c8 vc _ _ l _ (HIq.out _ HB.out) (HLq.out _ HB.out) (by omega)).mono ?_); rintro e z ⟨rfl, m3, rfl⟩; replace HB := Hk.mk (below_drewN HB.out m3); (try rw [World.drewN_drewN] at HB); clear hc hf hl hn' hm; obtain ⟨hc, hf, hl, hn', hm⟩ := kw_rules HB.out L0V) | (go_at_call 22; (with_reducible refine (spoil8 (.slice none 0 0) 0 _ [] _ (OwnB8.nil _ _) (Nat.le_refl _) (by omega)).mono ?_); rintro e z ⟨rfl, hb⟩; replace HB := Hk.mk (kw_step HB.out L0V hb); clear hb; clear hc hf hl hn' hm; obtain ⟨hc, hf, hl, hn', hm⟩ := kw_rules HB.out L0V))
        exact ⟨⟨j + 1, m, l, by go_num, by omega, by omega, ⟨HO.out.below HB.out⟩, ⟨HBV.out.trans (HB.out.mono hsb.out)⟩⟩, by simp [intOf]; omega⟩
    · go_wp2_with (go_at_call 23; (with_reducible refine (wakes8_any _).mono ?_); rintro e z ⟨rfl, hb⟩; replace HB := Hk.mk (kw_step HB.out hNW hb); clear hb; clear hc hf hl hn' hm; obtain ⟨hc, hf, hl, hn', hm⟩ := kw_rules HB.out hNW)
      all_goals
        go_ret
        exact ⟨rfl, HTR.out _ HB.out⟩
theorem buildAdds_walk (v : Value) (w : World) (rows : Asks8 w v) :
    Calls Try.prog 3 #[v] w fun e w' => e = .returned (.bool true) ∧ Below w.heap.size w w' := by
  obtain ⟨W, H, a, n, c, xs, la, ln, lc, bs, ma, mn, mc, ms, ia, im, ic, js, rfl, hW, hH, hn, hlc, hcc, hby, hbq, hi, hmc, hc2, hmq, hj, him, hnq⟩ := rows
  by_cases g : gtA n ln mn im = true
  · exact buildAdds_big W H a n c xs la ln lc bs ma mn mc ia im ic w hby hbq hn (by omega) ⟨g⟩
  · have g' : gtA n ln mn im = false := by simpa using g
    have hs : n ≤ 700 ∧ ln ≤ 30 ∧ mn ≤ 60 := by unfold gtA at g'; simp at g'; omega
    exact buildAdds_go W H a n c xs la ln lc bs ma mn mc ia im ic w hby hbq hs.1 hs.2.1 hs.2.2 ms hmq ⟨g'⟩

theorem buildAdds_own : ownKnob Try.prog.godebug = none := by kernel_rfl
theorem buildAdds_laidOut : laidOutB Try.prog = true := by kernel_rfl
set_option maxRecDepth 100000 in
theorem buildAdds_lifted (os : Os) (started : os.Started) (H : Type) (enc : TypeId × Value → H) :
    ReturnsInHanded {} Try.checked os 3 .any (Rows.buildAddsSpec.pre6 enc Try.prog Try.f3 Rows.buildAddsRow.domain false) (Rows.buildAddsSpec.post enc Try.prog Try.f3 false true false false) := by
  refine returnsInHanded_of_change (C := Try.checked) buildAdds_own started (by kernel_rfl) Try.func3
    (ChangeSpec.witness6 (enc := enc) (C := Try.checked) false ⟨#[], #[.agg #[.int .i64 0, .int .i64 0, .slice none 0 0, .slice none 0 0, .slice none 0 0, .slice none 0 0]], []⟩ 8 (by kernel_rfl) (by kernel_rfl) (by kernel_rfl) (by kernel_rfl)) ?_
  intro W base args ds gs before hval0 hW hcnd _
  have hval : ∀ (j : Nat) t v, Try.f3.params[j]? = some t → args[j]? = some v → Value.okWide Try.prog W .any base t v := hval0
  have hW' := hW
  obtain ⟨p, q, hA0, hV, rfl, hfz, hnd⟩ := hW
  have hA : DataW.TrodAll enc Try.prog W 0 (fun _ => true) true Try.f3.params.toList args.toList ds p := hA0
  rw [Try.params3] at hA hval
  obtain ⟨v0, vs0, d0, ds0, p0, q0, hargs, rfl, rfl, h0, r0⟩ := trodAll_cons hA
  obtain ⟨rfl, rfl, rfl⟩ := trodAll_nil r0
  obtain rfl : args = #[v0] := by cases args; simp_all
  obtain ⟨rfl, rfl⟩ := trodVars_none hV
  obtain ⟨cs0, rfl, hcs0⟩ := okWide_struct Try.underlying28 (hval 0 28 v0 rfl rfl)
  have k0 := h0
  have lt0 : ∀ x ∈ p0, x.block < W.heap.size := by obtain ⟨m, hm⟩ := k0; exact DataW.trod_lt m _ _ _ hm
  have rows : Asks8 W (.agg cs0) := by obtain ⟨fuel, hf⟩ := h0; exact asks8_of hcs0 hf
  clear hA0 hval0
  refine (buildAdds_walk (.agg cs0) W rows).mono fun e W' ⟨he, bel⟩ => ?_
  subst he
  exact ⟨_, rfl, _, _, _, [], _, [], hW', trodAll_mk1 (shut_bool Try.underlying4 _), (trodAll_cons_mk (Below.trod buildAdds_laidOut (by kernel_rfl) (of_decide_eq_true (by kernel_rfl)) k0 bel lt0) trodAll_mk0), rfl, bel.frame _, fun h => by cases h⟩
theorem buildAdds_over : Rows.buildAddsRow.holds Try.pinned (OpenSpec.ofChange Rows.buildAddsSpec) :=
  OpenClaim.holds_of_wide 3 Try.f3 rfl rfl rfl rfl rfl rfl rfl ⟨rfl, rfl, rfl, rfl, rfl⟩ rfl rfl rfl rfl rfl (by kernel_rfl) Try.func3 (by kernel_rfl)
    (of_decide_eq_true (by kernel_rfl)) (by unfold Func.isWrapper; first | (rw [if_pos (by decide +kernel)]; kernel_rfl) | (rw [if_neg (by decide +kernel)]; exact ⟨rfl, rfl⟩))
    (fun os started H enc _ => buildAdds_lifted os started H enc)
/-- The given statement of BuildAdds. -/
theorem buildAdds_holds : Rows.BuildAddsSaid := buildAdds_over
end Go.Proofs.Ytjjodfdmbiebnaa

