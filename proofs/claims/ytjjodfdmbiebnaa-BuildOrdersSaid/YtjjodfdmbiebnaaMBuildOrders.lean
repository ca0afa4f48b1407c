import Derived.Deep.QuietTactic
import Derived.BigQuiet
import Derived.Deep.RegionWith
import Derived.Deep.RegionHeld3
import Derived.Deep.DeepCutAuto
import Derived.Deep.DeepFit
import Derived.Outline
import Derived.Test.YtjjodfdmbiebnaaRn
import Derived.Test.YtjjodfdmbiebnaaRo
/- For every argument, BuildOrders answers true and leaves its argument as it was: added in another order it is the same, taken away and added again too; as many tiles are covered as their sides say. No condition. -/
namespace Go.Proofs.Ytjjodfdmbiebnaa
open Go.ChangeShapes Go.WideShapes Go.ChangeAt Go.RowKit Go.Deep
set_option linter.unusedVariables false
set_option linter.unusedSimpArgs false
theorem ckE_one {W H : Int} {n : Nat} {xs : List Int} {bs : List Bd} (h : ¬ MOk W H n xs bs) : ckE W H n xs bs = 1 := by unfold ckE; rw [if_neg h]
theorem ckE_yes {W H : Int} {n : Nat} {xs : List Int} {bs : List Bd} (h : MOk W H n xs bs) : ckE W H n xs bs = 0 := by unfold ckE; rw [if_pos h]
theorem cntB_le (f : Nat → Bool) : ∀ n, cntB f n ≤ n
  | 0 => Nat.le_refl _
  | n + 1 => by unfold cntB; have := cntB_le f n; split <;> omega
theorem cntB_step (f : Nat → Bool) (n : Nat) : cntB f (n + 1) = cntB f n + (if f n then 1 else 0) := rfl
theorem cntB_mono (f : Nat → Bool) {m : Nat} : ∀ {n : Nat}, m ≤ n → cntB f m ≤ cntB f n
  | 0, h => by rw [show m = 0 by omega]; exact Nat.le_refl _
  | n + 1, h => by
    by_cases c : m = n + 1
    · rw [c]; exact Nat.le_refl _
    · have := cntB_mono f (show m ≤ n by omega)
      rw [cntB_step]; omega
theorem cnt_mono {W H : Int} {n : Nat} {xs : List Int} {bs : List Bd} (M : MOk W H n xs bs) {T : Nat} (hT : T < n) (hc : cvB W bs (T : Int) = true) : cntB (fun t => cvB W bs (t : Int)) T < areaL bs := by
  have h1 := cntB_mono (fun t => cvB W bs (t : Int)) (show T + 1 ≤ n by omega)
  rw [cnt_all M, cntB_step] at h1
  simp only [hc, if_true] at h1
  omega
theorem By.byt_at {w : World} {B n : Nat} {a : Option Addr} {xs : List Int} (h : By w B a n xs) {k : Nat} (hk : k < n) : 0 ≤ xs.getD k 0 ∧ xs.getD k 0 ≤ 255 := by
  have hl := h.len
  have : xs.getD k 0 ∈ xs := by
    rw [List.getD, List.getElem?_eq_getElem (by omega)]
    exact List.getElem_mem _
  have := h.byt _ this
  unfold Fn.Byt at this
  omega
set_option maxRecDepth 100000 in
set_option maxHeartbeats 3200000 in
theorem buildOrders_big (W H : Int) (a : Option Addr) (n c : Nat) (xs : List Int) (la : Option Addr) (ln lc : Nat) (bs : List Bd) (ma : Option Addr) (mn mc : Nat) (ia : Option Addr) (im ic : Nat) (w : World) (h : By w w.heap.size a n xs) (hb0 : Bq w w.heap.size la ln bs) (hn : n ≤ 9223372036854775807) (hln : ln ≤ 9223372036854775807) (HV : Hk (gtA n ln mn im = true)) :
    Calls Try.prog 6 #[.agg #[.int .i64 W, .int .i64 H, .slice a n c, .slice la ln lc, .slice ma mn mc, .slice ia im ic]] w fun e w' => e = .returned (.bool true) ∧ Below w.heap.size w w' := by
  have HWB : Hk (Below w.heap.size w (w.alloc (.cells #[.int .i64 W, .int .i64 H, .slice a n c, .slice la ln lc, .slice ma mn mc, .slice ia im ic] 28))) := ⟨(Below.refl _ _).alloc (Nat.le_refl _) _⟩
  have hNW : w.heap.size + 1 ≤ (w.alloc (.cells #[.int .i64 W, .int .i64 H, .slice a n c, .slice la ln lc, .slice ma mn mc, .slice ia im ic] 28)).heap.size := by simp
  have HB : Hk (Below (w.heap.size + 1) (w.alloc (.cells #[.int .i64 W, .int .i64 H, .slice a n c, .slice la ln lc, .slice ma mn mc, .slice ia im ic] 28)) (w.alloc (.cells #[.int .i64 W, .int .i64 H, .slice a n c, .slice la ln lc, .slice ma mn mc, .slice ia im ic] 28))) := ⟨Below.refl _ _⟩
  have HTR : Hk (∀ X, Below (w.heap.size + 1) (w.alloc (.cells #[.int .i64 W, .int .i64 H, .slice a n c, .slice la ln lc, .slice ma mn mc, .slice ia im ic] 28)) X → Below w.heap.size w X) := ⟨fun X hX => HWB.out.trans (hX.mono (by omega))⟩
  have HBY := Hk.mk (fun (X : World) (hX : Below (w.heap.size + 1) (w.alloc (.cells #[.int .i64 W, .int .i64 H, .slice a n c, .slice la ln lc, .slice ma mn mc, .slice ia im ic] 28)) X) => h.below (HTR.out X hX) (Nat.le_refl _))
  have HBQ := Hk.mk (fun (X : World) (hX : Below (w.heap.size + 1) (w.alloc (.cells #[.int .i64 W, .int .i64 H, .slice a n c, .slice la ln lc, .slice ma mn mc, .slice ia im ic] 28)) X) => hb0.below (HTR.out X hX) (Nat.le_refl _))
  clear h hb0
  obtain ⟨hc, hf, hl, hn', hm⟩ := kw_rules HB.out hNW
  go_enter Try.func6, Try.ntmps6
  go_wp2_with (go_at_call 14; (with_reducible refine (heavy8_as true W H a n c la ln lc ma mn mc ia im ic _ (by omega) (by omega) HV).mono ?_); rintro e z ⟨rfl, hb⟩; replace HB := Hk.mk (kw_step HB.out hNW hb); clear hb; clear hc hf hl hn' hm; obtain ⟨hc, hf, hl, hn', hm⟩ := kw_rules HB.out hNW)
  go_ret
  exact ⟨rfl, HTR.out _ HB.out⟩
set_option maxRecDepth 100000 in
set_option maxHeartbeats 3200000 in
theorem buildOrders_no (W H : Int) (a : Option Addr) (n c : Nat) (xs : List Int) (la : Option Addr) (ln lc : Nat) (bs : List Bd) (ma : Option Addr) (mn mc : Nat) (ia : Option Addr) (im ic : Nat) (w : World) (h : By w w.heap.size a n xs) (hb0 : Bq w w.heap.size la ln bs) (hn : n ≤ 700) (hln : ln ≤ 30) (HV : Hk (gtA n ln mn im = false)) (HCK : Hk (ckE W H n xs bs = 1)) :
    Calls Try.prog 6 #[.agg #[.int .i64 W, .int .i64 H, .slice a n c, .slice la ln lc, .slice ma mn mc, .slice ia im ic]] w fun e w' => e = .returned (.bool true) ∧ Below w.heap.size w w' := by
  have HWB : Hk (Below w.heap.size w (w.alloc (.cells #[.int .i64 W, .int .i64 H, .slice a n c, .slice la ln lc, .slice ma mn mc, .slice ia im ic] 28))) := ⟨(Below.refl _ _).alloc (Nat.le_refl _) _⟩
  have hNW : w.heap.size + 1 ≤ (w.alloc (.cells #[.int .i64 W, .int .i64 H, .slice a n c, .slice la ln lc, .slice ma mn mc, .slice ia im ic] 28)).heap.size := by simp
  have HB : Hk (Below (w.heap.size + 1) (w.alloc (.cells #[.int .i64 W, .int .i64 H, .slice a n c, .slice la ln lc, .slice ma mn mc, .slice ia im ic] 28)) (w.alloc (.cells #[.int .i64 W, .int .i64 H, .slice a n c, .slice la ln lc, .slice ma mn mc, .slice ia im ic] 28))) := ⟨Below.refl _ _⟩
  have HTR : Hk (∀ X, Below (w.heap.size + 1) (w.alloc (.cells #[.int .i64 W, .int .i64 H, .slice a n c, .slice la ln lc, .slice ma mn mc, .slice ia im ic] 28)) X → Below w.heap.size w X) := ⟨fun X hX => HWB.out.trans (hX.mono (by omega))⟩
  have HBY := Hk.mk (fun (X : World) (hX : Below (w.heap.size + 1) (w.alloc (.cells #[.int .i64 W, .int .i64 H, .slice a n c, .slice la ln lc, .slice ma mn mc, .slice ia im ic] 28)) X) => h.below (HTR.out X hX) (Nat.le_refl _))
  have HBQ := Hk.mk (fun (X : World) (hX : Below (w.heap.size + 1) (w.alloc (.cells #[.int .i64 W, .int .i64 H, .slice a n c, .slice la ln lc, .slice ma mn mc, .slice ia im ic] 28)) X) => hb0.below (HTR.out X hX) (Nat.le_refl _))
  clear h hb0
  obtain ⟨hc, hf, hl, hn', hm⟩ := kw_rules HB.out hNW
  go_enter Try.func6, Try.ntmps6
  go_wp2_with (first | (go_at_call 14; (with_reducible refine (heavy8_as false W H a n c la ln lc ma mn mc ia im ic _ (by omega) (by omega) HV).mono ?_); rintro e z ⟨rfl, hb⟩; replace HB := Hk.mk (kw_step HB.out hNW hb); clear hb; clear hc hf hl hn' hm; obtain ⟨hc, hf, hl, hn', hm⟩ := kw_rules HB.out hNW) | (go_at_call 20; (with_reducible refine (bcheck_as 1 W H a n c xs la ln lc bs _ ?_ ?_ (by omega) (by omega) HCK).mono ?_); (exact (HBY.out _ HB.out).mono (hsz1 HB.out)); (exact (HBQ.out _ HB.out).mono (hsz1 HB.out)); rintro e z ⟨rfl, hb⟩; replace HB := Hk.mk (kw_step HB.out hNW hb); clear hb; clear hc hf hl hn' hm; obtain ⟨hc, hf, hl, hn', hm⟩ := kw_rules HB.out hNW) | (go_at_call 19; (with_reducible refine (num8_any _ _).mono ?_); rintro e z ⟨rfl, rfl⟩))
  go_ret
  exact ⟨rfl, HTR.out _ HB.out⟩
set_option maxRecDepth 100000 in
set_option maxHeartbeats 3200000 in
theorem buildOrders_go (W H : Int) (a : Option Addr) (n c : Nat) (xs : List Int) (la : Option Addr) (ln lc : Nat) (bs : List Bd) (ma : Option Addr) (mn mc : Nat) (ia : Option Addr) (im ic : Nat) (w : World) (h : By w w.heap.size a n xs) (hb0 : Bq w w.heap.size la ln bs) (hn : n ≤ 700) (hln : ln ≤ 30) (hlc : ln ≤ lc) (hcc : lc ≤ 9223372036854775807) (hi6 : ∀ k, k < ln → ∀ i, I64' ((bs.getD k default).c i)) (HV : Hk (gtA n ln mn im = false)) (MM : Hk (MOk W H n xs bs)) :
    Calls Try.prog 6 #[.agg #[.int .i64 W, .int .i64 H, .slice a n c, .slice la ln lc, .slice ma mn mc, .slice ia im ic]] w fun e w' => e = .returned (.bool true) ∧ Below w.heap.size w w' := by
  have HWB : Hk (Below w.heap.size w (w.alloc (.cells #[.int .i64 W, .int .i64 H, .slice a n c, .slice la ln lc, .slice ma mn mc, .slice ia im ic] 28))) := ⟨(Below.refl _ _).alloc (Nat.le_refl _) _⟩
  have hNW : w.heap.size + 1 ≤ (w.alloc (.cells #[.int .i64 W, .int .i64 H, .slice a n c, .slice la ln lc, .slice ma mn mc, .slice ia im ic] 28)).heap.size := by simp
  have HB : Hk (Below (w.heap.size + 1) (w.alloc (.cells #[.int .i64 W, .int .i64 H, .slice a n c, .slice la ln lc, .slice ma mn mc, .slice ia im ic] 28)) (w.alloc (.cells #[.int .i64 W, .int .i64 H, .slice a n c, .slice la ln lc, .slice ma mn mc, .slice ia im ic] 28))) := ⟨Below.refl _ _⟩
  have HTR : Hk (∀ X, Below (w.heap.size + 1) (w.alloc (.cells #[.int .i64 W, .int .i64 H, .slice a n c, .slice la ln lc, .slice ma mn mc, .slice ia im ic] 28)) X → Below w.heap.size w X) := ⟨fun X hX => HWB.out.trans (hX.mono (by omega))⟩
  have HBY := Hk.mk (fun (X : World) (hX : Below (w.heap.size + 1) (w.alloc (.cells #[.int .i64 W, .int .i64 H, .slice a n c, .slice la ln lc, .slice ma mn mc, .slice ia im ic] 28)) X) => h.below (HTR.out X hX) (Nat.le_refl _))
  have HBQ := Hk.mk (fun (X : World) (hX : Below (w.heap.size + 1) (w.alloc (.cells #[.int .i64 W, .int .i64 H, .slice a n c, .slice la ln lc, .slice ma mn mc, .slice ia im ic] 28)) X) => hb0.below (HTR.out X hX) (Nat.le_refl _))
  have HCK : Hk (ckE W H n xs bs = 0) := ⟨ckE_yes MM.out⟩
  have HQ0 := Hk.mk hb0
  have HBY0 := Hk.mk h
  have HLN := Hk.mk hb0.len
  have HAS := Hk.mk MM.out.asc
  clear h hb0 hi6
  obtain ⟨hc, hf, hl, hn', hm⟩ := kw_rules HB.out hNW
  go_enter Try.func6, Try.ntmps6
  go_wp2_with (first | (go_at_call 14; (with_reducible refine (heavy8_as false W H a n c la ln lc ma mn mc ia im ic _ (by omega) (by omega) HV).mono ?_); rintro e z ⟨rfl, hb⟩; replace HB := Hk.mk (kw_step HB.out hNW hb); clear hb; clear hc hf hl hn' hm; obtain ⟨hc, hf, hl, hn', hm⟩ := kw_rules HB.out hNW) | (go_at_call 20; (with_reducible refine (bcheck_as 0 W H a n c xs la ln lc bs _ ?_ ?_ (by omega) (by omega) HCK).mono ?_); (exact (HBY.out _ HB.out).mono (hsz1 HB.out)); (exact (HBQ.out _ HB.out).mono (hsz1 HB.out)); rintro e z ⟨rfl, hb⟩; replace HB := Hk.mk (kw_step HB.out hNW hb); clear hb; clear hc hf hl hn' hm; obtain ⟨hc, hf, hl, hn', hm⟩ := kw_rules HB.out hNW) | (go_at_call 19; (with_reducible refine (num8_any _ _).mono ?_); rintro e z ⟨rfl, rfl⟩))
  clear hc hf hl hn' hm
  go_loopw [3, 4, 5] (fun v s i wr => ∃ k m : Nat, i = .int .i64 ((k : Int) - 1) ∧ m + k = ln ∧ s = .int .i64 (areaL (bs.drop k)) ∧ Hk (OwnB8 wr (w.heap.size + 1) v m (bs.drop k)) ∧ Hk (Below (w.heap.size + 1) (w.alloc (.cells #[.int .i64 W, .int .i64 H, .slice a n c, .slice la ln lc, .slice ma mn mc, .slice ia im ic] 28)) wr)) (fun _ _ i _ => (intOf i + 1).toNat)
  case atStart => exact ⟨ln, 0, by go_num, by omega, by rw [List.drop_eq_nil_of_le (by rw [HLN.out]; exact Nat.le_refl _)]; rfl, ⟨by rw [List.drop_eq_nil_of_le (by rw [HLN.out]; exact Nat.le_refl _)]; exact OwnB8.nil _ _⟩, HB⟩
  case round =>
    clear HB
    obtain ⟨k, m, rfl, hmk, rfl, HO, HB⟩ := hrel
    rcases Nat.eq_zero_or_pos k with hk0 | hkp
    case inr =>
      obtain ⟨i, rfl⟩ : ∃ i, k = i + 1 := ⟨k - 1, by omega⟩
      have hil : i < ln := by omega
      have hib : i < bs.length := by rw [HLN.out]; exact hil
      have hki : ((i + 1 : Nat) : Int) - 1 = (i : Int) := by omega
      rw [hki]
      obtain ⟨lb, lo, rfl, hlb, p0, p1, p2, p3, p4, p5⟩ := HQ0.out.six hil
      have EV := Hk.mk (add_dropd MM.out hib)
      have HIN := Hk.mk (ins_dropd HAS.out hib)
      have HAR := Hk.mk (areaL_drop hib)
      have hfm := MM.out.fm _ (getD_memB hib)
      have har := area_le MM.out (bs.drop (i + 1)) (fun b hb => List.mem_of_mem_drop hb)
      have hdl : (bs.drop (i + 1)).length ≤ 30 := by have := HLN.out; simp; omega
      obtain ⟨l, hl0⟩ : ∃ l, bs.drop (i + 1) = l := ⟨_, rfl⟩
      obtain ⟨l2, hl2⟩ : ∃ l2, bs.drop i = l2 := ⟨_, rfl⟩
      obtain ⟨b, hb9⟩ : ∃ b, bs.getD i default = b := ⟨_, rfl⟩
      rw [hl0, hb9] at EV HIN HAR
      rw [hl2] at HIN HAR
      rw [hl0] at HO har hdl
      rw [hb9] at p0 p1 p2 p3 p4 p5 hfm
      rw [hl0]
      obtain ⟨wn, hwn⟩ : ∃ wn : Nat, b.w = wn := ⟨b.w.toNat, by have := hfm.w1; omega⟩
      obtain ⟨hn2, hhn⟩ : ∃ hn : Nat, b.h = hn := ⟨b.h.toNat, by have := hfm.h1; omega⟩
      have q1w := hfm.w2; have q1h := hfm.h2
      have hw4 : wn ≤ 4 := by omega
      have hh4 : hn2 ≤ 4 := by omega
      have HP : Hk ((wn : Int) * (hn2 : Int) = ((wn * hn2 : Nat) : Int) ∧ wn * hn2 ≤ 16 ∧ b.w.toNat * b.h.toNat = wn * hn2) := ⟨by rw [Int.natCast_mul], Nat.mul_le_mul hw4 hh4, by rw [hwn, hhn]; rfl⟩
      obtain ⟨ab, cb, rfl, hcb, hmb, -, -⟩ := HO.out.bq
      have HWH : Hk (b.w = (wn : Int) ∧ b.h = (hn2 : Int)) := ⟨hwn, hhn⟩
      clear hmb hfm q1w q1h hb9 hwn hhn
      have hlbw : lb < w.heap.size + 1 := by omega
      have i0 : (0 : Int) ≤ (i : Int) := by omega
      have i1 : (i : Int) < (ln : Int) := by omega
      obtain ⟨hc, hf, hl, hn', hm⟩ := kw_rules HB.out hNW
      go_wp2_with fail
      have q0 : wr.cell? ⟨w.heap.size, 0, none⟩ = some (.int .i64 W) := (hc _ _ (by omega)).trans (by go_simp)
      have q1 : wr.cell? ⟨w.heap.size, 1, none⟩ = some (.int .i64 H) := (hc _ _ (by omega)).trans (by go_simp)
      have q2 : wr.cell? ⟨w.heap.size, 2, none⟩ = some (.slice a n c) := (hc _ _ (by omega)).trans (by go_simp)
      have q3 : wr.cell? ⟨w.heap.size, 3, none⟩ = some (.slice (some ⟨lb, lo, none⟩) ln lc) := (hc _ _ (by omega)).trans (by go_simp)
      have m0 : wr.cell? ⟨lb, lo + i * 6, none⟩ = some (.int .i64 b.i) := (hc _ _ (by omega)).trans (by go_simp)
      have m1 : wr.cell? ⟨lb, lo + i * 6 + 1, none⟩ = some (.int .i64 b.o) := (hc _ _ (by omega)).trans (by go_simp)
      have m2 : wr.cell? ⟨lb, lo + i * 6 + 2, none⟩ = some (.int .i64 b.x) := (hc _ _ (by omega)).trans (by go_simp)
      have m3 : wr.cell? ⟨lb, lo + i * 6 + 3, none⟩ = some (.int .i64 b.y) := (hc _ _ (by omega)).trans (by go_simp)
      have m4 : wr.cell? ⟨lb, lo + i * 6 + 4, none⟩ = some (.int .i64 b.w) := (hc _ _ (by omega)).trans (by go_simp)
      have m5 : wr.cell? ⟨lb, lo + i * 6 + 5, none⟩ = some (.int .i64 b.h) := (hc _ _ (by omega)).trans (by go_simp)
      have bX : w.heap.size < wr.heap.size := hl _ (by omega)
      have bM : lb < wr.heap.size := hl _ (by omega)
      have hsw1 : Hk (w.heap.size + 1 ≤ wr.heap.size) := ⟨kw_size HB.out hNW⟩
      have HBV := HB
      have HYV := Hk.mk (HBY.out _ HB.out)
      have HQV := Hk.mk (HBQ.out _ HB.out)
      have hszv : Hk (w.heap.size ≤ wr.heap.size) := ⟨by omega⟩
      clear HB
      clear hc hf hl hn' hm
      have L0V : wr.heap.size ≤ wr.heap.size := Nat.le_refl _
      apply reg_merge
      intro HG1
      refine wp_region_held_drew (S := fun Z => (∀ b o, b < wr.heap.size → Z.cell? ⟨b, o, none⟩ = wr.cell? ⟨b, o, none⟩)) (by kernel_rfl) (fun _ _ _ => rfl) (fun hHeld => ?_)
      have HB : Hk (Below wr.heap.size wr wr.drew) := ⟨(Below.refl _ _).drew⟩
      obtain ⟨WZ, hWe⟩ : ∃ WZ, wr.drew = WZ := ⟨_, rfl⟩
      rw [hWe] at HB hHeld ⊢
      clear hWe
      refine wpAnyH_take (i := 0) (v := ?_) rfl (by kernel_rfl) (by kernel_rfl) (by kernel_rfl) (fun _ _ _ h => h) (Or.inl ⟨by rfl, fun wX hSw => ?_⟩) (by assumption) ?_
      rotate_left
      · (try dsimp only at hSw); go_simp; try with_reducible rfl
      (try simp only [Act.put, List.getElem_toArray, List.getElem_cons_succ, List.getElem_cons_zero, List.setIfInBounds_toArray, List.set_cons_zero, List.set_cons_succ])
      refine wpAnyH_take (i := 1) (v := ?_) rfl (by kernel_rfl) (by kernel_rfl) (by kernel_rfl) (fun _ _ _ h => h) (Or.inl ⟨by rfl, fun wX hSw => ?_⟩) (by assumption) ?_
      rotate_left
      · (try dsimp only at hSw); go_simp; try with_reducible rfl
      (try simp only [Act.put, List.getElem_toArray, List.getElem_cons_succ, List.getElem_cons_zero, List.setIfInBounds_toArray, List.set_cons_zero, List.set_cons_succ])
      refine wpAnyH_take (i := 2) (v := ?_) rfl (by kernel_rfl) (by kernel_rfl) (by kernel_rfl) (fun _ _ _ h => h) (Or.inl ⟨by rfl, fun wX hSw => ?_⟩) (by assumption) ?_
      rotate_left
      · (try dsimp only at hSw); go_simp; try with_reducible rfl
      (try simp only [Act.put, List.getElem_toArray, List.getElem_cons_succ, List.getElem_cons_zero, List.setIfInBounds_toArray, List.set_cons_zero, List.set_cons_succ])
      refine wpAnyH_take (i := 3) (v := ?_) rfl (by kernel_rfl) (by kernel_rfl) (by kernel_rfl) (fun _ _ _ h => h) (Or.inl ⟨by rfl, fun wX hSw => ?_⟩) (by assumption) ?_
      rotate_left
      · (try dsimp only at hSw); go_simp; try with_reducible rfl
      (try simp only [Act.put, List.getElem_toArray, List.getElem_cons_succ, List.getElem_cons_zero, List.setIfInBounds_toArray, List.set_cons_zero, List.set_cons_succ])
      refine wpAnyH_take (i := 4) (v := ?_) rfl (by kernel_rfl) (by kernel_rfl) (by kernel_rfl) (fun _ _ _ h => h) (Or.inl ⟨by rfl, fun wX hSw => ?_⟩) (by assumption) ?_
      rotate_left
      · (try dsimp only at hSw); go_simp; try with_reducible rfl
      (try simp only [Act.put, List.getElem_toArray, List.getElem_cons_succ, List.getElem_cons_zero, List.setIfInBounds_toArray, List.set_cons_zero, List.set_cons_succ])
      refine wpAnyH_take (i := 5) (v := ?_) rfl (by kernel_rfl) (by kernel_rfl) (by kernel_rfl) (fun _ _ _ h => h) (Or.inl ⟨by rfl, fun wX hSw => ?_⟩) (by assumption) ?_
      rotate_left
      · (try dsimp only at hSw); go_simp; try with_reducible rfl
      (try simp only [Act.put, List.getElem_toArray, List.getElem_cons_succ, List.getElem_cons_zero, List.setIfInBounds_toArray, List.set_cons_zero, List.set_cons_succ])
      refine wpAnyH_take (i := 6) (v := ?_) rfl (by kernel_rfl) (by kernel_rfl) (by kernel_rfl) (fun _ _ _ h => h) (Or.inl ⟨by rfl, fun wX hSw => ?_⟩) (by assumption) ?_
      rotate_left
      · (try dsimp only at hSw); go_simp; try with_reducible rfl
      (try simp only [Act.put, List.getElem_toArray, List.getElem_cons_succ, List.getElem_cons_zero, List.setIfInBounds_toArray, List.set_cons_zero, List.set_cons_succ])
      refine wpAnyH_take (i := 7) (v := ?_) rfl (by kernel_rfl) (by kernel_rfl) (by kernel_rfl) (fun _ _ _ h => h) (Or.inl ⟨by rfl, fun wX hSw => ?_⟩) (by assumption) ?_
      rotate_left
      · (try dsimp only at hSw); go_simp; try with_reducible rfl
      (try simp only [Act.put, List.getElem_toArray, List.getElem_cons_succ, List.getElem_cons_zero, List.setIfInBounds_toArray, List.set_cons_zero, List.set_cons_succ])
      refine wpAnyH_ready (rs := [8]) (by kernel_rfl) (by simp) ?_
      refine AllReadyH.cons rfl (fun K hK => ?_) (AllReadyH.nil)
      · skip
        go_simp
        ((go_at_call 18; (with_reducible refine (badd_yes W H a n c xs ab m cb l b _ ((HYV.out.below HB.out hszv.out).mono (Nat.le_trans hszv.out (kw_le HB.out L0V))) ((own8_bq HO.out).below HB.out (Nat.le_refl _) |>.mono (kw_le HB.out L0V)) (by omega) (by omega) EV).mono ?_); rintro e z ⟨a9, c9, rfl, ho9, hb⟩; have HX := Hk.mk (ho9.weak (kw_le HB.out L0V)); clear ho9))
        replace HB := Hk.mk (kw_step HB.out L0V hb)
        clear hb
        refine hK.out _ _ ?_ (fun hHeld2 => ?_)
        · exact kw_s HB.out
        clear hK K hHeld
        have hHeld := hHeld2
        clear hHeld2
        (try simp only [Act.put, List.getElem_toArray, List.getElem_cons_succ, List.getElem_cons_zero, List.setIfInBounds_toArray, List.set_cons_zero, List.set_cons_succ])
        refine wpAnyH_take (i := 9) (v := ?_) rfl (by kernel_rfl) (by kernel_rfl) (by kernel_rfl) (fun _ _ _ h => h) (Or.inl ⟨by rfl, fun wX hSw => ?_⟩) (by assumption) ?_
        rotate_left
        · (try dsimp only at hSw); go_simp; try with_reducible rfl
        (try simp only [Act.put, List.getElem_toArray, List.getElem_cons_succ, List.getElem_cons_zero, List.setIfInBounds_toArray, List.set_cons_zero, List.set_cons_succ])
        refine wpAnyH_take (i := 10) (v := ?_) rfl (by kernel_rfl) (by kernel_rfl) (by kernel_rfl) (fun _ _ _ h => h) (Or.inl ⟨by rfl, fun wX hSw => ?_⟩) (by assumption) ?_
        rotate_left
        · (try dsimp only at hSw); go_simp; try with_reducible rfl
        (try simp only [Act.put, List.getElem_toArray, List.getElem_cons_succ, List.getElem_cons_zero, List.setIfInBounds_toArray, List.set_cons_zero, List.set_cons_succ])
        refine wpAnyH_take (i := 11) (v := ?_) rfl (by kernel_rfl) (by kernel_rfl) (by kernel_rfl) (fun _ _ _ h => h) (Or.inl ⟨by rfl, fun wX hSw => ?_⟩) (by assumption) ?_
        rotate_left
        · (try dsimp only at hSw); go_simp; try with_reducible rfl
        (try simp only [Act.put, List.getElem_toArray, List.getElem_cons_succ, List.getElem_cons_zero, List.setIfInBounds_toArray, List.set_cons_zero, List.set_cons_succ])
        refine wpAnyH_take (i := 12) (v := ?_) rfl (by kernel_rfl) (by kernel_rfl) (by kernel_rfl) (fun _ _ _ h => h) (Or.inl ⟨by rfl, fun wX hSw => ?_⟩) (by assumption) ?_
        rotate_left
        · (try dsimp only at hSw); go_simp; try with_reducible rfl
        (try simp only [Act.put, List.getElem_toArray, List.getElem_cons_succ, List.getElem_cons_zero, List.setIfInBounds_toArray, List.set_cons_zero, List.set_cons_succ])
        refine wpAnyH_take (i := 13) (v := ?_) rfl (by kernel_rfl) (by kernel_rfl) (by kernel_rfl) (fun _ _ _ h => h) (Or.inl ⟨by rfl, fun wX hSw => ?_⟩) (by assumption) ?_
        rotate_left
        · (try dsimp only at hSw); go_simp; try with_reducible rfl
        (try simp only [Act.put, List.getElem_toArray, List.getElem_cons_succ, List.getElem_cons_zero, List.setIfInBounds_toArray, List.set_cons_zero, List.set_cons_succ])
        refine reg_cast (l' := #[true, true, true, true, true, true, true, true, true, true, true, true, true, true]) (by kernel_rfl) ?_
        revert hHeld
        revert HX
        revert HB
        revert c9
        revert a9
        revert z
        exact HG1.out
      intro WZ a9 c9 HB HX hHeld
      refine wpAnyH_done (by kernel_rfl) ?_ _
      replace HB := Hk.mk (kw_step HBV.out hNW HB.out)
      clear q0 q1 q2 q3 m0 m1 m2 m3 m4 m5 hHeld HBV HYV HQV hszv L0V
      clear bX bM
      obtain ⟨hc, hf, hl, hn', hm⟩ := kw_rules HB.out hNW
      rw [HWH.out.1] at p4
      rw [HWH.out.2] at p5
      obtain ⟨P, hP⟩ : ∃ P, wn * hn2 = P := ⟨_, rfl⟩
      have hP2 := HP.out
      rw [hP] at hP2
      obtain ⟨e1, e2, e3⟩ := hP2
      have hw1 : IntKind.i64.wrap ((wn : Int) * (hn2 : Int)) = (P : Int) := by rw [e1, IntKind.wrap_i64]; omega
      obtain ⟨A, hA⟩ : ∃ A, areaL l = A := ⟨_, rfl⟩
      rw [hA] at HAR har ⊢
      have hw2 : IntKind.i64.wrap ((A : Int) + (P : Int)) = ((P + A : Nat) : Int) := by rw [IntKind.wrap_i64]; omega
      have HE3 := Hk.mk e3
      have HO2 : Hk (OwnB8 WZ (w.heap.size + 1) (.slice a9 (m + 1) c9) (m + 1) l2) := ⟨by have := HX.out; rw [HIN.out] at this; exact this.weak hsw1.out⟩
      clear e1 e3 hP HP HX
      go_wp2_with (go_at_call 19; (with_reducible refine (num8_any _ _).mono ?_); rintro e z ⟨rfl, rfl⟩)
      go_quiet (fail)
      go_wp2
      refine ⟨⟨i, m + 1, ?_, by omega, ?_, ?_, ⟨below_drewN HB.out _⟩⟩, by first | (simp [intOf]; done) | (simp [intOf]; omega)⟩
      · first | rfl | go_num
      · rw [hl2, HAR.out, HE3.out]; first | rfl | (simp; done) | go_num
      · rw [hl2]
        exact ⟨HO2.out.drewN _⟩
    case inl =>
      subst hk0
      obtain rfl : ln = m := by omega
      rw [List.drop_zero] at HO ⊢
      rw [show ((0 : Nat) : Int) - 1 = -1 from rfl]
      obtain ⟨ab, cb, rfl, hcb, -, -, -⟩ := HO.out.bq
      obtain ⟨hc, hf, hl, hn', hm⟩ := kw_rules HB.out hNW
      go_wp2_with (first
        | (go_at_call 28; (with_reducible refine (cov_yes W H a n c xs la ln lc bs _ ?_ ?_ (by omega) (by omega) MM).mono ?_); (exact (HBY.out _ HB.out).mono (hsz1 HB.out)); (exact (HBQ.out _ HB.out).mono (hsz1 HB.out)); rintro e z ⟨gg, rfl, hgg, hA, hb⟩; have HA := Hk.mk hA; clear hA hgg; replace HO := Hk.mk (HO.out.below hb); replace HB := Hk.mk (kw_step HB.out hNW hb); clear hb; clear hc hf hl hn' hm; obtain ⟨hc, hf, hl, hn', hm⟩ := kw_rules HB.out hNW)
        | (go_at_call 19; (with_reducible refine (num8_any _ _).mono ?_); rintro e z ⟨rfl, rfl⟩)
        | (go_at_call 21; (with_reducible refine (eqbd_yes ab la ln cb lc _ w.heap.size bs _ (own8_bq HO.out) (HBQ.out _ HB.out) (by omega)).mono ?_); rintro e z ⟨rfl, m2, rfl⟩; replace HB := Hk.mk (below_drewN HB.out m2); replace HA := Hk.mk (HA.out.drewN m2); clear HO; clear hc hf hl hn' hm; obtain ⟨hc, hf, hl, hn', hm⟩ := kw_rules HB.out hNW))
      clear hc hf hl hn' hm
      have harea := area_le MM.out bs (fun b hb => hb)
      rw [HLN.out] at harea
      obtain ⟨AL, hAL⟩ : ∃ AL, areaL bs = AL := ⟨_, rfl⟩
      rw [hAL] at harea ⊢
      have HAL := Hk.mk hAL
      clear hAL
      obtain ⟨wo, rfl⟩ : ∃ wo : World, wo = wr := ⟨wr, rfl⟩
      go_loopw [4, 10] (fun s t wr => ∃ (T : Nat) (S : Int), t = .int .i64 T ∧ T ≤ n ∧ s = .int .i64 S ∧ -1000 ≤ S ∧ S ≤ 1000 ∧ Hk (S = (AL : Int) - (cntB (fun t => cvB W bs t) T : Nat)) ∧ Hk (Below (w.heap.size + 1) (w.alloc (.cells #[.int .i64 W, .int .i64 H, .slice a n c, .slice la ln lc, .slice ma mn mc, .slice ia im ic] 28)) wr) ∧ Hk (Arr wr gg n 4 (fun k => .bool (cvB W bs k)))) (fun _ t _ => n - (intOf t).toNat)
      case atStart => exact ⟨0, AL, rfl, Nat.zero_le _, rfl, by omega, by omega, ⟨by simp [cntB]⟩, HB, HA⟩
      case round =>
        clear HB HA
        obtain ⟨T, S, rfl, hT, rfl, s1, s2, HS, HB, HA⟩ := hrel
        have hcl := cntB_le (fun t => cvB W bs (t : Int)) T
        by_cases hTn : T < n
        · have a0 := HA.out.cell hTn
          have az := HA.out.frozen T
          have hag := HA.out.lt
          have hst := cntB_step (fun t => cvB W bs (t : Int)) T
          have t0 : (0 : Int) ≤ (T : Int) := by omega
          have t1 : (T : Int) < (n : Int) := by omega
          cases hcv : cvB W bs (T : Int)
          case false =>
            rw [hcv] at a0 hst
            obtain ⟨hc, hf, hl, hn', hm⟩ := kw_rules HB.out hNW
            go_wp2
            exact ⟨⟨T + 1, S, by go_num, by omega, rfl, s1, s2, ⟨by rw [HS.out, hst]; simp⟩, HB, HA⟩, by simp [intOf]; omega⟩
          case true =>
            have hpl := cov_plain MM.out hTn hcv
            rw [hcv] at a0 hst
            obtain ⟨tb, tofs, rfl, htb, hcells⟩ := HBY0.out.at_ (by omega)
            have hx := hcells T hTn
            have hxb := HBY0.out.byt_at hTn
            obtain ⟨x, hxe⟩ : ∃ x, xs.getD T 0 = x := ⟨_, rfl⟩
            rw [hxe] at hx hpl hxb
            have htw : tb < w.heap.size + 1 := by omega
            have hw1 : IntKind.i64.wrap (S - 1) = S - 1 := by rw [IntKind.wrap_i64]; omega
            have s3 : -1000 ≤ S - 1 := by have := HS.out; have := cnt_mono MM.out hTn hcv; rw [HAL.out] at this; omega
            clear hcells hxe
            have hx01 : x = 0 ∨ x = 1 := by omega
            obtain ⟨hc, hf, hl, hn', hm⟩ := kw_rules HB.out hNW
            rcases hx01 with rfl | rfl
            · go_wp2
              first
                | exact ⟨⟨T + 1, S - 1, by go_num, by omega, rfl, s3, by omega, ⟨by rw [HS.out, hst]; simp; omega⟩, HB, HA⟩, by simp [intOf]; omega⟩
                | (go_quiet (fail); go_wp2; exact ⟨⟨T + 1, S - 1, by go_num, by omega, rfl, s3, by omega, ⟨by rw [HS.out, hst]; simp; omega⟩, ⟨below_drewN HB.out _⟩, ⟨HA.out.drewN _⟩⟩, by simp [intOf]; omega⟩)
            · go_wp2
              first
                | exact ⟨⟨T + 1, S - 1, by go_num, by omega, rfl, s3, by omega, ⟨by rw [HS.out, hst]; simp; omega⟩, HB, HA⟩, by simp [intOf]; omega⟩
                | (go_quiet (fail); go_wp2; exact ⟨⟨T + 1, S - 1, by go_num, by omega, rfl, s3, by omega, ⟨by rw [HS.out, hst]; simp; omega⟩, ⟨below_drewN HB.out _⟩, ⟨HA.out.drewN _⟩⟩, by simp [intOf]; omega⟩)
        · have hTe : n = T := by omega
          subst hTe
          obtain rfl : S = 0 := by rw [HS.out, cnt_all MM.out, HAL.out]; omega
          clear HS HA hcl
          obtain ⟨hc, hf, hl, hn', hm⟩ := kw_rules HB.out hNW
          go_wp2
          clear hc hf hl hn' hm
          obtain ⟨wp, rfl⟩ : ∃ wp : World, wp = wr := ⟨wr, rfl⟩
          go_loopw [11] (fun i wr => ∃ i' : Nat, i = .int .i64 i' ∧ i' ≤ ln ∧ Hk (Below (w.heap.size + 1) (w.alloc (.cells #[.int .i64 W, .int .i64 H, .slice a n c, .slice la ln lc, .slice ma mn mc, .slice ia im ic] 28)) wr)) (fun i _ => ln - (intOf i).toNat)
          case atStart => exact ⟨0, rfl, Nat.zero_le _, HB⟩
          case round =>
            clear HB
            obtain ⟨i, rfl, hi, HB⟩ := hrel
            obtain ⟨hc, hf, hl, hn', hm⟩ := kw_rules HB.out hNW
            by_cases hil : i < ln
            · have hib : i < bs.length := by rw [HLN.out]; exact hil
              obtain ⟨lb, lo, rfl, hlb, p0, p1, p2, p3, p4, p5⟩ := HQ0.out.six hil
              have EV12 := Hk.mk (add_dup MM.out hib)
              have EV0 := Hk.mk (add_gap MM.out hib)
              have HIN := Hk.mk (ins_gap HAS.out hib)
              obtain ⟨b, hb9⟩ : ∃ b, bs.getD i default = b := ⟨_, rfl⟩
              have HAT : Hk ((bs.getD i default).i = b.i) := ⟨by rw [hb9]⟩
              obtain ⟨l, hl0⟩ : ∃ l, bs.take i ++ bs.drop (i + 1) = l := ⟨_, rfl⟩
              rw [hb9] at p0 p1 p2 p3 p4 p5 EV12 EV0 HIN
              rw [hl0] at EV0 HIN
              have HL0 := Hk.mk hl0
              have hl1 : ln - 1 + 1 = ln := by omega
              have hlbw : lb < w.heap.size + 1 := by omega
              have i0 : (0 : Int) ≤ (i : Int) := by omega
              have i1 : (i : Int) < (ln : Int) := by omega
              clear hb9 hl0
              go_wp2_with fail
              have q0 : wr.cell? ⟨w.heap.size, 0, none⟩ = some (.int .i64 W) := (hc _ _ (by omega)).trans (by go_simp)
              have q1 : wr.cell? ⟨w.heap.size, 1, none⟩ = some (.int .i64 H) := (hc _ _ (by omega)).trans (by go_simp)
              have q2 : wr.cell? ⟨w.heap.size, 2, none⟩ = some (.slice a n c) := (hc _ _ (by omega)).trans (by go_simp)
              have q3 : wr.cell? ⟨w.heap.size, 3, none⟩ = some (.slice (some ⟨lb, lo, none⟩) ln lc) := (hc _ _ (by omega)).trans (by go_simp)
              have m0 : wr.cell? ⟨lb, lo + i * 6, none⟩ = some (.int .i64 b.i) := (hc _ _ (by omega)).trans (by go_simp)
              have m1 : wr.cell? ⟨lb, lo + i * 6 + 1, none⟩ = some (.int .i64 b.o) := (hc _ _ (by omega)).trans (by go_simp)
              have m2 : wr.cell? ⟨lb, lo + i * 6 + 2, none⟩ = some (.int .i64 b.x) := (hc _ _ (by omega)).trans (by go_simp)
              have m3 : wr.cell? ⟨lb, lo + i * 6 + 3, none⟩ = some (.int .i64 b.y) := (hc _ _ (by omega)).trans (by go_simp)
              have m4 : wr.cell? ⟨lb, lo + i * 6 + 4, none⟩ = some (.int .i64 b.w) := (hc _ _ (by omega)).trans (by go_simp)
              have m5 : wr.cell? ⟨lb, lo + i * 6 + 5, none⟩ = some (.int .i64 b.h) := (hc _ _ (by omega)).trans (by go_simp)
              have bX : w.heap.size < wr.heap.size := hl _ (by omega)
              have bM : lb < wr.heap.size := hl _ (by omega)
              have hsw1 : Hk (w.heap.size + 1 ≤ wr.heap.size) := ⟨kw_size HB.out hNW⟩
              have HBV := HB
              have HYV := Hk.mk (HBY.out _ HB.out)
              have HQV := Hk.mk (HBQ.out _ HB.out)
              have hszv : Hk (w.heap.size ≤ wr.heap.size) := ⟨by omega⟩
              clear HB
              clear hc hf hl hn' hm
              have L0V : wr.heap.size ≤ wr.heap.size := Nat.le_refl _
              apply reg_merge
              intro HG1
              refine wp_region_held_drew (S := fun Z => (∀ b o, b < wr.heap.size → Z.cell? ⟨b, o, none⟩ = wr.cell? ⟨b, o, none⟩)) (by kernel_rfl) (fun _ _ _ => rfl) (fun hHeld => ?_)
              have HB : Hk (Below wr.heap.size wr wr.drew) := ⟨(Below.refl _ _).drew⟩
              obtain ⟨WZ, hWe⟩ : ∃ WZ, wr.drew = WZ := ⟨_, rfl⟩
              rw [hWe] at HB hHeld ⊢
              clear hWe
              refine wpAnyH_take (i := 0) (v := ?_) rfl (by kernel_rfl) (by kernel_rfl) (by kernel_rfl) (fun _ _ _ h => h) (Or.inl ⟨by rfl, fun wX hSw => ?_⟩) (by assumption) ?_
              rotate_left
              · (try dsimp only at hSw); go_simp; try with_reducible rfl
              (try simp only [Act.put, List.getElem_toArray, List.getElem_cons_succ, List.getElem_cons_zero, List.setIfInBounds_toArray, List.set_cons_zero, List.set_cons_succ])
              refine wpAnyH_take (i := 1) (v := ?_) rfl (by kernel_rfl) (by kernel_rfl) (by kernel_rfl) (fun _ _ _ h => h) (Or.inl ⟨by rfl, fun wX hSw => ?_⟩) (by assumption) ?_
              rotate_left
              · (try dsimp only at hSw); go_simp; try with_reducible rfl
              (try simp only [Act.put, List.getElem_toArray, List.getElem_cons_succ, List.getElem_cons_zero, List.setIfInBounds_toArray, List.set_cons_zero, List.set_cons_succ])
              refine wpAnyH_take (i := 2) (v := ?_) rfl (by kernel_rfl) (by kernel_rfl) (by kernel_rfl) (fun _ _ _ h => h) (Or.inl ⟨by rfl, fun wX hSw => ?_⟩) (by assumption) ?_
              rotate_left
              · (try dsimp only at hSw); go_simp; try with_reducible rfl
              (try simp only [Act.put, List.getElem_toArray, List.getElem_cons_succ, List.getElem_cons_zero, List.setIfInBounds_toArray, List.set_cons_zero, List.set_cons_succ])
              refine wpAnyH_take (i := 3) (v := ?_) rfl (by kernel_rfl) (by kernel_rfl) (by kernel_rfl) (fun _ _ _ h => h) (Or.inl ⟨by rfl, fun wX hSw => ?_⟩) (by assumption) ?_
              rotate_left
              · (try dsimp only at hSw); go_simp; try with_reducible rfl
              (try simp only [Act.put, List.getElem_toArray, List.getElem_cons_succ, List.getElem_cons_zero, List.setIfInBounds_toArray, List.set_cons_zero, List.set_cons_succ])
              refine wpAnyH_take (i := 4) (v := ?_) rfl (by kernel_rfl) (by kernel_rfl) (by kernel_rfl) (fun _ _ _ h => h) (Or.inl ⟨by rfl, fun wX hSw => ?_⟩) (by assumption) ?_
              rotate_left
              · (try dsimp only at hSw); go_simp; try with_reducible rfl
              (try simp only [Act.put, List.getElem_toArray, List.getElem_cons_succ, List.getElem_cons_zero, List.setIfInBounds_toArray, List.set_cons_zero, List.set_cons_succ])
              refine wpAnyH_take (i := 5) (v := ?_) rfl (by kernel_rfl) (by kernel_rfl) (by kernel_rfl) (fun _ _ _ h => h) (Or.inl ⟨by rfl, fun wX hSw => ?_⟩) (by assumption) ?_
              rotate_left
              · (try dsimp only at hSw); go_simp; try with_reducible rfl
              (try simp only [Act.put, List.getElem_toArray, List.getElem_cons_succ, List.getElem_cons_zero, List.setIfInBounds_toArray, List.set_cons_zero, List.set_cons_succ])
              refine wpAnyH_take (i := 6) (v := ?_) rfl (by kernel_rfl) (by kernel_rfl) (by kernel_rfl) (fun _ _ _ h => h) (Or.inl ⟨by rfl, fun wX hSw => ?_⟩) (by assumption) ?_
              rotate_left
              · (try dsimp only at hSw); go_simp; try with_reducible rfl
              (try simp only [Act.put, List.getElem_toArray, List.getElem_cons_succ, List.getElem_cons_zero, List.setIfInBounds_toArray, List.set_cons_zero, List.set_cons_succ])
              refine wpAnyH_take (i := 7) (v := ?_) rfl (by kernel_rfl) (by kernel_rfl) (by kernel_rfl) (fun _ _ _ h => h) (Or.inl ⟨by rfl, fun wX hSw => ?_⟩) (by assumption) ?_
              rotate_left
              · (try dsimp only at hSw); go_simp; try with_reducible rfl
              (try simp only [Act.put, List.getElem_toArray, List.getElem_cons_succ, List.getElem_cons_zero, List.setIfInBounds_toArray, List.set_cons_zero, List.set_cons_succ])
              refine wpAnyH_ready (rs := [8]) (by kernel_rfl) (by simp) ?_
              refine AllReadyH.cons rfl (fun K hK => ?_) (AllReadyH.nil)
              · skip
                go_simp
                ((go_at_call 26; (with_reducible refine (drop_yes (some ⟨lb, lo, none⟩) ln lc w.heap.size bs b.i _ (HQV.out.below HB.out hszv.out) (Nat.le_trans hszv.out (kw_le HB.out L0V)) (by omega) hlc hcc HAS i hil HAT).mono ?_); rintro e z ⟨v9, rfl, ho9, hb⟩; obtain ⟨a9, c9, rfl, -, -, -, -⟩ := ho9.bq; have HX := Hk.mk (ho9.weak (kw_le HB.out L0V)); clear ho9))
                replace HB := Hk.mk (kw_step HB.out L0V hb)
                clear hb
                refine hK.out _ _ ?_ (fun hHeld2 => ?_)
                · exact kw_s HB.out
                clear hK K hHeld
                have hHeld := hHeld2
                clear hHeld2
                (try simp only [Act.put, List.getElem_toArray, List.getElem_cons_succ, List.getElem_cons_zero, List.setIfInBounds_toArray, List.set_cons_zero, List.set_cons_succ])
                refine wpAnyH_take (i := 9) (v := ?_) rfl (by kernel_rfl) (by kernel_rfl) (by kernel_rfl) (fun _ _ _ h => h) (Or.inl ⟨by rfl, fun wX hSw => ?_⟩) (by assumption) ?_
                rotate_left
                · (try dsimp only at hSw); go_simp; try with_reducible rfl
                (try simp only [Act.put, List.getElem_toArray, List.getElem_cons_succ, List.getElem_cons_zero, List.setIfInBounds_toArray, List.set_cons_zero, List.set_cons_succ])
                refine wpAnyH_take (i := 10) (v := ?_) rfl (by kernel_rfl) (by kernel_rfl) (by kernel_rfl) (fun _ _ _ h => h) (Or.inl ⟨by rfl, fun wX hSw => ?_⟩) (by assumption) ?_
                rotate_left
                · (try dsimp only at hSw); go_simp; try with_reducible rfl
                (try simp only [Act.put, List.getElem_toArray, List.getElem_cons_succ, List.getElem_cons_zero, List.setIfInBounds_toArray, List.set_cons_zero, List.set_cons_succ])
                refine wpAnyH_take (i := 11) (v := ?_) rfl (by kernel_rfl) (by kernel_rfl) (by kernel_rfl) (fun _ _ _ h => h) (Or.inl ⟨by rfl, fun wX hSw => ?_⟩) (by assumption) ?_
                rotate_left
                · (try dsimp only at hSw); go_simp; try with_reducible rfl
                (try simp only [Act.put, List.getElem_toArray, List.getElem_cons_succ, List.getElem_cons_zero, List.setIfInBounds_toArray, List.set_cons_zero, List.set_cons_succ])
                refine wpAnyH_take (i := 12) (v := ?_) rfl (by kernel_rfl) (by kernel_rfl) (by kernel_rfl) (fun _ _ _ h => h) (Or.inl ⟨by rfl, fun wX hSw => ?_⟩) (by assumption) ?_
                rotate_left
                · (try dsimp only at hSw); go_simp; try with_reducible rfl
                (try simp only [Act.put, List.getElem_toArray, List.getElem_cons_succ, List.getElem_cons_zero, List.setIfInBounds_toArray, List.set_cons_zero, List.set_cons_succ])
                refine wpAnyH_take (i := 13) (v := ?_) rfl (by kernel_rfl) (by kernel_rfl) (by kernel_rfl) (fun _ _ _ h => h) (Or.inl ⟨by rfl, fun wX hSw => ?_⟩) (by assumption) ?_
                rotate_left
                · (try dsimp only at hSw); go_simp; try with_reducible rfl
                (try simp only [Act.put, List.getElem_toArray, List.getElem_cons_succ, List.getElem_cons_zero, List.setIfInBounds_toArray, List.set_cons_zero, List.set_cons_succ])
                refine reg_cast (l' := #[true, true, true, true, true, true, true, true, true, true, true, true, true, true]) (by kernel_rfl) ?_
                revert hHeld
                revert HX
                revert HB
                revert c9
                revert a9
                revert z
                exact HG1.out
              intro WZ a9 c9 HB HX hHeld
              refine wpAnyH_done (by kernel_rfl) ?_ _
              rw [HL0.out] at HX
              replace HB := Hk.mk (kw_step HBV.out hNW HB.out)
              clear q0 q1 q2 q3 m0 m1 m2 m3 m4 m5 hHeld HBV HYV HQV hszv L0V
              clear bX bM
              obtain ⟨hc, hf, hl, hn', hm⟩ := kw_rules HB.out hNW
              go_wp2_with fail
              generalize WZ = VA at *
              have q0 : VA.cell? ⟨w.heap.size, 0, none⟩ = some (.int .i64 W) := (hc _ _ (by omega)).trans (by go_simp)
              have q1 : VA.cell? ⟨w.heap.size, 1, none⟩ = some (.int .i64 H) := (hc _ _ (by omega)).trans (by go_simp)
              have q2 : VA.cell? ⟨w.heap.size, 2, none⟩ = some (.slice a n c) := (hc _ _ (by omega)).trans (by go_simp)
              have q3 : VA.cell? ⟨w.heap.size, 3, none⟩ = some (.slice (some ⟨lb, lo, none⟩) ln lc) := (hc _ _ (by omega)).trans (by go_simp)
              have m0 : VA.cell? ⟨lb, lo + i * 6, none⟩ = some (.int .i64 b.i) := (hc _ _ (by omega)).trans (by go_simp)
              have m1 : VA.cell? ⟨lb, lo + i * 6 + 1, none⟩ = some (.int .i64 b.o) := (hc _ _ (by omega)).trans (by go_simp)
              have m2 : VA.cell? ⟨lb, lo + i * 6 + 2, none⟩ = some (.int .i64 b.x) := (hc _ _ (by omega)).trans (by go_simp)
              have m3 : VA.cell? ⟨lb, lo + i * 6 + 3, none⟩ = some (.int .i64 b.y) := (hc _ _ (by omega)).trans (by go_simp)
              have m4 : VA.cell? ⟨lb, lo + i * 6 + 4, none⟩ = some (.int .i64 b.w) := (hc _ _ (by omega)).trans (by go_simp)
              have m5 : VA.cell? ⟨lb, lo + i * 6 + 5, none⟩ = some (.int .i64 b.h) := (hc _ _ (by omega)).trans (by go_simp)
              have bX : w.heap.size < VA.heap.size := hl _ (by omega)
              have bM : lb < VA.heap.size := hl _ (by omega)
              have hsw1 : Hk (w.heap.size + 1 ≤ VA.heap.size) := ⟨kw_size HB.out hNW⟩
              have HBV := HB
              have HYV := Hk.mk (HBY.out _ HB.out)
              have HQV := Hk.mk (HBQ.out _ HB.out)
              have hszv : Hk (w.heap.size ≤ VA.heap.size) := ⟨by omega⟩
              clear HB
              clear hc hf hl hn' hm
              have L0V : VA.heap.size ≤ VA.heap.size := Nat.le_refl _
              apply reg_merge
              intro HG1
              refine wp_region_held_drew (S := fun Z => (∀ b o, b < VA.heap.size → Z.cell? ⟨b, o, none⟩ = VA.cell? ⟨b, o, none⟩)) (by kernel_rfl) (fun _ _ _ => rfl) (fun hHeld => ?_)
              have HB : Hk (Below VA.heap.size VA VA.drew) := ⟨(Below.refl _ _).drew⟩
              obtain ⟨WZ, hWe⟩ : ∃ WZ, VA.drew = WZ := ⟨_, rfl⟩
              rw [hWe] at HB hHeld ⊢
              clear hWe
              refine wpAnyH_take (i := 0) (v := ?_) rfl (by kernel_rfl) (by kernel_rfl) (by kernel_rfl) (fun _ _ _ h => h) (Or.inl ⟨by rfl, fun wX hSw => ?_⟩) (by assumption) ?_
              rotate_left
              · (try dsimp only at hSw); go_simp; try with_reducible rfl
              (try simp only [Act.put, List.getElem_toArray, List.getElem_cons_succ, List.getElem_cons_zero, List.setIfInBounds_toArray, List.set_cons_zero, List.set_cons_succ])
              refine wpAnyH_take (i := 1) (v := ?_) rfl (by kernel_rfl) (by kernel_rfl) (by kernel_rfl) (fun _ _ _ h => h) (Or.inl ⟨by rfl, fun wX hSw => ?_⟩) (by assumption) ?_
              rotate_left
              · (try dsimp only at hSw); go_simp; try with_reducible rfl
              (try simp only [Act.put, List.getElem_toArray, List.getElem_cons_succ, List.getElem_cons_zero, List.setIfInBounds_toArray, List.set_cons_zero, List.set_cons_succ])
              refine wpAnyH_take (i := 2) (v := ?_) rfl (by kernel_rfl) (by kernel_rfl) (by kernel_rfl) (fun _ _ _ h => h) (Or.inl ⟨by rfl, fun wX hSw => ?_⟩) (by assumption) ?_
              rotate_left
              · (try dsimp only at hSw); go_simp; try with_reducible rfl
              (try simp only [Act.put, List.getElem_toArray, List.getElem_cons_succ, List.getElem_cons_zero, List.setIfInBounds_toArray, List.set_cons_zero, List.set_cons_succ])
              refine wpAnyH_take (i := 3) (v := ?_) rfl (by kernel_rfl) (by kernel_rfl) (by kernel_rfl) (fun _ _ _ h => h) (Or.inl ⟨by rfl, fun wX hSw => ?_⟩) (by assumption) ?_
              rotate_left
              · (try dsimp only at hSw); go_simp; try with_reducible rfl
              (try simp only [Act.put, List.getElem_toArray, List.getElem_cons_succ, List.getElem_cons_zero, List.setIfInBounds_toArray, List.set_cons_zero, List.set_cons_succ])
              refine wpAnyH_take (i := 4) (v := ?_) rfl (by kernel_rfl) (by kernel_rfl) (by kernel_rfl) (fun _ _ _ h => h) (Or.inl ⟨by rfl, fun wX hSw => ?_⟩) (by assumption) ?_
              rotate_left
              · (try dsimp only at hSw); go_simp; try with_reducible rfl
              (try simp only [Act.put, List.getElem_toArray, List.getElem_cons_succ, List.getElem_cons_zero, List.setIfInBounds_toArray, List.set_cons_zero, List.set_cons_succ])
              refine wpAnyH_take (i := 5) (v := ?_) rfl (by kernel_rfl) (by kernel_rfl) (by kernel_rfl) (fun _ _ _ h => h) (Or.inl ⟨by rfl, fun wX hSw => ?_⟩) (by assumption) ?_
              rotate_left
              · (try dsimp only at hSw); go_simp; try with_reducible rfl
              (try simp only [Act.put, List.getElem_toArray, List.getElem_cons_succ, List.getElem_cons_zero, List.setIfInBounds_toArray, List.set_cons_zero, List.set_cons_succ])
              refine wpAnyH_take (i := 6) (v := ?_) rfl (by kernel_rfl) (by kernel_rfl) (by kernel_rfl) (fun _ _ _ h => h) (Or.inl ⟨by rfl, fun wX hSw => ?_⟩) (by assumption) ?_
              rotate_left
              · (try dsimp only at hSw); go_simp; try with_reducible rfl
              (try simp only [Act.put, List.getElem_toArray, List.getElem_cons_succ, List.getElem_cons_zero, List.setIfInBounds_toArray, List.set_cons_zero, List.set_cons_succ])
              refine wpAnyH_take (i := 7) (v := ?_) rfl (by kernel_rfl) (by kernel_rfl) (by kernel_rfl) (fun _ _ _ h => h) (Or.inl ⟨by rfl, fun wX hSw => ?_⟩) (by assumption) ?_
              rotate_left
              · (try dsimp only at hSw); go_simp; try with_reducible rfl
              (try simp only [Act.put, List.getElem_toArray, List.getElem_cons_succ, List.getElem_cons_zero, List.setIfInBounds_toArray, List.set_cons_zero, List.set_cons_succ])
              refine wpAnyH_take (i := 8) (v := ?_) rfl (by kernel_rfl) (by kernel_rfl) (by kernel_rfl) (fun _ _ _ h => h) (Or.inl ⟨by rfl, fun wX hSw => ?_⟩) (by assumption) ?_
              rotate_left
              · (try dsimp only at hSw); go_simp; try with_reducible rfl
              (try simp only [Act.put, List.getElem_toArray, List.getElem_cons_succ, List.getElem_cons_zero, List.setIfInBounds_toArray, List.set_cons_zero, List.set_cons_succ])
              refine wpAnyH_ready (rs := [9]) (by kernel_rfl) (by simp) ?_
              refine AllReadyH.cons rfl (fun K hK => ?_) (AllReadyH.nil)
              · skip
                go_simp
                ((go_at_call 18; (with_reducible refine (badd_no W H a n c xs (some ⟨lb, lo, none⟩) ln lc bs b 12 _ ((HYV.out.below HB.out hszv.out).mono (Nat.le_trans hszv.out (kw_le HB.out L0V))) ((HQV.out.below HB.out hszv.out).mono (Nat.le_trans hszv.out (kw_le HB.out L0V))) (by omega) (by omega) EV12 (by decide)).mono ?_); rintro e z ⟨rfl, hb⟩))
                replace HB := Hk.mk (kw_step HB.out L0V hb)
                clear hb
                refine hK.out _ _ ?_ (fun hHeld2 => ?_)
                · exact kw_s HB.out
                clear hK K hHeld
                have hHeld := hHeld2
                clear hHeld2
                (try simp only [Act.put, List.getElem_toArray, List.getElem_cons_succ, List.getElem_cons_zero, List.setIfInBounds_toArray, List.set_cons_zero, List.set_cons_succ])
                refine wpAnyH_take (i := 10) (v := ?_) rfl (by kernel_rfl) (by kernel_rfl) (by kernel_rfl) (fun _ _ _ h => h) (Or.inl ⟨by rfl, fun wX hSw => ?_⟩) (by assumption) ?_
                rotate_left
                · (try dsimp only at hSw); go_simp; try with_reducible rfl
                (try simp only [Act.put, List.getElem_toArray, List.getElem_cons_succ, List.getElem_cons_zero, List.setIfInBounds_toArray, List.set_cons_zero, List.set_cons_succ])
                refine wpAnyH_take (i := 11) (v := ?_) rfl (by kernel_rfl) (by kernel_rfl) (by kernel_rfl) (fun _ _ _ h => h) (Or.inl ⟨by rfl, fun wX hSw => ?_⟩) (by assumption) ?_
                rotate_left
                · (try dsimp only at hSw); go_simp; try with_reducible rfl
                (try simp only [Act.put, List.getElem_toArray, List.getElem_cons_succ, List.getElem_cons_zero, List.setIfInBounds_toArray, List.set_cons_zero, List.set_cons_succ])
                refine wpAnyH_take (i := 12) (v := ?_) rfl (by kernel_rfl) (by kernel_rfl) (by kernel_rfl) (fun _ _ _ h => h) (Or.inl ⟨by rfl, fun wX hSw => ?_⟩) (by assumption) ?_
                rotate_left
                · (try dsimp only at hSw); go_simp; try with_reducible rfl
                (try simp only [Act.put, List.getElem_toArray, List.getElem_cons_succ, List.getElem_cons_zero, List.setIfInBounds_toArray, List.set_cons_zero, List.set_cons_succ])
                refine wpAnyH_take (i := 13) (v := ?_) rfl (by kernel_rfl) (by kernel_rfl) (by kernel_rfl) (fun _ _ _ h => h) (Or.inl ⟨by rfl, fun wX hSw => ?_⟩) (by assumption) ?_
                rotate_left
                · (try dsimp only at hSw); go_simp; try with_reducible rfl
                (try simp only [Act.put, List.getElem_toArray, List.getElem_cons_succ, List.getElem_cons_zero, List.setIfInBounds_toArray, List.set_cons_zero, List.set_cons_succ])
                refine wpAnyH_take (i := 14) (v := ?_) rfl (by kernel_rfl) (by kernel_rfl) (by kernel_rfl) (fun _ _ _ h => h) (Or.inl ⟨by rfl, fun wX hSw => ?_⟩) (by assumption) ?_
                rotate_left
                · (try dsimp only at hSw); go_simp; try with_reducible rfl
                (try simp only [Act.put, List.getElem_toArray, List.getElem_cons_succ, List.getElem_cons_zero, List.setIfInBounds_toArray, List.set_cons_zero, List.set_cons_succ])
                refine reg_cast (l' := #[true, true, true, true, true, true, true, true, true, true, true, true, true, true, true]) (by kernel_rfl) ?_
                revert hHeld
                revert HB
                revert z
                exact HG1.out
              intro WZ HB hHeld
              refine wpAnyH_done (by kernel_rfl) ?_ _
              replace HX := Hk.mk (HX.out.below HB.out)
              replace HB := Hk.mk (kw_step HBV.out hNW HB.out)
              clear q0 q1 q2 q3 m0 m1 m2 m3 m4 m5 hHeld HBV HYV HQV hszv L0V
              clear bX bM
              obtain ⟨hc, hf, hl, hn', hm⟩ := kw_rules HB.out hNW
              go_wp2_with fail
              generalize WZ = VA at *
              have q0 : VA.cell? ⟨w.heap.size, 0, none⟩ = some (.int .i64 W) := (hc _ _ (by omega)).trans (by go_simp)
              have q1 : VA.cell? ⟨w.heap.size, 1, none⟩ = some (.int .i64 H) := (hc _ _ (by omega)).trans (by go_simp)
              have q2 : VA.cell? ⟨w.heap.size, 2, none⟩ = some (.slice a n c) := (hc _ _ (by omega)).trans (by go_simp)
              have q3 : VA.cell? ⟨w.heap.size, 3, none⟩ = some (.slice (some ⟨lb, lo, none⟩) ln lc) := (hc _ _ (by omega)).trans (by go_simp)
              have m0 : VA.cell? ⟨lb, lo + i * 6, none⟩ = some (.int .i64 b.i) := (hc _ _ (by omega)).trans (by go_simp)
              have m1 : VA.cell? ⟨lb, lo + i * 6 + 1, none⟩ = some (.int .i64 b.o) := (hc _ _ (by omega)).trans (by go_simp)
              have m2 : VA.cell? ⟨lb, lo + i * 6 + 2, none⟩ = some (.int .i64 b.x) := (hc _ _ (by omega)).trans (by go_simp)
              have m3 : VA.cell? ⟨lb, lo + i * 6 + 3, none⟩ = some (.int .i64 b.y) := (hc _ _ (by omega)).trans (by go_simp)
              have m4 : VA.cell? ⟨lb, lo + i * 6 + 4, none⟩ = some (.int .i64 b.w) := (hc _ _ (by omega)).trans (by go_simp)
              have m5 : VA.cell? ⟨lb, lo + i * 6 + 5, none⟩ = some (.int .i64 b.h) := (hc _ _ (by omega)).trans (by go_simp)
              have bX : w.heap.size < VA.heap.size := hl _ (by omega)
              have bM : lb < VA.heap.size := hl _ (by omega)
              have hsw1 : Hk (w.heap.size + 1 ≤ VA.heap.size) := ⟨kw_size HB.out hNW⟩
              have HBV := HB
              have HYV := Hk.mk (HBY.out _ HB.out)
              have HQV := Hk.mk (HBQ.out _ HB.out)
              have hszv : Hk (w.heap.size ≤ VA.heap.size) := ⟨by omega⟩
              clear HB
              clear hc hf hl hn' hm
              have L0V : VA.heap.size ≤ VA.heap.size := Nat.le_refl _
              apply reg_merge
              intro HG1
              refine wp_region_held_drew (S := fun Z => (∀ b o, b < VA.heap.size → Z.cell? ⟨b, o, none⟩ = VA.cell? ⟨b, o, none⟩)) (by kernel_rfl) (fun _ _ _ => rfl) (fun hHeld => ?_)
              have HB : Hk (Below VA.heap.size VA VA.drew) := ⟨(Below.refl _ _).drew⟩
              obtain ⟨WZ, hWe⟩ : ∃ WZ, VA.drew = WZ := ⟨_, rfl⟩
              rw [hWe] at HB hHeld ⊢
              clear hWe
              refine wpAnyH_take (i := 0) (v := ?_) rfl (by kernel_rfl) (by kernel_rfl) (by kernel_rfl) (fun _ _ _ h => h) (Or.inl ⟨by rfl, fun wX hSw => ?_⟩) (by assumption) ?_
              rotate_left
              · (try dsimp only at hSw); go_simp; try with_reducible rfl
              (try simp only [Act.put, List.getElem_toArray, List.getElem_cons_succ, List.getElem_cons_zero, List.setIfInBounds_toArray, List.set_cons_zero, List.set_cons_succ])
              refine wpAnyH_take (i := 1) (v := ?_) rfl (by kernel_rfl) (by kernel_rfl) (by kernel_rfl) (fun _ _ _ h => h) (Or.inl ⟨by rfl, fun wX hSw => ?_⟩) (by assumption) ?_
              rotate_left
              · (try dsimp only at hSw); go_simp; try with_reducible rfl
              (try simp only [Act.put, List.getElem_toArray, List.getElem_cons_succ, List.getElem_cons_zero, List.setIfInBounds_toArray, List.set_cons_zero, List.set_cons_succ])
              refine wpAnyH_take (i := 2) (v := ?_) rfl (by kernel_rfl) (by kernel_rfl) (by kernel_rfl) (fun _ _ _ h => h) (Or.inl ⟨by rfl, fun wX hSw => ?_⟩) (by assumption) ?_
              rotate_left
              · (try dsimp only at hSw); go_simp; try with_reducible rfl
              (try simp only [Act.put, List.getElem_toArray, List.getElem_cons_succ, List.getElem_cons_zero, List.setIfInBounds_toArray, List.set_cons_zero, List.set_cons_succ])
              refine wpAnyH_take (i := 3) (v := ?_) rfl (by kernel_rfl) (by kernel_rfl) (by kernel_rfl) (fun _ _ _ h => h) (Or.inl ⟨by rfl, fun wX hSw => ?_⟩) (by assumption) ?_
              rotate_left
              · (try dsimp only at hSw); go_simp; try with_reducible rfl
              (try simp only [Act.put, List.getElem_toArray, List.getElem_cons_succ, List.getElem_cons_zero, List.setIfInBounds_toArray, List.set_cons_zero, List.set_cons_succ])
              refine wpAnyH_take (i := 4) (v := ?_) rfl (by kernel_rfl) (by kernel_rfl) (by kernel_rfl) (fun _ _ _ h => h) (Or.inl ⟨by rfl, fun wX hSw => ?_⟩) (by assumption) ?_
              rotate_left
              · (try dsimp only at hSw); go_simp; try with_reducible rfl
              (try simp only [Act.put, List.getElem_toArray, List.getElem_cons_succ, List.getElem_cons_zero, List.setIfInBounds_toArray, List.set_cons_zero, List.set_cons_succ])
              refine wpAnyH_take (i := 5) (v := ?_) rfl (by kernel_rfl) (by kernel_rfl) (by kernel_rfl) (fun _ _ _ h => h) (Or.inl ⟨by rfl, fun wX hSw => ?_⟩) (by assumption) ?_
              rotate_left
              · (try dsimp only at hSw); go_simp; try with_reducible rfl
              (try simp only [Act.put, List.getElem_toArray, List.getElem_cons_succ, List.getElem_cons_zero, List.setIfInBounds_toArray, List.set_cons_zero, List.set_cons_succ])
              refine wpAnyH_take (i := 6) (v := ?_) rfl (by kernel_rfl) (by kernel_rfl) (by kernel_rfl) (fun _ _ _ h => h) (Or.inl ⟨by rfl, fun wX hSw => ?_⟩) (by assumption) ?_
              rotate_left
              · (try dsimp only at hSw); go_simp; try with_reducible rfl
              (try simp only [Act.put, List.getElem_toArray, List.getElem_cons_succ, List.getElem_cons_zero, List.setIfInBounds_toArray, List.set_cons_zero, List.set_cons_succ])
              refine wpAnyH_take (i := 7) (v := ?_) rfl (by kernel_rfl) (by kernel_rfl) (by kernel_rfl) (fun _ _ _ h => h) (Or.inl ⟨by rfl, fun wX hSw => ?_⟩) (by assumption) ?_
              rotate_left
              · (try dsimp only at hSw); go_simp; try with_reducible rfl
              (try simp only [Act.put, List.getElem_toArray, List.getElem_cons_succ, List.getElem_cons_zero, List.setIfInBounds_toArray, List.set_cons_zero, List.set_cons_succ])
              refine wpAnyH_ready (rs := [8]) (by kernel_rfl) (by simp) ?_
              refine AllReadyH.cons rfl (fun K hK => ?_) (AllReadyH.nil)
              · skip
                go_simp
                ((go_at_call 18; (with_reducible refine (badd_yes W H a n c xs a9 (ln - 1) c9 l b _ ((HYV.out.below HB.out hszv.out).mono (Nat.le_trans hszv.out (kw_le HB.out L0V))) ((own8_bq HX.out).below HB.out (Nat.le_refl _) |>.mono (kw_le HB.out L0V)) (by omega) (by omega) EV0).mono ?_); rintro e z ⟨a10, c10, he, ho10, hb⟩; rw [hl1] at he ho10; subst he; have HZ := Hk.mk (ho10.weak (kw_le HB.out L0V)); clear ho10))
                replace HB := Hk.mk (kw_step HB.out L0V hb)
                clear hb
                refine hK.out _ _ ?_ (fun hHeld2 => ?_)
                · exact kw_s HB.out
                clear hK K hHeld
                have hHeld := hHeld2
                clear hHeld2
                (try simp only [Act.put, List.getElem_toArray, List.getElem_cons_succ, List.getElem_cons_zero, List.setIfInBounds_toArray, List.set_cons_zero, List.set_cons_succ])
                refine wpAnyH_take (i := 9) (v := ?_) rfl (by kernel_rfl) (by kernel_rfl) (by kernel_rfl) (fun _ _ _ h => h) (Or.inl ⟨by rfl, fun wX hSw => ?_⟩) (by assumption) ?_
                rotate_left
                · (try dsimp only at hSw); go_simp; try with_reducible rfl
                (try simp only [Act.put, List.getElem_toArray, List.getElem_cons_succ, List.getElem_cons_zero, List.setIfInBounds_toArray, List.set_cons_zero, List.set_cons_succ])
                refine wpAnyH_take (i := 10) (v := ?_) rfl (by kernel_rfl) (by kernel_rfl) (by kernel_rfl) (fun _ _ _ h => h) (Or.inl ⟨by rfl, fun wX hSw => ?_⟩) (by assumption) ?_
                rotate_left
                · (try dsimp only at hSw); go_simp; try with_reducible rfl
                (try simp only [Act.put, List.getElem_toArray, List.getElem_cons_succ, List.getElem_cons_zero, List.setIfInBounds_toArray, List.set_cons_zero, List.set_cons_succ])
                refine wpAnyH_take (i := 11) (v := ?_) rfl (by kernel_rfl) (by kernel_rfl) (by kernel_rfl) (fun _ _ _ h => h) (Or.inl ⟨by rfl, fun wX hSw => ?_⟩) (by assumption) ?_
                rotate_left
                · (try dsimp only at hSw); go_simp; try with_reducible rfl
                (try simp only [Act.put, List.getElem_toArray, List.getElem_cons_succ, List.getElem_cons_zero, List.setIfInBounds_toArray, List.set_cons_zero, List.set_cons_succ])
                refine wpAnyH_take (i := 12) (v := ?_) rfl (by kernel_rfl) (by kernel_rfl) (by kernel_rfl) (fun _ _ _ h => h) (Or.inl ⟨by rfl, fun wX hSw => ?_⟩) (by assumption) ?_
                rotate_left
                · (try dsimp only at hSw); go_simp; try with_reducible rfl
                (try simp only [Act.put, List.getElem_toArray, List.getElem_cons_succ, List.getElem_cons_zero, List.setIfInBounds_toArray, List.set_cons_zero, List.set_cons_succ])
                refine wpAnyH_take (i := 13) (v := ?_) rfl (by kernel_rfl) (by kernel_rfl) (by kernel_rfl) (fun _ _ _ h => h) (Or.inl ⟨by rfl, fun wX hSw => ?_⟩) (by assumption) ?_
                rotate_left
                · (try dsimp only at hSw); go_simp; try with_reducible rfl
                (try simp only [Act.put, List.getElem_toArray, List.getElem_cons_succ, List.getElem_cons_zero, List.setIfInBounds_toArray, List.set_cons_zero, List.set_cons_succ])
                refine reg_cast (l' := #[true, true, true, true, true, true, true, true, true, true, true, true, true, true]) (by kernel_rfl) ?_
                revert hHeld
                revert HZ
                revert HB
                revert c10
                revert a10
                revert z
                exact HG1.out
              intro WZ a10 c10 HB HZ hHeld
              refine wpAnyH_done (by kernel_rfl) ?_ _
              rw [HIN.out] at HZ
              replace HB := Hk.mk (kw_step HBV.out hNW HB.out)
              clear q0 q1 q2 q3 m0 m1 m2 m3 m4 m5 hHeld HBV HYV HQV hszv L0V
              clear bX bM
              obtain ⟨hc, hf, hl, hn', hm⟩ := kw_rules HB.out hNW
              go_wp2_with (first | (go_at_call 19; (with_reducible refine (num8_any _ _).mono ?_); rintro e z ⟨rfl, rfl⟩) | (go_at_call 21; (with_reducible refine (eqbd_yes a10 (some ⟨lb, lo, none⟩) ln c10 lc _ w.heap.size bs _ (own8_bq HZ.out) (HBQ.out _ HB.out) (by omega)).mono ?_); rintro e z ⟨rfl, m2, rfl⟩; replace HB := Hk.mk (below_drewN HB.out m2); clear hc hf hl hn' hm; obtain ⟨hc, hf, hl, hn', hm⟩ := kw_rules HB.out hNW))
              go_roundw
              case rel => exact ⟨i + 1, by go_num, by omega, HB⟩
              case measure => simp [intOf]; omega
            · go_wp2_with (go_at_call 23; (with_reducible refine (wakes8_any _).mono ?_); rintro e z ⟨rfl, hb⟩; replace HB := Hk.mk (kw_step HB.out hNW hb); clear hb; clear hc hf hl hn' hm; obtain ⟨hc, hf, hl, hn', hm⟩ := kw_rules HB.out hNW)
              all_goals
                go_ret
                exact ⟨rfl, HTR.out _ HB.out⟩
theorem buildOrders_walk (v : Value) (w : World) (rows : Asks8 w v) :
    Calls Try.prog 6 #[v] w fun e w' => e = .returned (.bool true) ∧ Below w.heap.size w w' := by
  obtain ⟨W, H, a, n, c, xs, la, ln, lc, bs, ma, mn, mc, ms, ia, im, ic, js, rfl, hW, hH, hn, hlc, hcc, hby, hbq, hi, hmc, hc2, hmq, hj, him, hnq⟩ := rows
  by_cases g : gtA n ln mn im = true
  · exact buildOrders_big W H a n c xs la ln lc bs ma mn mc ia im ic w hby hbq hn (by omega) ⟨g⟩
  · have g' : gtA n ln mn im = false := by simpa using g
    have hs : n ≤ 700 ∧ ln ≤ 30 := by unfold gtA at g'; simp at g'; omega
    by_cases M : MOk W H n xs bs
    · exact buildOrders_go W H a n c xs la ln lc bs ma mn mc ia im ic w hby hbq hs.1 hs.2 hlc hcc hi ⟨g'⟩ ⟨M⟩
    · exact buildOrders_no W H a n c xs la ln lc bs ma mn mc ia im ic w hby hbq hs.1 hs.2 ⟨g'⟩ ⟨ckE_one M⟩

theorem buildOrders_own : ownKnob Try.prog.godebug = none := by kernel_rfl
theorem buildOrders_laidOut : laidOutB Try.prog = true := by kernel_rfl
set_option maxRecDepth 100000 in
theorem buildOrders_lifted (os : Os) (started : os.Started) (H : Type) (enc : TypeId × Value → H) :
    ReturnsInHanded {} Try.checked os 6 .any (Rows.buildOrdersSpec.pre6 enc Try.prog Try.f6 Rows.buildOrdersRow.domain false) (Rows.buildOrdersSpec.post enc Try.prog Try.f6 false true false false) := by
  refine returnsInHanded_of_change (C := Try.checked) buildOrders_own started (by kernel_rfl) Try.func6
    (ChangeSpec.witness6 (enc := enc) (C := Try.checked) false ⟨#[], #[.agg #[.int .i64 0, .int .i64 0, .slice none 0 0, .slice none 0 0, .slice none 0 0, .slice none 0 0]], []⟩ 8 (by kernel_rfl) (by kernel_rfl) (by kernel_rfl) (by kernel_rfl)) ?_
  intro W base args ds gs before hval0 hW hcnd _
  have hval : ∀ (j : Nat) t v, Try.f6.params[j]? = some t → args[j]? = some v → Value.okWide Try.prog W .any base t v := hval0
  have hW' := hW
  obtain ⟨p, q, hA0, hV, rfl, hfz, hnd⟩ := hW
  have hA : DataW.TrodAll enc Try.prog W 0 (fun _ => true) true Try.f6.params.toList args.toList ds p := hA0
  rw [Try.params6] at hA hval
  obtain ⟨v0, vs0, d0, ds0, p0, q0, hargs, rfl, rfl, h0, r0⟩ := trodAll_cons hA
  obtain ⟨rfl, rfl, rfl⟩ := trodAll_nil r0
  obtain rfl : args = #[v0] := by cases args; simp_all
  obtain ⟨rfl, rfl⟩ := trodVars_none hV
  obtain ⟨cs0, rfl, hcs0⟩ := okWide_struct Try.underlying28 (hval 0 28 v0 rfl rfl)
  have k0 := h0
  have lt0 : ∀ x ∈ p0, x.block < W.heap.size := by obtain ⟨m, hm⟩ := k0; exact DataW.trod_lt m _ _ _ hm
  have rows : Asks8 W (.agg cs0) := by obtain ⟨fuel, hf⟩ := h0; exact asks8_of hcs0 hf
  clear hA0 hval0
  refine (buildOrders_walk (.agg cs0) W rows).mono fun e W' ⟨he, bel⟩ => ?_
  subst he
  exact ⟨_, rfl, _, _, _, [], _, [], hW', trodAll_mk1 (shut_bool Try.underlying4 _), (trodAll_cons_mk (Below.trod buildOrders_laidOut (by kernel_rfl) (of_decide_eq_true (by kernel_rfl)) k0 bel lt0) trodAll_mk0), rfl, bel.frame _, fun h => by cases h⟩
theorem buildOrders_over : Rows.buildOrdersRow.holds Try.pinned (OpenSpec.ofChange Rows.buildOrdersSpec) :=
  OpenClaim.holds_of_wide 6 Try.f6 rfl rfl rfl rfl rfl rfl rfl ⟨rfl, rfl, rfl, rfl, rfl⟩ rfl rfl rfl rfl rfl (by kernel_rfl) Try.func6 (by kernel_rfl)
    (of_decide_eq_true (by kernel_rfl)) (by unfold Func.isWrapper; first | (rw [if_pos (by decide +kernel)]; kernel_rfl) | (rw [if_neg (by decide +kernel)]; exact ⟨rfl, rfl⟩))
    (fun os started H enc _ => buildOrders_lifted os started H enc)
/-- The given statement of BuildOrders. -/
theorem buildOrders_holds : Rows.BuildOrdersSaid := buildOrders_over
end Go.Proofs.Ytjjodfdmbiebnaa

