import Derived.Deep.QuietTactic
import Derived.BigQuiet
import Derived.Deep.RegionWith
import Derived.Deep.RegionHeld3
import Derived.Deep.DeepCutAuto
import Derived.Deep.DeepFit
import Derived.Outline
import Derived.Test.YthabjihpjdlmoaaDoorSkz
import Derived.Test.YthabjihpjdlmoaaDoorSke
/- Layer 13: what is refused; Make; two tiles. -/
namespace Go.Proofs.YthabjihpjdlmoaaDoor
open Go.ChangeShapes Go.WideShapes Go.ChangeAt Go.RowKit Go.Deep
set_option linter.unusedVariables false
set_option linter.unusedSimpArgs false
set_option maxRecDepth 100000 in
set_option maxHeartbeats 1600000 in
theorem reckon_no (W H : Int) (a : Option Addr) (n c : Nat) (xs : List Int) (la : Option Addr) (ln lc : Nat) (bs : List Bd) (x sz goal : Int) (w : World) (hL : LF w) (h : By w w.heap.size a n xs) (hb0 : Bq w w.heap.size la ln bs) (hn : n ≤ 140737488355328) (hln : ln ≤ 1099511627776) (MM : Hk (¬ (MOk W H n xs bs ∧ (0 ≤ x ∧ x ≤ 2) ∧ 0 ≤ sz ∧ sz ≤ 3))) :
    Calls Tryd.prog 57 #[.agg #[.int .i64 W, .int .i64 H, .slice a n c], .slice la ln lc, .int .i64 x, .int .i64 sz, .int .i64 goal] w fun e w' => e = .returned (.tuple #[.agg #[.int .i64 0, .int .i64 0, .slice none 0 0, .slice none 0 0], .slice none 0 0, .int .i64 1]) ∧ Below w.heap.size w w' := by
  have HWB : Hk (Below w.heap.size w (w.alloc (.cells #[.int .i64 W, .int .i64 H, .slice a n c] 24))) := ⟨(Below.refl _ _).alloc (Nat.le_refl _) _⟩
  have hNW : w.heap.size + 1 ≤ ((w.alloc (.cells #[.int .i64 W, .int .i64 H, .slice a n c] 24))).heap.size := by simp
  have HB : Hk (Below (w.heap.size + 1) (w.alloc (.cells #[.int .i64 W, .int .i64 H, .slice a n c] 24)) ((w.alloc (.cells #[.int .i64 W, .int .i64 H, .slice a n c] 24)).alloc (.cells #[.int .i64 0, .int .i64 0, .slice none 0 0, .slice none 0 0] 82))) := ⟨by first | exact Below.refl _ _ | exact (Below.refl _ _).alloc (by simp) _⟩
  have HTR : Hk (∀ X, Below (w.heap.size + 1) (w.alloc (.cells #[.int .i64 W, .int .i64 H, .slice a n c] 24)) X → Below w.heap.size w X) := ⟨fun X hX => HWB.out.trans (hX.mono (by omega))⟩
  have HBY := Hk.mk (fun (X : World) (hX : Below (w.heap.size + 1) (w.alloc (.cells #[.int .i64 W, .int .i64 H, .slice a n c] 24)) X) => h.below (HTR.out X hX) (Nat.le_refl _))
  have HBQ := Hk.mk (fun (X : World) (hX : Below (w.heap.size + 1) (w.alloc (.cells #[.int .i64 W, .int .i64 H, .slice a n c] 24)) X) => hb0.below (HTR.out X hX) (Nat.le_refl _))
  have HLL := Hk.mk (fun (X : World) (hX : Below (w.heap.size + 1) (w.alloc (.cells #[.int .i64 W, .int .i64 H, .slice a n c] 24)) X) => hL.below (HTR.out X hX) (Nat.le_refl _))
  have HR : Hk (Bk ((w.alloc (.cells #[.int .i64 W, .int .i64 H, .slice a n c] 24)).alloc (.cells #[.int .i64 0, .int .i64 0, .slice none 0 0, .slice none 0 0] 82)) ((w.alloc (.cells #[.int .i64 W, .int .i64 H, .slice a n c] 24))).heap.size #[.int .i64 0, .int .i64 0, .slice none 0 0, .slice none 0 0]) := ⟨Bk.new _ _ _⟩
  have hWs : ((w.alloc (.cells #[.int .i64 W, .int .i64 H, .slice a n c] 24))).heap.size = w.heap.size + 1 := by simp
  rw [hWs] at HR
  clear hWs
  clear h hb0 hL
  obtain ⟨hc, hf, hl, hn', hm⟩ := kw_rules HB.out hNW
  go_enter Tryd.func57, Tryd.ntmps57
  go_wp2_with (go_at_call 20; (refine (good_no W H a n c xs la ln lc bs x sz _ (HLL.out _ HB.out).lc ?_ ?_ hn hln MM).mono ?_); (exact (HBY.out _ HB.out).mono (hsz1 HB.out)); (exact (HBQ.out _ HB.out).mono (hsz1 HB.out)); rintro e z ⟨rfl, hb⟩; replace HR := Hk.mk (HR.out.below hb); have HRB := Hk.mk HR.out; have r0 := HR.out.c 0; have r1 := HR.out.c 1; have r2 := HR.out.c 2; have r3 := HR.out.c 3; simp at r0 r1 r2 r3; have q0 := HR.out.f 0; have q1 := HR.out.f 1; have q2 := HR.out.f 2; have q3 := HR.out.f 3; replace HB := Hk.mk (kw_step HB.out hNW hb); clear hb; clear hc hf hl hn' hm; obtain ⟨hc, hf, hl, hn', hm⟩ := kw_rules HB.out hNW)
  refine bodyPost_ret (v := .tuple #[.agg #[.int .i64 0, .int .i64 0, .slice none 0 0, .slice none 0 0], .slice none 0 0, .int .i64 1]) (by simp [results, Tryd.results57, go_sem, r0, r1, r2, r3]) rfl ⟨rfl, ?_⟩
  exact HTR.out _ (((((HB.out.setCell (p := ⟨w.heap.size + 1, 0, none⟩) (Nat.le_refl _) (.int .i64 0)).setCell (p := ⟨w.heap.size + 1, 1, none⟩) (Nat.le_refl _) (.int .i64 0)).setCell (p := ⟨w.heap.size + 1, 2, none⟩) (Nat.le_refl _) (.slice none 0 0)).setCell (p := ⟨w.heap.size + 1, 3, none⟩) (Nat.le_refl _) (.slice none 0 0)))
set_option maxRecDepth 100000 in
set_option maxHeartbeats 1600000 in
theorem reckon_none (W H : Int) (a : Option Addr) (n c : Nat) (xs : List Int) (la : Option Addr) (ln lc : Nat) (bs : List Bd) (cl s : Nat) (goal : Int) (w : World) (hL : LF w) (h : By w w.heap.size a n xs) (hb0 : Bq w w.heap.size la ln bs) (hn : n ≤ 140737488355328) (hln : ln ≤ 1099511627776) (hc3 : cl < 3) (hs : s ≤ 3) (MM : Hk (MOk W H n xs bs)) (hg : goal < 0 ∨ (n : Int) ≤ goal) :
    Calls Tryd.prog 57 #[.agg #[.int .i64 W, .int .i64 H, .slice a n c], .slice la ln lc, .int .i64 cl, .int .i64 s, .int .i64 goal] w fun e w' => e = .returned (.tuple #[.agg #[.int .i64 0, .int .i64 0, .slice none 0 0, .slice none 0 0], .slice none 0 0, .int .i64 3]) ∧ Below w.heap.size w w' := by
  have HWB : Hk (Below w.heap.size w (w.alloc (.cells #[.int .i64 W, .int .i64 H, .slice a n c] 24))) := ⟨(Below.refl _ _).alloc (Nat.le_refl _) _⟩
  have hNW : w.heap.size + 1 ≤ ((w.alloc (.cells #[.int .i64 W, .int .i64 H, .slice a n c] 24))).heap.size := by simp
  have HB : Hk (Below (w.heap.size + 1) (w.alloc (.cells #[.int .i64 W, .int .i64 H, .slice a n c] 24)) ((w.alloc (.cells #[.int .i64 W, .int .i64 H, .slice a n c] 24)).alloc (.cells #[.int .i64 0, .int .i64 0, .slice none 0 0, .slice none 0 0] 82))) := ⟨by first | exact Below.refl _ _ | exact (Below.refl _ _).alloc (by simp) _⟩
  have HTR : Hk (∀ X, Below (w.heap.size + 1) (w.alloc (.cells #[.int .i64 W, .int .i64 H, .slice a n c] 24)) X → Below w.heap.size w X) := ⟨fun X hX => HWB.out.trans (hX.mono (by omega))⟩
  have HBY := Hk.mk (fun (X : World) (hX : Below (w.heap.size + 1) (w.alloc (.cells #[.int .i64 W, .int .i64 H, .slice a n c] 24)) X) => h.below (HTR.out X hX) (Nat.le_refl _))
  have HBQ := Hk.mk (fun (X : World) (hX : Below (w.heap.size + 1) (w.alloc (.cells #[.int .i64 W, .int .i64 H, .slice a n c] 24)) X) => hb0.below (HTR.out X hX) (Nat.le_refl _))
  have HLL := Hk.mk (fun (X : World) (hX : Below (w.heap.size + 1) (w.alloc (.cells #[.int .i64 W, .int .i64 H, .slice a n c] 24)) X) => hL.below (HTR.out X hX) (Nat.le_refl _))
  have HR : Hk (Bk ((w.alloc (.cells #[.int .i64 W, .int .i64 H, .slice a n c] 24)).alloc (.cells #[.int .i64 0, .int .i64 0, .slice none 0 0, .slice none 0 0] 82)) ((w.alloc (.cells #[.int .i64 W, .int .i64 H, .slice a n c] 24))).heap.size #[.int .i64 0, .int .i64 0, .slice none 0 0, .slice none 0 0]) := ⟨Bk.new _ _ _⟩
  have hWs : ((w.alloc (.cells #[.int .i64 W, .int .i64 H, .slice a n c] 24))).heap.size = w.heap.size + 1 := by simp
  rw [hWs] at HR
  clear hWs
  clear h hb0 hL
  obtain ⟨hc, hf, hl, hn', hm⟩ := kw_rules HB.out hNW
  by_cases g : goal < 0
  · have d1 : decide (goal < 0) = true := by simpa using g
    go_enter Tryd.func57, Tryd.ntmps57
    go_wp2_with (go_at_call 20; (refine (good_yes W H a n c xs la ln lc bs cl s _ (HLL.out _ HB.out).lc ?_ ?_ hn hln hc3 hs MM).mono ?_); (exact (HBY.out _ HB.out).mono (hsz1 HB.out)); (exact (HBQ.out _ HB.out).mono (hsz1 HB.out)); rintro e z ⟨I, rfl, hI, hAi, hb⟩; replace HR := Hk.mk (HR.out.below hb); clear hI hAi; have HRB := Hk.mk HR.out; have r0 := HR.out.c 0; have r1 := HR.out.c 1; have r2 := HR.out.c 2; have r3 := HR.out.c 3; simp at r0 r1 r2 r3; have q0 := HR.out.f 0; have q1 := HR.out.f 1; have q2 := HR.out.f 2; have q3 := HR.out.f 3; replace HB := Hk.mk (kw_step HB.out hNW hb); clear hb; clear hc hf hl hn' hm; obtain ⟨hc, hf, hl, hn', hm⟩ := kw_rules HB.out hNW)
    refine bodyPost_ret (v := .tuple #[.agg #[.int .i64 0, .int .i64 0, .slice none 0 0, .slice none 0 0], .slice none 0 0, .int .i64 3]) (by simp [results, Tryd.results57, go_sem, r0, r1, r2, r3]) rfl ⟨rfl, ?_⟩
    exact HTR.out _ (((((HB.out.setCell (p := ⟨w.heap.size + 1, 0, none⟩) (Nat.le_refl _) (.int .i64 0)).setCell (p := ⟨w.heap.size + 1, 1, none⟩) (Nat.le_refl _) (.int .i64 0)).setCell (p := ⟨w.heap.size + 1, 2, none⟩) (Nat.le_refl _) (.slice none 0 0)).setCell (p := ⟨w.heap.size + 1, 3, none⟩) (Nat.le_refl _) (.slice none 0 0)))
  · have d1 : decide (goal < 0) = false := by simpa using g
    have d2 : decide ((n : Int) ≤ goal) = true := by simp; omega
    go_enter Tryd.func57, Tryd.ntmps57
    go_wp2_with (go_at_call 20; (refine (good_yes W H a n c xs la ln lc bs cl s _ (HLL.out _ HB.out).lc ?_ ?_ hn hln hc3 hs MM).mono ?_); (exact (HBY.out _ HB.out).mono (hsz1 HB.out)); (exact (HBQ.out _ HB.out).mono (hsz1 HB.out)); rintro e z ⟨I, rfl, hI, hAi, hb⟩; replace HR := Hk.mk (HR.out.below hb); clear hI hAi; have HRB := Hk.mk HR.out; have r0 := HR.out.c 0; have r1 := HR.out.c 1; have r2 := HR.out.c 2; have r3 := HR.out.c 3; simp at r0 r1 r2 r3; have q0 := HR.out.f 0; have q1 := HR.out.f 1; have q2 := HR.out.f 2; have q3 := HR.out.f 3; replace HB := Hk.mk (kw_step HB.out hNW hb); clear hb; clear hc hf hl hn' hm; obtain ⟨hc, hf, hl, hn', hm⟩ := kw_rules HB.out hNW)
    refine bodyPost_ret (v := .tuple #[.agg #[.int .i64 0, .int .i64 0, .slice none 0 0, .slice none 0 0], .slice none 0 0, .int .i64 3]) (by simp [results, Tryd.results57, go_sem, r0, r1, r2, r3]) rfl ⟨rfl, ?_⟩
    exact HTR.out _ (((((HB.out.setCell (p := ⟨w.heap.size + 1, 0, none⟩) (Nat.le_refl _) (.int .i64 0)).setCell (p := ⟨w.heap.size + 1, 1, none⟩) (Nat.le_refl _) (.int .i64 0)).setCell (p := ⟨w.heap.size + 1, 2, none⟩) (Nat.le_refl _) (.slice none 0 0)).setCell (p := ⟨w.heap.size + 1, 3, none⟩) (Nat.le_refl _) (.slice none 0 0)))
set_option maxRecDepth 100000 in
theorem make_no (W H : Int) (a : Option Addr) (n c : Nat) (xs : List Int) (la : Option Addr) (ln lc : Nat) (bs : List Bd) (x sz goal : Int) (w : World) (hL : LF w) (h : By w w.heap.size a n xs) (hb0 : Bq w w.heap.size la ln bs) (hn : n ≤ 140737488355328) (hln : ln ≤ 1099511627776) (MM : Hk (¬ (MOk W H n xs bs ∧ (0 ≤ x ∧ x ≤ 2) ∧ 0 ≤ sz ∧ sz ≤ 3))) :
    Calls Tryd.prog 28 #[.agg #[.int .i64 W, .int .i64 H, .slice a n c], .slice la ln lc, .int .i64 x, .int .i64 sz, .int .i64 goal] w fun e w' => e = .returned (.tuple #[.slice none 0 0, .int .i64 1]) ∧ Below w.heap.size w w' := by
  have HWB : Hk (Below w.heap.size w (w.alloc (.cells #[.int .i64 W, .int .i64 H, .slice a n c] 24))) := ⟨(Below.refl _ _).alloc (Nat.le_refl _) _⟩
  have hNW : w.heap.size + 1 ≤ ((w.alloc (.cells #[.int .i64 W, .int .i64 H, .slice a n c] 24))).heap.size := by simp
  have HB : Hk (Below (w.heap.size + 1) (w.alloc (.cells #[.int .i64 W, .int .i64 H, .slice a n c] 24)) (w.alloc (.cells #[.int .i64 W, .int .i64 H, .slice a n c] 24))) := ⟨by first | exact Below.refl _ _ | exact (Below.refl _ _).alloc (by simp) _⟩
  have HTR : Hk (∀ X, Below (w.heap.size + 1) (w.alloc (.cells #[.int .i64 W, .int .i64 H, .slice a n c] 24)) X → Below w.heap.size w X) := ⟨fun X hX => HWB.out.trans (hX.mono (by omega))⟩
  have HBY := Hk.mk (fun (X : World) (hX : Below (w.heap.size + 1) (w.alloc (.cells #[.int .i64 W, .int .i64 H, .slice a n c] 24)) X) => h.below (HTR.out X hX) (Nat.le_refl _))
  have HBQ := Hk.mk (fun (X : World) (hX : Below (w.heap.size + 1) (w.alloc (.cells #[.int .i64 W, .int .i64 H, .slice a n c] 24)) X) => hb0.below (HTR.out X hX) (Nat.le_refl _))
  have HLL := Hk.mk (fun (X : World) (hX : Below (w.heap.size + 1) (w.alloc (.cells #[.int .i64 W, .int .i64 H, .slice a n c] 24)) X) => hL.below (HTR.out X hX) (Nat.le_refl _))
  clear h hb0 hL
  obtain ⟨hc, hf, hl, hn', hm⟩ := kw_rules HB.out hNW
  go_enter Tryd.func28, Tryd.ntmps28
  go_wp2_with (go_at_call 57; (refine (reckon_no W H a n c xs la ln lc bs x sz goal _ (HLL.out _ HB.out) ?_ ?_ hn hln MM).mono ?_); (exact (HBY.out _ HB.out).mono (hsz1 HB.out)); (exact (HBQ.out _ HB.out).mono (hsz1 HB.out)); rintro e z ⟨rfl, hb⟩; replace HB := Hk.mk (kw_step HB.out hNW hb); clear hb; clear hc hf hl hn' hm; obtain ⟨hc, hf, hl, hn', hm⟩ := kw_rules HB.out hNW)
  go_ret2
  exact ⟨rfl, HTR.out _ (kw_al HB.out hNW _)⟩
set_option maxRecDepth 100000 in
theorem make_none (W H : Int) (a : Option Addr) (n c : Nat) (xs : List Int) (la : Option Addr) (ln lc : Nat) (bs : List Bd) (cl s : Nat) (goal : Int) (w : World) (hL : LF w) (h : By w w.heap.size a n xs) (hb0 : Bq w w.heap.size la ln bs) (hn : n ≤ 140737488355328) (hln : ln ≤ 1099511627776) (hc3 : cl < 3) (hs : s ≤ 3) (MM : Hk (MOk W H n xs bs)) (hg : goal < 0 ∨ (n : Int) ≤ goal) :
    Calls Tryd.prog 28 #[.agg #[.int .i64 W, .int .i64 H, .slice a n c], .slice la ln lc, .int .i64 cl, .int .i64 s, .int .i64 goal] w fun e w' => e = .returned (.tuple #[.slice none 0 0, .int .i64 3]) ∧ Below w.heap.size w w' := by
  have HWB : Hk (Below w.heap.size w (w.alloc (.cells #[.int .i64 W, .int .i64 H, .slice a n c] 24))) := ⟨(Below.refl _ _).alloc (Nat.le_refl _) _⟩
  have hNW : w.heap.size + 1 ≤ ((w.alloc (.cells #[.int .i64 W, .int .i64 H, .slice a n c] 24))).heap.size := by simp
  have HB : Hk (Below (w.heap.size + 1) (w.alloc (.cells #[.int .i64 W, .int .i64 H, .slice a n c] 24)) (w.alloc (.cells #[.int .i64 W, .int .i64 H, .slice a n c] 24))) := ⟨by first | exact Below.refl _ _ | exact (Below.refl _ _).alloc (by simp) _⟩
  have HTR : Hk (∀ X, Below (w.heap.size + 1) (w.alloc (.cells #[.int .i64 W, .int .i64 H, .slice a n c] 24)) X → Below w.heap.size w X) := ⟨fun X hX => HWB.out.trans (hX.mono (by omega))⟩
  have HBY := Hk.mk (fun (X : World) (hX : Below (w.heap.size + 1) (w.alloc (.cells #[.int .i64 W, .int .i64 H, .slice a n c] 24)) X) => h.below (HTR.out X hX) (Nat.le_refl _))
  have HBQ := Hk.mk (fun (X : World) (hX : Below (w.heap.size + 1) (w.alloc (.cells #[.int .i64 W, .int .i64 H, .slice a n c] 24)) X) => hb0.below (HTR.out X hX) (Nat.le_refl _))
  have HLL := Hk.mk (fun (X : World) (hX : Below (w.heap.size + 1) (w.alloc (.cells #[.int .i64 W, .int .i64 H, .slice a n c] 24)) X) => hL.below (HTR.out X hX) (Nat.le_refl _))
  clear h hb0 hL
  obtain ⟨hc, hf, hl, hn', hm⟩ := kw_rules HB.out hNW
  go_enter Tryd.func28, Tryd.ntmps28
  go_wp2_with (go_at_call 57; (refine (reckon_none W H a n c xs la ln lc bs cl s goal _ (HLL.out _ HB.out) ?_ ?_ hn hln hc3 hs MM hg).mono ?_); (exact (HBY.out _ HB.out).mono (hsz1 HB.out)); (exact (HBQ.out _ HB.out).mono (hsz1 HB.out)); rintro e z ⟨rfl, hb⟩; replace HB := Hk.mk (kw_step HB.out hNW hb); clear hb; clear hc hf hl hn' hm; obtain ⟨hc, hf, hl, hn', hm⟩ := kw_rules HB.out hNW)
  go_ret2
  exact ⟨rfl, HTR.out _ (kw_al HB.out hNW _)⟩
set_option maxRecDepth 100000 in
theorem make_yes (W H : Int) (a : Option Addr) (n c : Nat) (xs : List Int) (la : Option Addr) (ln lc : Nat) (bs : List Bd) (cl s goal : Nat) (w : World) (hL : LF w) (h : By w w.heap.size a n xs) (hb0 : Bq w w.heap.size la ln bs) (hn : n ≤ 140737488355328) (hln : ln ≤ 1099511627776) (hc3 : cl < 3) (hs : s ≤ 3) (MM : Hk (MOk W H n xs bs)) (hg : goal < n) :
    Calls Tryd.prog 28 #[.agg #[.int .i64 W, .int .i64 H, .slice a n c], .slice la ln lc, .int .i64 cl, .int .i64 s, .int .i64 goal] w fun e w' => ∃ J D, e = .returned (.tuple #[.slice (some ⟨J, 0, none⟩) n n, .int .i64 0]) ∧ w.heap.size ≤ J ∧ Arr w' J n 3 (fun t => .int .i64 (D t)) ∧ TabG n (tT W H (gdF W H xs bs cl s)) (tC W H (kcF cl xs)) goal (gdF W H xs bs cl s goal) D ∧ Below w.heap.size w w' := by
  have HWB : Hk (Below w.heap.size w (w.alloc (.cells #[.int .i64 W, .int .i64 H, .slice a n c] 24))) := ⟨(Below.refl _ _).alloc (Nat.le_refl _) _⟩
  have hNW : w.heap.size + 1 ≤ ((w.alloc (.cells #[.int .i64 W, .int .i64 H, .slice a n c] 24))).heap.size := by simp
  have HB : Hk (Below (w.heap.size + 1) (w.alloc (.cells #[.int .i64 W, .int .i64 H, .slice a n c] 24)) (w.alloc (.cells #[.int .i64 W, .int .i64 H, .slice a n c] 24))) := ⟨by first | exact Below.refl _ _ | exact (Below.refl _ _).alloc (by simp) _⟩
  have HTR : Hk (∀ X, Below (w.heap.size + 1) (w.alloc (.cells #[.int .i64 W, .int .i64 H, .slice a n c] 24)) X → Below w.heap.size w X) := ⟨fun X hX => HWB.out.trans (hX.mono (by omega))⟩
  have HBY := Hk.mk (fun (X : World) (hX : Below (w.heap.size + 1) (w.alloc (.cells #[.int .i64 W, .int .i64 H, .slice a n c] 24)) X) => h.below (HTR.out X hX) (Nat.le_refl _))
  have HBQ := Hk.mk (fun (X : World) (hX : Below (w.heap.size + 1) (w.alloc (.cells #[.int .i64 W, .int .i64 H, .slice a n c] 24)) X) => hb0.below (HTR.out X hX) (Nat.le_refl _))
  have HLL := Hk.mk (fun (X : World) (hX : Below (w.heap.size + 1) (w.alloc (.cells #[.int .i64 W, .int .i64 H, .slice a n c] 24)) X) => hL.below (HTR.out X hX) (Nat.le_refl _))
  clear h hb0 hL
  obtain ⟨hc, hf, hl, hn', hm⟩ := kw_rules HB.out hNW
  go_enter Tryd.func28, Tryd.ntmps28
  go_wp2_with (go_at_call 57; (refine (reckon_yes W H a n c xs la ln lc bs cl s goal _ (HLL.out _ HB.out) ?_ ?_ hn hln hc3 hs MM hg).mono ?_); (exact (HBY.out _ HB.out).mono (hsz1 HB.out)); (exact (HBQ.out _ HB.out).mono (hsz1 HB.out)); rintro e z ⟨I, K, J, D, rfl, hr, hb⟩; have HFR := Hk.mk hr; have HSZ : Hk (w.heap.size ≤ J) := ⟨Nat.le_trans (hsz1 HB.out) hr.j⟩; clear hr; replace HB := Hk.mk (kw_step HB.out hNW hb); clear hb; clear hc hf hl hn' hm; obtain ⟨hc, hf, hl, hn', hm⟩ := kw_rules HB.out hNW)
  go_ret2
  exact ⟨J, D, rfl, HSZ.out, HFR.out.aj.alloc _, HFR.out.tab, HTR.out _ (kw_al HB.out hNW _)⟩
theorem num13_any (n : Int) (w : World) : Calls Tryd.prog 21 #[.int .i64 n] w fun e w' => e = .returned (.int .i64 n) ∧ w = w' := by
  go_enter Tryd.func21, Tryd.ntmps21
  go_wp2
  go_ret
  exact ⟨rfl, rfl⟩
def dTwo (k : Nat) : Int := if k = 0 then 20 else 0
theorem good_two : gdF 2 1 [0, 0] [] 0 0 1 = true := by decide
theorem rel_two : ∀ t : Fin 2, ∀ i : Fin 8, 0 ≤ tT 2 1 (gdF 2 1 [0, 0] [] 0 0) t.val i.val → 0 ≤ dTwo (tT 2 1 (gdF 2 1 [0, 0] [] 0 0) t.val i.val).toNat ∧ dTwo (tT 2 1 (gdF 2 1 [0, 0] [] 0 0) t.val i.val).toNat ≤ dTwo t.val + tC 2 1 (kcF 0 [0, 0]) t.val i.val := by decide
theorem tab_two : Tab 2 (tT 2 1 (gdF 2 1 [0, 0] [] 0 0)) (tC 2 1 (kcF 0 [0, 0])) 1 dTwo := by
  refine ⟨rfl, fun t _ => by unfold dTwo; split <;> omega, fun t ht h0 => ?_, fun t i ht hi _ h => rel_two ⟨t, ht⟩ ⟨i, hi⟩ h⟩
  match t, ht with
  | 0, _ => exact ⟨1, 1, 3, by omega, by omega, by decide, rfl, by decide⟩
  | 1, _ => exact ⟨0, rfl, rfl⟩
set_option maxRecDepth 100000 in
theorem wakes13_any (w : World) (hL : LF w) : Calls Tryd.prog 24 #[] w fun e w' => e = .returned (.bool true) ∧ Below w.heap.size w w' := by
  have hM : MOk 2 1 2 [0, 0] [] := ⟨⟨by omega, by omega, by omega, by omega, by decide, by decide⟩, by simp, fun k hk => by simp at hk, by simp, by simp, by simp, fun i j h1 h2 => by simp at h2⟩
  have MM := Hk.mk hM
  have HBY := Hk.mk (By.lit w [0, 0] 5 (0, 0) (w.heap.size + 1) 2 rfl (fun b hb => by simp at hb; subst hb; exact ⟨by omega, by omega⟩) (by omega))
  have HL := Hk.mk (hL.below ((Below.refl _ _).alloc (Nat.le_refl _) (.cells (([0, 0] : List Int).map (Value.int .u8)).toArray 5)) (Nat.le_refl _))
  have hmk : ∀ w, (Instr.makeSlice 22 (.int .i64 2) (.int .i64 2)).run Tryd.prog w = .ok (.slice (some ⟨w.heap.size, 0, none⟩) 2 2) (w.alloc (.cells #[.int .u8 0, .int .u8 0] 5)) := fun _ => by kernel_rfl
  clear hM hL
  go_enter Tryd.func24, Tryd.ntmps24
  go_wp2_with (first
    | (go_at_call 28; go_must (refine (make_yes 2 1 (some ⟨w.heap.size, 0, none⟩) 2 2 [0, 0] none 0 0 [] 0 0 1 _ HL.out (HBY.out.mono (by simp)) ⟨rfl, fun h => absurd h (by omega)⟩ (by omega) (by omega) (by omega) (by omega) MM (by omega)).mono ?_); rintro e w1 ⟨J, D, rfl, hJ, hA, hT, hb1⟩; have hD : ∀ k, k < 2 → (fun t => Value.int .i64 (dTwo t)) k = (fun t => Value.int .i64 (D t)) k := (fun k hk => by unfold TabG at hT; rw [if_pos good_two] at hT; show Value.int .i64 (dTwo k) = Value.int .i64 (D k); rw [hT.eq tab_two hk]); have HNQ : Hk (Nq w1 (J + 1) (some ⟨J, 0, none⟩) 2 [20, 0]) := ⟨(hA.congr hD).nq (B := J + 1) (Nat.lt_succ_self J)⟩; have HB1 := Hk.mk hb1; have hz1 := hb1.size; simp at hz1; have hgl := hA.lt; have HNL := Hk.mk (nq_lit w1 [20, 0] 3 2 rfl); clear hA hb1 hT hD)
    | (go_at_call 21; (with_reducible refine (num13_any _ _).mono ?_); rintro e w' ⟨rfl, rfl⟩)
    | (go_at_call 29; go_must (refine (eqn_yes (some ⟨J, 0, none⟩) (some ⟨w1.heap.size, 0, none⟩) 2 2 2 (J + 1) (w1.heap.size + 1) [20, 0] _ (HNQ.out.below ((Below.refl _ _).alloc (Nat.le_refl _) _) (by omega)) HNL.out (by omega)).mono ?_); rintro e w2 ⟨rfl, m, rfl⟩))
  go_ret
  exact ⟨rfl, below_drewN ((((Below.refl _ _).alloc (Nat.le_refl _) _).trans (HB1.out.mono (by simp <;> omega))).alloc (by omega) _) _⟩
end Go.Proofs.YthabjihpjdlmoaaDoor
