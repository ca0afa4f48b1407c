import Derived.Deep.QuietTactic
import Derived.BigQuiet
import Derived.Deep.RegionWith
import Derived.Deep.RegionHeld3
import Derived.Deep.DeepCutAuto
import Derived.Deep.DeepFit
import Derived.Outline
import Derived.Test.YthabjihpjdlmoaaDoorFky
import Derived.Test.YthabjihpjdlmoaaDoorFkd
import Derived.Lib.JoinLaws
import Derived.ArgAppend
/- Layer 13: what is refused; Make; two tiles. -/
namespace Go.Proofs.YthabjihpjdlmoaaDoor
open Go.ChangeShapes Go.WideShapes Go.ChangeAt Go.RowKit Go.Deep
set_option linter.unusedVariables false
set_option linter.unusedSimpArgs false
set_option maxRecDepth 100000 in
set_option maxHeartbeats 1600000 in
theorem reckon_no (W H : Int) (a : Option Addr) (n c : Nat) (xs : List Int) (la : Option Addr) (ln lc : Nat) (bs : List Bd) (x sz goal : Int) (w : World) (hL : LF w) (h : By w w.heap.size a n xs) (hb0 : Bq w w.heap.size la ln bs) (hn : n ≤ 140737488355328) (hln : ln ≤ 1099511627776) (MM : Hk (¬ (MOk W H n xs bs ∧ (0 ≤ x ∧ x ≤ 2) ∧ 0 ≤ sz ∧ sz ≤ 3))) :
    Calls Tryd.prog 57 #[.agg #[.int .i64 W, .int .i64 H, .slice a n c], .slice la ln lc, .int .i64 x, .int .i64 sz, .int .i64 goal] w fun e w' => e = .returned (.tuple #[.agg #[.int .i64 0, .int .i64 0, .slice none 0 0, .slice none 0 0], .slice none 0 0, .int .i64 1]) ∧ Below w.heap.size w w' := by
  have HWB : Hk (Below w.heap.size w (w.alloc (.cells #[.int .i64 W, .int .i64 H, .slice a n c] 24))) := ⟨(Below.refl _ _).alloc (Nat.le_refl _) _⟩
  have hNW : w.heap.size + 1 ≤ ((w.alloc (.cells #[.int .i64 W, .int .i64 H, .slice a n c] 24))).heap.size := by simp
  have HB : Hk (Below (w.heap.size + 1) (w.alloc (.cells #[.int .i64 W, .int .i64 H, .slice a n c] 24)) ((w.alloc (.cells #[.int .i64 W, .int .i64 H, .slice a n c] 24)).alloc (.cells #[.int .i64 0, .int .i64 0, .slice none 0 0, .slice none 0 0] 82))) := ⟨by first | exact Below.refl _ _ | exact (Below.refl _ _).alloc (by simp) _⟩
  have HTR : Hk (∀ X, Below (w.heap.size + 1) (w.alloc (.cells #[.int .i64 W, .int .i64 H, .slice a n c] 24)) X → Below w.heap.size w X) := ⟨fun X hX => HWB.out.trans (hX.mono (by omega))⟩
  have HBY := Hk.mk (fun (X : World) (hX : Below (w.heap.size + 1) (w.alloc (.cells #[.int .i64 W, .int .i64 H, .slice a n c] 24)) X) => h.below (HTR.out X hX) (Nat.le_refl _))
  have HBQ := Hk.mk (fun (X : World) (hX : Below (w.heap.size + 1) (w.alloc (.cells #[.int .i64 W, .int .i64 H, .slice a n c] 24)) X) => hb0.below (HTR.out X hX) (Nat.le_refl _))
  have HLL := Hk.mk (fun (X : World) (hX : Below (w.heap.size + 1) (w.alloc (.cells #[.int .i64 W, .int .i64 H, .slice a n c] 24)) X) => hL.below (HTR.out X hX) (Nat.le_refl _))
  have HR : Hk (Bk ((w.alloc (.cells #[.int .i64 W, .int .i64 H, .slice a n c] 24)).alloc (.cells #[.int .i64 0, .int .i64 0, .slice none 0 0, .slice none 0 0] 82)) ((w.alloc (.cells #[.int .i64 W, .int .i64 H, .slice a n c] 24))).heap.size #[.int .i64 0, .int .i64 0, .slice none 0 0, .slice none 0 0]) := ⟨Bk.new _ _ _⟩
  have hWs : ((w.alloc (.cells #[.int .i64 W, .int .i64 H, .slice a n c] 24))).heap.size = w.heap.size + 1 := by simp
  rw [hWs] at HR
  clear hWs
  clear h hb0 hL
  obtain ⟨hc, hf, hl, hn', hm⟩ := kw_rules HB.out hNW
  go_enter Tryd.func57, Tryd.ntmps57
  go_wp2_with (go_at_call 20; (refine (good_no W H a n c xs la ln lc bs x sz _ (HLL.out _ HB.out).lc ?_ ?_ hn hln MM).mono ?_); (exact (HBY.out _ HB.out).mono (hsz1 HB.out)); (exact (HBQ.out _ HB.out).mono (hsz1 HB.out)); rintro e z ⟨rfl, hb⟩; replace HR := Hk.mk (HR.out.below hb); have HRB := Hk.mk HR.out; have r0 := HR.out.c 0; have r1 := HR.out.c 1; have r2 := HR.out.c 2; have r3 := HR.out.c 3; simp at r0 r1 r2 r3; have q0 := HR.out.f 0; have q1 := HR.out.f 1; have q2 := HR.out.f 2; have q3 := HR.out.f 3; replace HB := Hk.mk (kw_step HB.out hNW hb); clear hb; clear hc hf hl hn' hm; obtain ⟨hc, hf, hl, hn', hm⟩ := kw_rules HB.out hNW)
  refine bodyPost_ret (v := .tuple #[.agg #[.int .i64 0, .int .i64 0, .slice none 0 0, .slice none 0 0], .slice none 0 0, .int .i64 1]) (by simp [results, Tryd.results57, go_sem, r0, r1, r2, r3]) rfl ⟨rfl, ?_⟩
  exact HTR.out _ (((((HB.out.setCell (p := ⟨w.heap.size + 1, 0, none⟩) (Nat.le_refl _) (.int .i64 0)).setCell (p := ⟨w.heap.size + 1, 1, none⟩) (Nat.le_refl _) (.int .i64 0)).setCell (p := ⟨w.heap.size + 1, 2, none⟩) (Nat.le_refl _) (.slice none 0 0)).setCell (p := ⟨w.heap.size + 1, 3, none⟩) (Nat.le_refl _) (.slice none 0 0)))
set_option maxRecDepth 100000 in
set_option maxHeartbeats 1600000 in
theorem reckon_none (W H : Int) (a : Option Addr) (n c : Nat) (xs : List Int) (la : Option Addr) (ln lc : Nat) (bs : List Bd) (cl s : Nat) (goal : Int) (w : World) (hL : LF w) (h : By w w.heap.size a n xs) (hb0 : Bq w w.heap.size la ln bs) (hn : n ≤ 140737488355328) (hln : ln ≤ 1099511627776) (hc3 : cl < 3) (hs : s ≤ 3) (MM : Hk (MOk W H n xs bs)) (hg : goal < 0 ∨ (n : Int) ≤ goal) :
    Calls Tryd.prog 57 #[.agg #[.int .i64 W, .int .i64 H, .slice a n c], .slice la ln lc, .int .i64 cl, .int .i64 s, .int .i64 goal] w fun e w' => e = .returned (.tuple #[.agg #[.int .i64 0, .int .i64 0, .slice none 0 0, .slice none 0 0], .slice none 0 0, .int .i64 3]) ∧ Below w.heap.size w w' := by
  have HWB : Hk (Below w.heap.size w (w.alloc (.cells #[.int .i64 W, .int .i64 H, .slice a n c] 24))) := ⟨(Below.refl _ _).alloc (Nat.le_refl _) _⟩
  have hNW : w.heap.size + 1 ≤ ((w.alloc (.cells #[.int .i64 W, .int .i64 H, .slice a n c] 24))).heap.size := by simp
  have HB : Hk (Below (w.heap.size + 1) (w.alloc (.cells #[.int .i64 W, .int .i64 H, .slice a n c] 24)) ((w.alloc (.cells #[.int .i64 W, .int .i64 H, .slice a n c] 24)).alloc (.cells #[.int .i64 0, .int .i64 0, .slice none 0 0, .slice none 0 0] 82))) := ⟨by first | exact Below.refl _ _ | exact (Below.refl _ _).alloc (by simp) _⟩
  have HTR : Hk (∀ X, Below (w.heap.size + 1) (w.alloc (.cells #[.int .i64 W, .int .i64 H, .slice a n c] 24)) X → Below w.heap.size w X) := ⟨fun X hX => HWB.out.trans (hX.mono (by omega))⟩
  have HBY := Hk.mk (fun (X : World) (hX : Below (w.heap.size + 1) (w.alloc (.cells #[.int .i64 W, .int .i64 H, .slice a n c] 24)) X) => h.below (HTR.out X hX) (Nat.le_refl _))
  have HBQ := Hk.mk (fun (X : World) (hX : Below (w.heap.size + 1) (w.alloc (.cells #[.int .i64 W, .int .i64 H, .slice a n c] 24)) X) => hb0.below (HTR.out X hX) (Nat.le_refl _))
  have HLL := Hk.mk (fun (X : World) (hX : Below (w.heap.size + 1) (w.alloc (.cells #[.int .i64 W, .int .i64 H, .slice a n c] 24)) X) => hL.below (HTR.out X hX) (Nat.le_refl _))
  have HR : Hk (Bk ((w.alloc (.cells #[.int .i64 W, .int .i64 H, .slice a n c] 24)).alloc (.cells #[.int .i64 0, .int .i64 0, .slice none 0 0, .slice none 0 0] 82)) ((w.alloc (.cells #[.int .i64 W, .int .i64 H, .slice a n c] 24))).heap.size #[.int .i64 0, .int .i64 0, .slice none 0 0, .slice none 0 0]) := ⟨Bk.new _ _ _⟩
  have hWs : ((w.alloc (.cells #[.int .i64 W, .int .i64 H, .slice a n c] 24))).heap.size = w.heap.size + 1 := by simp
  rw [hWs] at HR
  clear hWs
  clear h hb0 hL
  obtain ⟨hc, hf, hl, hn', hm⟩ := kw_rules HB.out hNW
  by_cases g : goal < 0
  · have d1 : decide (goal < 0) = true := by simpa using g
    go_enter Tryd.func57, Tryd.ntmps57
    go_wp2_with (go_at_call 20; (refine (good_yes W H a n c xs la ln lc bs cl s _ (HLL.out _ HB.out).lc ?_ ?_ hn hln hc3 hs MM).mono ?_); (exact (HBY.out _ HB.out).mono (hsz1 HB.out)); (exact (HBQ.out _ HB.out).mono (hsz1 HB.out)); rintro e z ⟨I, rfl, hI, hAi, hb⟩; replace HR := Hk.mk (HR.out.below hb); clear hI hAi; have HRB := Hk.mk HR.out; have r0 := HR.out.c 0; have r1 := HR.out.c 1; have r2 := HR.out.c 2; have r3 := HR.out.c 3; simp at r0 r1 r2 r3; have q0 := HR.out.f 0; have q1 := HR.out.f 1; have q2 := HR.out.f 2; have q3 := HR.out.f 3; replace HB := Hk.mk (kw_step HB.out hNW hb); clear hb; clear hc hf hl hn' hm; obtain ⟨hc, hf, hl, hn', hm⟩ := kw_rules HB.out hNW)
    refine bodyPost_ret (v := .tuple #[.agg #[.int .i64 0, .int .i64 0, .slice none 0 0, .slice none 0 0], .slice none 0 0, .int .i64 3]) (by simp [results, Tryd.results57, go_sem, r0, r1, r2, r3]) rfl ⟨rfl, ?_⟩
    exact HTR.out _ (((((HB.out.setCell (p := ⟨w.heap.size + 1, 0, none⟩) (Nat.le_refl _) (.int .i64 0)).setCell (p := ⟨w.heap.size + 1, 1, none⟩) (Nat.le_refl _) (.int .i64 0)).setCell (p := ⟨w.heap.size + 1, 2, none⟩) (Nat.le_refl _) (.slice none 0 0)).setCell (p := ⟨w.heap.size + 1, 3, none⟩) (Nat.le_refl _) (.slice none 0 0)))
  · have d1 : decide (goal < 0) = false := by simpa using g
    have d2 : decide ((n : Int) ≤ goal) = true := by simp; omega
    go_enter Tryd.func57, Tryd.ntmps57
    go_wp2_with (go_at_call 20; (refine (good_yes W H a n c xs la ln lc bs cl s _ (HLL.out _ HB.out).lc ?_ ?_ hn hln hc3 hs MM).mono ?_); (exact (HBY.out _ HB.out).mono (hsz1 HB.out)); (exact (HBQ.out _ HB.out).mono (hsz1 HB.out)); rintro e z ⟨I, rfl, hI, hAi, hb⟩; replace HR := Hk.mk (HR.out.below hb); clear hI hAi; have HRB := Hk.mk HR.out; have r0 := HR.out.c 0; have r1 := HR.out.c 1; have r2 := HR.out.c 2; have r3 := HR.out.c 3; simp at r0 r1 r2 r3; have q0 := HR.out.f 0; have q1 := HR.out.f 1; have q2 := HR.out.f 2; have q3 := HR.out.f 3; replace HB := Hk.mk (kw_step HB.out hNW hb); clear hb; clear hc hf hl hn' hm; obtain ⟨hc, hf, hl, hn', hm⟩ := kw_rules HB.out hNW)
    refine bodyPost_ret (v := .tuple #[.agg #[.int .i64 0, .int .i64 0, .slice none 0 0, .slice none 0 0], .slice none 0 0, .int .i64 3]) (by simp [results, Tryd.results57, go_sem, r0, r1, r2, r3]) rfl ⟨rfl, ?_⟩
    exact HTR.out _ (((((HB.out.setCell (p := ⟨w.heap.size + 1, 0, none⟩) (Nat.le_refl _) (.int .i64 0)).setCell (p := ⟨w.heap.size + 1, 1, none⟩) (Nat.le_refl _) (.int .i64 0)).setCell (p := ⟨w.heap.size + 1, 2, none⟩) (Nat.le_refl _) (.slice none 0 0)).setCell (p := ⟨w.heap.size + 1, 3, none⟩) (Nat.le_refl _) (.slice none 0 0)))
set_option maxRecDepth 100000 in
theorem make_no (W H : Int) (a : Option Addr) (n c : Nat) (xs : List Int) (la : Option Addr) (ln lc : Nat) (bs : List Bd) (x sz goal : Int) (w : World) (hL : LF w) (h : By w w.heap.size a n xs) (hb0 : Bq w w.heap.size la ln bs) (hn : n ≤ 140737488355328) (hln : ln ≤ 1099511627776) (MM : Hk (¬ (MOk W H n xs bs ∧ (0 ≤ x ∧ x ≤ 2) ∧ 0 ≤ sz ∧ sz ≤ 3))) :
    Calls Tryd.prog 28 #[.agg #[.int .i64 W, .int .i64 H, .slice a n c], .slice la ln lc, .int .i64 x, .int .i64 sz, .int .i64 goal] w fun e w' => e = .returned (.tuple #[.slice none 0 0, .int .i64 1]) ∧ Below w.heap.size w w' := by
  have HWB : Hk (Below w.heap.size w (w.alloc (.cells #[.int .i64 W, .int .i64 H, .slice a n c] 24))) := ⟨(Below.refl _ _).alloc (Nat.le_refl _) _⟩
  have hNW : w.heap.size + 1 ≤ ((w.alloc (.cells #[.int .i64 W, .int .i64 H, .slice a n c] 24))).heap.size := by simp
  have HB : Hk (Below (w.heap.size + 1) (w.alloc (.cells #[.int .i64 W, .int .i64 H, .slice a n c] 24)) (w.alloc (.cells #[.int .i64 W, .int .i64 H, .slice a n c] 24))) := ⟨by first | exact Below.refl _ _ | exact (Below.refl _ _).alloc (by simp) _⟩
  have HTR : Hk (∀ X, Below (w.heap.size + 1) (w.alloc (.cells #[.int .i64 W, .int .i64 H, .slice a n c] 24)) X → Below w.heap.size w X) := ⟨fun X hX => HWB.out.trans (hX.mono (by omega))⟩
  have HBY := Hk.mk (fun (X : World) (hX : Below (w.heap.size + 1) (w.alloc (.cells #[.int .i64 W, .int .i64 H, .slice a n c] 24)) X) => h.below (HTR.out X hX) (Nat.le_refl _))
  have HBQ := Hk.mk (fun (X : World) (hX : Below (w.heap.size + 1) (w.alloc (.cells #[.int .i64 W, .int .i64 H, .slice a n c] 24)) X) => hb0.below (HTR.out X hX) (Nat.le_refl _))
  have HLL := Hk.mk (fun (X : World) (hX : Below (w.heap.size + 1) (w.alloc (.cells #[.int .i64 W, .int .i64 H, .slice a n c] 24)) X) => hL.below (HTR.out X hX) (Nat.le_refl _))
  clear h hb0 hL
  obtain ⟨hc, hf, hl, hn', hm⟩ := kw_rules HB.out hNW
  go_enter Tryd.func28, Tryd.ntmps28
  go_wp2_with (go_at_call 57; (refine (reckon_no W H a n c xs la ln lc bs x sz goal _ (HLL.out _ HB.out) ?_ ?_ hn hln MM).mono ?_); (exact (HBY.out _ HB.out).mono (hsz1 HB.out)); (exact (HBQ.out _ HB.out).mono (hsz1 HB.out)); rintro e z ⟨rfl, hb⟩; replace HB := Hk.mk (kw_step HB.out hNW hb); clear hb; clear hc hf hl hn' hm; obtain ⟨hc, hf, hl, hn', hm⟩ := kw_rules HB.out hNW)
  go_ret2
  exact ⟨rfl, HTR.out _ (kw_al HB.out hNW _)⟩
set_option maxRecDepth 100000 in
theorem make_none (W H : Int) (a : Option Addr) (n c : Nat) (xs : List Int) (la : Option Addr) (ln lc : Nat) (bs : List Bd) (cl s : Nat) (goal : Int) (w : World) (hL : LF w) (h : By w w.heap.size a n xs) (hb0 : Bq w w.heap.size la ln bs) (hn : n ≤ 140737488355328) (hln : ln ≤ 1099511627776) (hc3 : cl < 3) (hs : s ≤ 3) (MM : Hk (MOk W H n xs bs)) (hg : goal < 0 ∨ (n : Int) ≤ goal) :
    Calls Tryd.prog 28 #[.agg #[.int .i64 W, .int .i64 H, .slice a n c], .slice la ln lc, .int .i64 cl, .int .i64 s, .int .i64 goal] w fun e w' => e = .returned (.tuple #[.slice none 0 0, .int .i64 3]) ∧ Below w.heap.size w w' := by
  have HWB : Hk (Below w.heap.size w (w.alloc (.cells #[.int .i64 W, .int .i64 H, .slice a n c] 24))) := ⟨(Below.refl _ _).alloc (Nat.le_refl _) _⟩
  have hNW : w.heap.size + 1 ≤ ((w.alloc (.cells #[.int .i64 W, .int .i64 H, .slice a n c] 24))).heap.size := by simp
  have HB : Hk (Below (w.heap.size + 1) (w.alloc (.cells #[.int .i64 W, .int .i64 H, .slice a n c] 24)) (w.alloc (.cells #[.int .i64 W, .int .i64 H, .slice a n c] 24))) := ⟨by first | exact Below.refl _ _ | exact (Below.refl _ _).alloc (by simp) _⟩
  have HTR : Hk (∀ X, Below (w.heap.size + 1) (w.alloc (.cells #[.int .i64 W, .int .i64 H, .slice a n c] 24)) X → Below w.heap.size w X) := ⟨fun X hX => HWB.out.trans (hX.mono (by omega))⟩
  have HBY := Hk.mk (fun (X : World) (hX : Below (w.heap.size + 1) (w.alloc (.cells #[.int .i64 W, .int .i64 H, .slice a n c] 24)) X) => h.below (HTR.out X hX) (Nat.le_refl _))
  have HBQ := Hk.mk (fun (X : World) (hX : Below (w.heap.size + 1) (w.alloc (.cells #[.int .i64 W, .int .i64 H, .slice a n c] 24)) X) => hb0.below (HTR.out X hX) (Nat.le_refl _))
  have HLL := Hk.mk (fun (X : World) (hX : Below (w.heap.size + 1) (w.alloc (.cells #[.int .i64 W, .int .i64 H, .slice a n c] 24)) X) => hL.below (HTR.out X hX) (Nat.le_refl _))
  clear h hb0 hL
  obtain ⟨hc, hf, hl, hn', hm⟩ := kw_rules HB.out hNW
  go_enter Tryd.func28, Tryd.ntmps28
  go_wp2_with (go_at_call 57; (refine (reckon_none W H a n c xs la ln lc bs cl s goal _ (HLL.out _ HB.out) ?_ ?_ hn hln hc3 hs MM hg).mono ?_); (exact (HBY.out _ HB.out).mono (hsz1 HB.out)); (exact (HBQ.out _ HB.out).mono (hsz1 HB.out)); rintro e z ⟨rfl, hb⟩; replace HB := Hk.mk (kw_step HB.out hNW hb); clear hb; clear hc hf hl hn' hm; obtain ⟨hc, hf, hl, hn', hm⟩ := kw_rules HB.out hNW)
  go_ret2
  exact ⟨rfl, HTR.out _ (kw_al HB.out hNW _)⟩
set_option maxRecDepth 100000 in
theorem make_yes (W H : Int) (a : Option Addr) (n c : Nat) (xs : List Int) (la : Option Addr) (ln lc : Nat) (bs : List Bd) (cl s goal : Nat) (w : World) (hL : LF w) (h : By w w.heap.size a n xs) (hb0 : Bq w w.heap.size la ln bs) (hn : n ≤ 140737488355328) (hln : ln ≤ 1099511627776) (hc3 : cl < 3) (hs : s ≤ 3) (MM : Hk (MOk W H n xs bs)) (hg : goal < n) :
    Calls Tryd.prog 28 #[.agg #[.int .i64 W, .int .i64 H, .slice a n c], .slice la ln lc, .int .i64 cl, .int .i64 s, .int .i64 goal] w fun e w' => ∃ J D, e = .returned (.tuple #[.slice (some ⟨J, 0, none⟩) n n, .int .i64 0]) ∧ w.heap.size ≤ J ∧ Arr w' J n 3 (fun t => .int .i64 (D t)) ∧ TabG n (tT W H (gdF W H xs bs cl s)) (tC W H (kcF cl xs)) goal (gdF W H xs bs cl s goal) D ∧ Below w.heap.size w w' := by
  have HWB : Hk (Below w.heap.size w (w.alloc (.cells #[.int .i64 W, .int .i64 H, .slice a n c] 24))) := ⟨(Below.refl _ _).alloc (Nat.le_refl _) _⟩
  have hNW : w.heap.size + 1 ≤ ((w.alloc (.cells #[.int .i64 W, .int .i64 H, .slice a n c] 24))).heap.size := by simp
  have HB : Hk (Below (w.heap.size + 1) (w.alloc (.cells #[.int .i64 W, .int .i64 H, .slice a n c] 24)) (w.alloc (.cells #[.int .i64 W, .int .i64 H, .slice a n c] 24))) := ⟨by first | exact Below.refl _ _ | exact (Below.refl _ _).alloc (by simp) _⟩
  have HTR : Hk (∀ X, Below (w.heap.size + 1) (w.alloc (.cells #[.int .i64 W, .int .i64 H, .slice a n c] 24)) X → Below w.heap.size w X) := ⟨fun X hX => HWB.out.trans (hX.mono (by omega))⟩
  have HBY := Hk.mk (fun (X : World) (hX : Below (w.heap.size + 1) (w.alloc (.cells #[.int .i64 W, .int .i64 H, .slice a n c] 24)) X) => h.below (HTR.out X hX) (Nat.le_refl _))
  have HBQ := Hk.mk (fun (X : World) (hX : Below (w.heap.size + 1) (w.alloc (.cells #[.int .i64 W, .int .i64 H, .slice a n c] 24)) X) => hb0.below (HTR.out X hX) (Nat.le_refl _))
  have HLL := Hk.mk (fun (X : World) (hX : Below (w.heap.size + 1) (w.alloc (.cells #[.int .i64 W, .int .i64 H, .slice a n c] 24)) X) => hL.below (HTR.out X hX) (Nat.le_refl _))
  clear h hb0 hL
  obtain ⟨hc, hf, hl, hn', hm⟩ := kw_rules HB.out hNW
  go_enter Tryd.func28, Tryd.ntmps28
  go_wp2_with (go_at_call 57; (refine (reckon_yes W H a n c xs la ln lc bs cl s goal _ (HLL.out _ HB.out) ?_ ?_ hn hln hc3 hs MM hg).mono ?_); (exact (HBY.out _ HB.out).mono (hsz1 HB.out)); (exact (HBQ.out _ HB.out).mono (hsz1 HB.out)); rintro e z ⟨I, K, J, D, rfl, hr, hb⟩; have HFR := Hk.mk hr; have HSZ : Hk (w.heap.size ≤ J) := ⟨Nat.le_trans (hsz1 HB.out) hr.j⟩; clear hr; replace HB := Hk.mk (kw_step HB.out hNW hb); clear hb; clear hc hf hl hn' hm; obtain ⟨hc, hf, hl, hn', hm⟩ := kw_rules HB.out hNW)
  go_ret2
  exact ⟨J, D, rfl, HSZ.out, HFR.out.aj.alloc _, HFR.out.tab, HTR.out _ (kw_al HB.out hNW _)⟩
theorem num13_any (n : Int) (w : World) : Calls Tryd.prog 21 #[.int .i64 n] w fun e w' => e = .returned (.int .i64 n) ∧ w = w' := by
  go_enter Tryd.func21, Tryd.ntmps21
  go_wp2
  go_ret
  exact ⟨rfl, rfl⟩
def dTwo (k : Nat) : Int := if k = 0 then 20 else 0
theorem good_two : gdF 2 1 [0, 0] [] 0 0 1 = true := by decide
theorem rel_two : ∀ t : Fin 2, ∀ i : Fin 8, 0 ≤ tT 2 1 (gdF 2 1 [0, 0] [] 0 0) t.val i.val → 0 ≤ dTwo (tT 2 1 (gdF 2 1 [0, 0] [] 0 0) t.val i.val).toNat ∧ dTwo (tT 2 1 (gdF 2 1 [0, 0] [] 0 0) t.val i.val).toNat ≤ dTwo t.val + tC 2 1 (kcF 0 [0, 0]) t.val i.val := by decide
theorem tab_two : Tab 2 (tT 2 1 (gdF 2 1 [0, 0] [] 0 0)) (tC 2 1 (kcF 0 [0, 0])) 1 dTwo := by
  refine ⟨rfl, fun t _ => by unfold dTwo; split <;> omega, fun t ht h0 => ?_, fun t i ht hi _ h => rel_two ⟨t, ht⟩ ⟨i, hi⟩ h⟩
  match t, ht with
  | 0, _ => exact ⟨1, 1, 3, by omega, by omega, by decide, rfl, by decide⟩
  | 1, _ => exact ⟨0, rfl, rfl⟩
set_option maxRecDepth 100000 in
theorem wakes13_any (w : World) (hL : LF w) : Calls Tryd.prog 24 #[] w fun e w' => e = .returned (.bool true) ∧ Below w.heap.size w w' := by
  have hM : MOk 2 1 2 [0, 0] [] := ⟨⟨by omega, by omega, by omega, by omega, by decide, by decide⟩, by simp, fun k hk => by simp at hk, by simp, by simp, by simp, fun i j h1 h2 => by simp at h2⟩
  have MM := Hk.mk hM
  have HBY := Hk.mk (By.lit w [0, 0] 5 (0, 0) (w.heap.size + 1) 2 rfl (fun b hb => by simp at hb; subst hb; exact ⟨by omega, by omega⟩) (by omega))
  have HL := Hk.mk (hL.below ((Below.refl _ _).alloc (Nat.le_refl _) (.cells (([0, 0] : List Int).map (Value.int .u8)).toArray 5)) (Nat.le_refl _))
  have hmk : ∀ w, (Instr.makeSlice 22 (.int .i64 2) (.int .i64 2)).run Tryd.prog w = .ok (.slice (some ⟨w.heap.size, 0, none⟩) 2 2) (w.alloc (.cells #[.int .u8 0, .int .u8 0] 5)) := fun _ => by kernel_rfl
  clear hM hL
  go_enter Tryd.func24, Tryd.ntmps24
  go_wp2_with (first
    | (go_at_call 28; go_must (refine (make_yes 2 1 (some ⟨w.heap.size, 0, none⟩) 2 2 [0, 0] none 0 0 [] 0 0 1 _ HL.out (HBY.out.mono (by simp)) ⟨rfl, fun h => absurd h (by omega)⟩ (by omega) (by omega) (by omega) (by omega) MM (by omega)).mono ?_); rintro e w1 ⟨J, D, rfl, hJ, hA, hT, hb1⟩; have hD : ∀ k, k < 2 → (fun t => Value.int .i64 (dTwo t)) k = (fun t => Value.int .i64 (D t)) k := (fun k hk => by unfold TabG at hT; rw [if_pos good_two] at hT; show Value.int .i64 (dTwo k) = Value.int .i64 (D k); rw [hT.eq tab_two hk]); have HNQ : Hk (Nq w1 (J + 1) (some ⟨J, 0, none⟩) 2 [20, 0]) := ⟨(hA.congr hD).nq (B := J + 1) (Nat.lt_succ_self J)⟩; have HB1 := Hk.mk hb1; have hz1 := hb1.size; simp at hz1; have hgl := hA.lt; have HNL := Hk.mk (nq_lit w1 [20, 0] 3 2 rfl); clear hA hb1 hT hD)
    | (go_at_call 21; (with_reducible refine (num13_any _ _).mono ?_); rintro e w' ⟨rfl, rfl⟩)
    | (go_at_call 29; go_must (refine (eqn_yes (some ⟨J, 0, none⟩) (some ⟨w1.heap.size, 0, none⟩) 2 2 2 (J + 1) (w1.heap.size + 1) [20, 0] _ (HNQ.out.below ((Below.refl _ _).alloc (Nat.le_refl _) _) (by omega)) HNL.out (by omega)).mono ?_); rintro e w2 ⟨rfl, m, rfl⟩))
  go_ret
  exact ⟨rfl, below_drewN ((((Below.refl _ _).alloc (Nat.le_refl _) _).trans (HB1.out.mono (by simp <;> omega))).alloc (by omega) _) _⟩
end Go.Proofs.YthabjihpjdlmoaaDoor
/- Layer 13: where a tile's way goes on. -/
namespace Go.Proofs.YthabjihpjdlmoaaDoor
open Go.ChangeShapes Go.WideShapes Go.ChangeAt Go.RowKit Go.Deep
set_option linter.unusedVariables false
set_option linter.unusedSimpArgs false
/-- Is what is left paid on step i? -/
def hitD (T C : Nat → Nat → Int) (D : Nat → Int) (t i : Nat) : Prop := 0 ≤ T t i ∧ D (T t i).toNat + C t i = D t
/-- The first step on which what is left is paid; -1: there is none. -/
def IsDir (T C : Nat → Nat → Int) (D : Nat → Int) (t : Nat) (v : Int) : Prop := (v = -1 ∧ (D t ≤ 0 ∨ ∀ i, i < 8 → ¬ hitD T C D t i)) ∨ (∃ i : Nat, i < 8 ∧ v = (i : Int) ∧ 0 < D t ∧ hitD T C D t i ∧ ∀ j, j < i → ¬ hitD T C D t j)
theorem IsDir.one {T C : Nat → Nat → Int} {D : Nat → Int} {t : Nat} {v v' : Int} (h : IsDir T C D t v) (h' : IsDir T C D t v') : v = v' := by
  rcases h with ⟨e, h⟩ | ⟨i, hi, e, h0, h1, h2⟩
  · rcases h' with ⟨e', h'⟩ | ⟨j, hj, e', k0, k1, k2⟩
    · rw [e, e']
    · rcases h with h | h
      · omega
      · exact absurd k1 (h j hj)
  · rcases h' with ⟨e', h'⟩ | ⟨j, hj, e', k0, k1, k2⟩
    · rcases h' with h' | h'
      · omega
      · exact absurd h1 (h' i hi)
    · rcases Nat.lt_trichotomy i j with c | c | c
      · exact absurd h1 (k2 i c)
      · omega
      · exact absurd k1 (h2 j c)
theorem IsDir.congr {T C : Nat → Nat → Int} {D E : Nat → Int} {n t : Nat} {v : Int} (h : IsDir T C D t v) (hT : ∀ i, T t i < (n : Int)) (ht : t < n) (e : ∀ k, k < n → D k = E k) : IsDir T C E t v := by
  have hh : ∀ i, hitD T C D t i ↔ hitD T C E t i := fun i => by
    unfold hitD
    constructor
    · rintro ⟨a, b⟩
      have := hT i
      exact ⟨a, by rw [← e _ (by omega), ← e t ht]; exact b⟩
    · rintro ⟨a, b⟩
      have := hT i
      exact ⟨a, by rw [e _ (by omega), e t ht]; exact b⟩
  unfold IsDir at *
  rw [← e t ht]
  rcases h with ⟨a, b | b⟩ | ⟨i, a, b, c, d, f⟩
  · exact Or.inl ⟨a, Or.inl b⟩
  · exact Or.inl ⟨a, Or.inr fun i hi q => b i hi ((hh i).2 q)⟩
  · exact Or.inr ⟨i, a, b, c, (hh i).1 d, fun j hj q => f j hj ((hh j).2 q)⟩
set_option maxRecDepth 100000 in
set_option maxHeartbeats 1600000 in
theorem dir_any (W H : Int) (n I K J : Nat) (gd : Nat → Bool) (kc D : Nat → Int) (t : Nat) (w : World) (hL : LF w) (hA : Arr w I n 4 (fun k => .bool (gd k))) (hK : Arr w K n 3 (fun k => .int .i64 (kc k))) (hJ : Arr w J n 3 (fun k => .int .i64 (D k))) (DM : Dm W H n) (ht : t < n) (hk : Hk (∀ k, 0 ≤ kc k ∧ kc k ≤ 6)) (hS : Hk (Stp n (tT W H gd) (tC W H kc))) (hD : Hk (∀ k, k < n → -1 ≤ D k ∧ D k ≤ 1400000)) :
    Calls Tryd.prog 60 #[.agg #[.int .i64 W, .int .i64 H, .slice (some ⟨I, 0, none⟩) n n, .slice (some ⟨K, 0, none⟩) n n], .slice (some ⟨J, 0, none⟩) n n, .int .i64 t] w fun e w' => ∃ v, e = .returned (.int .i64 v) ∧ IsDir (tT W H gd) (tC W H kc) D t v ∧ Below w.heap.size w w' := by
  have HWB : Hk (Below w.heap.size w (w.alloc (.cells #[.int .i64 W, .int .i64 H, .slice (some ⟨I, 0, none⟩) n n, .slice (some ⟨K, 0, none⟩) n n] 82))) := ⟨(Below.refl _ _).alloc (Nat.le_refl _) _⟩
  have hNW : w.heap.size + 1 ≤ (w.alloc (.cells #[.int .i64 W, .int .i64 H, .slice (some ⟨I, 0, none⟩) n n, .slice (some ⟨K, 0, none⟩) n n] 82)).heap.size := by simp
  have HB : Hk (Below (w.heap.size + 1) (w.alloc (.cells #[.int .i64 W, .int .i64 H, .slice (some ⟨I, 0, none⟩) n n, .slice (some ⟨K, 0, none⟩) n n] 82)) (w.alloc (.cells #[.int .i64 W, .int .i64 H, .slice (some ⟨I, 0, none⟩) n n, .slice (some ⟨K, 0, none⟩) n n] 82))) := ⟨Below.refl _ _⟩
  have HTR : Hk (∀ X, Below (w.heap.size + 1) (w.alloc (.cells #[.int .i64 W, .int .i64 H, .slice (some ⟨I, 0, none⟩) n n, .slice (some ⟨K, 0, none⟩) n n] 82)) X → Below w.heap.size w X) := ⟨fun X hX => HWB.out.trans (hX.mono (by omega))⟩
  have HLL := Hk.mk (fun (X : World) (hX : Below (w.heap.size + 1) (w.alloc (.cells #[.int .i64 W, .int .i64 H, .slice (some ⟨I, 0, none⟩) n n, .slice (some ⟨K, 0, none⟩) n n] 82)) X) => hL.below (HTR.out X hX) (Nat.le_refl _))
  have HAI := Hk.mk (fun (X : World) (hX : Below (w.heap.size + 1) (w.alloc (.cells #[.int .i64 W, .int .i64 H, .slice (some ⟨I, 0, none⟩) n n, .slice (some ⟨K, 0, none⟩) n n] 82)) X) => hA.later (HTR.out X hX))
  have HAK := Hk.mk (fun (X : World) (hX : Below (w.heap.size + 1) (w.alloc (.cells #[.int .i64 W, .int .i64 H, .slice (some ⟨I, 0, none⟩) n n, .slice (some ⟨K, 0, none⟩) n n] 82)) X) => hK.later (HTR.out X hX))
  have HJ0 := Hk.mk (hJ.later HWB.out)
  have hJl := hJ.lt
  have jt := hJ.cell ht
  have t0 : (0 : Int) ≤ (t : Int) := by omega
  have t1 : (t : Int) < (n : Int) := by omega
  obtain ⟨y, hy⟩ : ∃ y, D t = y := ⟨_, rfl⟩
  have HY := Hk.mk hy
  have hyb := hD.out t ht
  rw [hy] at jt hyb
  have HDM := Hk.mk DM
  clear hL hA hK hJ hy DM
  obtain ⟨hc, hf, hl, hn', hm⟩ := kw_rules HB.out hNW
  by_cases hy0 : y ≤ 0
  · have d0 : decide (y ≤ 0) = true := by simpa using hy0
    go_enter Tryd.func60, Tryd.ntmps60
    go_wp2_with fail
    go_ret
    exact ⟨-1, rfl, Or.inl ⟨rfl, Or.inl (by rw [HY.out]; exact hy0)⟩, HTR.out _ HB.out⟩
  have d0 : decide (y ≤ 0) = false := by simpa using hy0
  go_enter Tryd.func60, Tryd.ntmps60
  go_wp2_with (go_at_call 82; (with_reducible refine (from_any W H n I K gd kc t _ (HLL.out _ HB.out) (HAI.out _ HB.out) (HAK.out _ HB.out) HDM.out ht hk).mono ?_); rintro e z4 ⟨rfl, hb⟩; replace HJ0 := Hk.mk (HJ0.out.later hb); replace HB := Hk.mk (kw_step HB.out hNW hb); clear hb; clear hc hf hl hn' hm; obtain ⟨hc, hf, hl, hn', hm⟩ := kw_rules HB.out hNW)
  have HT : Hk (∀ i, i < 8 → 0 ≤ tT W H gd t i → tT W H gd t i < (n : Int) ∧ 0 < tD W H gd kc t i ∧ tD W H gd kc t i ≤ 84 ∧ tD W H gd kc t i = tC W H kc t i) := ⟨fun i hi h => ⟨hS.out.lt t i ht, by rw [tD_ok h]; exact hS.out.pos t i ht h, by rw [tD_ok h]; exact hS.out.top t i ht, tD_ok h⟩⟩
  have HB := HB
  have HJ0 := HJ0
  clear hc hf hl hn' hm
  obtain ⟨T, hT⟩ : ∃ T : Nat → Int, tT W H gd t = T := ⟨_, rfl⟩
  obtain ⟨E, hE⟩ : ∃ E : Nat → Int, tD W H gd kc t = E := ⟨_, rfl⟩
  rw [hT, hE] at HT ⊢
  have HTE := Hk.mk (And.intro hT hE)
  clear hT hE jt
  go_loopw [17] (fun ii wr => ∃ (i : Nat), ii = .int .i64 i ∧ i ≤ 8 ∧ Hk (Below (w.heap.size + 1) (w.alloc (.cells #[.int .i64 W, .int .i64 H, .slice (some ⟨I, 0, none⟩) n n, .slice (some ⟨K, 0, none⟩) n n] 82)) wr) ∧ Hk (Arr wr J n 3 (fun j => .int .i64 (D j))) ∧ Hk (∀ j, j < i → ¬ hitD (tT W H gd) (tC W H kc) D t j)) (fun ii _ => 8 - (intOf ii).toNat)
  case atStart => exact ⟨0, rfl, by omega, HB, HJ0, ⟨fun j hj => absurd hj (by omega)⟩⟩
  case round =>
    clear HB HJ0
    obtain ⟨i, rfl, hi8, HB, HJ, HNO⟩ := hrel
    obtain ⟨hc, hf, hl, hn', hm⟩ := kw_rules HB.out hNW
    by_cases hlt : i < 8
    · have ix := idx16_any T E i hlt
      have i0' : (0 : Int) ≤ (i : Int) := by omega
      have i1' : (i : Int) < 8 := by omega
      obtain ⟨x, hx⟩ : ∃ x, T i = x := ⟨_, rfl⟩
      obtain ⟨ey, hey⟩ : ∃ ey, E i = ey := ⟨_, rfl⟩
      have HTI := Hk.mk (HT.out i hlt)
      rw [hx, hey] at ix HTI
      have HXE : Hk (tT W H gd t i = x) := ⟨by rw [HTE.out.1]; exact hx⟩
      clear hx hey
      have HB3 := Hk.mk (kw_al HB.out hNW (.cells #[.int .i64 x, .int .i64 ey] 112)).drew
      have HJ3 := Hk.mk (HJ.out.alloc (.cells #[.int .i64 x, .int .i64 ey] 112)).drew
      by_cases hx0 : x < 0
      · have dx : decide (0 ≤ x) = false := by simp; omega
        have hno : ¬ hitD (tT W H gd) (tC W H kc) D t i := fun h => by have := h.1; rw [HXE.out] at this; omega
        as_aux_lemma =>
          go_upto_region 6 with fail
          go_region
          go_wp2_with fail
          exact ⟨⟨i + 1, by go_num, by omega, HB3, HJ3, ⟨fun j hj => by
            by_cases e : j = i
            · rw [e]; exact hno
            · exact HNO.out j (by omega)⟩⟩, by simp [intOf]; omega⟩
      have hti := HTI.out (by omega)
      obtain ⟨u, hu⟩ : ∃ u : Nat, x = u := ⟨x.toNat, by omega⟩
      subst hu
      obtain ⟨q1, q2, q3, q4⟩ := hti
      have HQ4 := Hk.mk q4
      clear HTI q4 hx0
      have hun : u < n := by omega
      have u0 : (0 : Int) ≤ (u : Int) := by omega
      have dx : decide (0 ≤ (u : Int)) = true := by simp
      obtain ⟨z, hz⟩ : ∃ z, D u = z := ⟨_, rfl⟩
      have ju := HJ.out.cell hun
      have jt := HJ.out.cell ht
      have ju3 := HJ3.out.cell hun
      have jt3 := HJ3.out.cell ht
      have hzb := hD.out u hun
      rw [hz] at ju ju3 hzb
      rw [HY.out] at jt jt3
      have HZ := Hk.mk hz
      clear hz
      have HH : Hk (hitD (tT W H gd) (tC W H kc) D t i ↔ z + ey = y) := ⟨by
        unfold hitD
        rw [HXE.out, HY.out, ← HQ4.out]
        simp only [Int.toNat_natCast]
        rw [HZ.out]
        exact ⟨fun h => h.2, fun h => ⟨by omega, h⟩⟩⟩
      by_cases hh : z + ey = y
      · have dh : (z + ey == y) = true := by simpa using hh
        as_aux_lemma =>
          go_upto_region 6 with fail
          go_region
          go_wp2_with fail
          go_ret
          exact ⟨i, rfl, Or.inr ⟨i, hlt, rfl, by rw [HY.out]; omega, HH.out.2 hh, HNO.out⟩, HTR.out _ HB3.out⟩
      · have dh : (z + ey == y) = false := by simpa using hh
        have hno : ¬ hitD (tT W H gd) (tC W H kc) D t i := fun h => hh (HH.out.1 h)
        as_aux_lemma =>
          go_upto_region 6 with fail
          go_region
          go_wp2_with fail
          exact ⟨⟨i + 1, by go_num, by omega, HB3, HJ3, ⟨fun j hj => by
            by_cases e : j = i
            · rw [e]; exact hno
            · exact HNO.out j (by omega)⟩⟩, by simp [intOf]; omega⟩
    · obtain rfl : i = 8 := by omega
      as_aux_lemma =>
        go_wp2_with fail
        go_ret
        exact ⟨-1, rfl, Or.inl ⟨rfl, Or.inr HNO.out⟩, HTR.out _ HB.out⟩
end Go.Proofs.YthabjihpjdlmoaaDoor
/- Layer 13: Dirs. -/
namespace Go.Proofs.YthabjihpjdlmoaaDoor
open Go.ChangeShapes Go.WideShapes Go.ChangeAt Go.RowKit Go.Deep
set_option linter.unusedVariables false
set_option linter.unusedSimpArgs false
/-- How many tiles are nearer than v. -/
def cntL (D : Nat → Int) (v : Int) : Nat → Nat
  | 0 => 0
  | k + 1 => cntL D v k + (if 0 ≤ D k ∧ D k < v then 1 else 0)
theorem cntL_le (D : Nat → Int) (v : Int) : ∀ n, cntL D v n ≤ n
  | 0 => Nat.le_refl _
  | k + 1 => by
    have := cntL_le D v k
    unfold cntL
    split <;> omega
theorem cntL_mono {D : Nat → Int} {v v' : Int} (h : v' ≤ v) : ∀ n, cntL D v' n ≤ cntL D v n
  | 0 => Nat.le_refl _
  | k + 1 => by
    have := cntL_mono (D := D) h k
    unfold cntL
    split <;> split <;> omega
theorem cntL_lt {D : Nat → Int} {v v' : Int} {s : Nat} (h0 : 0 ≤ D s) (h1 : D s < v) (h2 : v' ≤ D s) : ∀ {n}, s < n → cntL D v' n + 1 ≤ cntL D v n
  | 0, h => by omega
  | k + 1, h => by
    by_cases e : s = k
    · subst e
      have := cntL_mono (D := D) (show v' ≤ v by omega) s
      unfold cntL
      rw [if_neg (by omega), if_pos ⟨h0, h1⟩]
      omega
    · have := cntL_lt h0 h1 h2 (n := k) (by omega)
      unfold cntL
      split <;> split <;> omega
theorem Tab.cnt {n g : Nat} {T C : Nat → Nat → Int} {D : Nat → Int} (h : Tab n T C g D) (hS : Stp n T C) (hg : g < n) : ∀ (m t : Nat), t < n → 0 ≤ D t → D t ≤ (m : Int) → D t ≤ 84 * (cntL D (D t) n : Int)
  | 0, t, _, _, _ => by omega
  | m + 1, t, ht, h0, hm => by
    by_cases e : D t = 0
    · omega
    · obtain ⟨s, i, hs, hi, _, h1, h2⟩ := h.prev hS hg ht (by omega)
      have h3 := hS.top s i hs
      have h4 := hS.pos s i hs (by omega)
      have h5 := h.cnt hS hg m s hs h1 (by omega)
      have h6 := cntL_lt (D := D) (v := D t) (v' := D s) h1 (by omega) (Int.le_refl _) hs
      omega
theorem tabG_bd {n g : Nat} {T C : Nat → Nat → Int} {ok : Bool} {D : Nat → Int} (h : TabG n T C g ok D) (hS : Stp n T C) (hg : g < n) (hn : n ≤ 16384) : ∀ k, k < n → -1 ≤ D k ∧ D k ≤ 1400000 := fun k hk => by
  unfold TabG at h
  cases ok
  · rw [if_neg (by decide)] at h
    rw [h k hk]
    omega
  · rw [if_pos rfl] at h
    have h1 := h.low k hk
    by_cases h0 : 0 ≤ D k
    · have h2 := h.cnt hS hg (D k).toNat k hk h0 (by omega)
      have h3 := cntL_le D (D k) n
      omega
    · omega
set_option maxRecDepth 100000 in
theorem dirs_no (W H : Int) (a : Option Addr) (n c : Nat) (xs : List Int) (la : Option Addr) (ln lc : Nat) (bs : List Bd) (x sz goal : Int) (w : World) (hL : LF w) (h : By w w.heap.size a n xs) (hb0 : Bq w w.heap.size la ln bs) (hn : n ≤ 140737488355328) (hln : ln ≤ 1099511627776) (MM : Hk (¬ (MOk W H n xs bs ∧ (0 ≤ x ∧ x ≤ 2) ∧ 0 ≤ sz ∧ sz ≤ 3))) :
    Calls Tryd.prog 33 #[.agg #[.int .i64 W, .int .i64 H, .slice a n c], .slice la ln lc, .int .i64 x, .int .i64 sz, .int .i64 goal] w fun e w' => e = .returned (.tuple #[.slice none 0 0, .int .i64 1]) ∧ Below w.heap.size w w' := by
  have HWB : Hk (Below w.heap.size w (w.alloc (.cells #[.int .i64 W, .int .i64 H, .slice a n c] 24))) := ⟨(Below.refl _ _).alloc (Nat.le_refl _) _⟩
  have hNW : w.heap.size + 1 ≤ ((w.alloc (.cells #[.int .i64 W, .int .i64 H, .slice a n c] 24))).heap.size := by simp
  have HB : Hk (Below (w.heap.size + 1) (w.alloc (.cells #[.int .i64 W, .int .i64 H, .slice a n c] 24)) (w.alloc (.cells #[.int .i64 W, .int .i64 H, .slice a n c] 24))) := ⟨Below.refl _ _⟩
  have HTR : Hk (∀ X, Below (w.heap.size + 1) (w.alloc (.cells #[.int .i64 W, .int .i64 H, .slice a n c] 24)) X → Below w.heap.size w X) := ⟨fun X hX => HWB.out.trans (hX.mono (by omega))⟩
  have HBY := Hk.mk (fun (X : World) (hX : Below (w.heap.size + 1) (w.alloc (.cells #[.int .i64 W, .int .i64 H, .slice a n c] 24)) X) => h.below (HTR.out X hX) (Nat.le_refl _))
  have HBQ := Hk.mk (fun (X : World) (hX : Below (w.heap.size + 1) (w.alloc (.cells #[.int .i64 W, .int .i64 H, .slice a n c] 24)) X) => hb0.below (HTR.out X hX) (Nat.le_refl _))
  have HLL := Hk.mk (fun (X : World) (hX : Below (w.heap.size + 1) (w.alloc (.cells #[.int .i64 W, .int .i64 H, .slice a n c] 24)) X) => hL.below (HTR.out X hX) (Nat.le_refl _))
  clear h hb0 hL
  obtain ⟨hc, hf, hl, hn', hm⟩ := kw_rules HB.out hNW
  go_enter Tryd.func33, Tryd.ntmps33
  go_wp2_with (go_at_call 57; (refine (reckon_no W H a n c xs la ln lc bs x sz goal _ (HLL.out _ HB.out) ?_ ?_ hn hln MM).mono ?_); (exact (HBY.out _ HB.out).mono (hsz1 HB.out)); (exact (HBQ.out _ HB.out).mono (hsz1 HB.out)); rintro e z ⟨rfl, hb⟩; replace HB := Hk.mk (kw_step HB.out hNW hb); clear hb; clear hc hf hl hn' hm; obtain ⟨hc, hf, hl, hn', hm⟩ := kw_rules HB.out hNW)
  go_ret2
  exact ⟨rfl, HTR.out _ (kw_al HB.out hNW _)⟩
set_option maxRecDepth 100000 in
theorem dirs_none (W H : Int) (a : Option Addr) (n c : Nat) (xs : List Int) (la : Option Addr) (ln lc : Nat) (bs : List Bd) (cl s : Nat) (goal : Int) (w : World) (hL : LF w) (h : By w w.heap.size a n xs) (hb0 : Bq w w.heap.size la ln bs) (hn : n ≤ 140737488355328) (hln : ln ≤ 1099511627776) (hc3 : cl < 3) (hs : s ≤ 3) (MM : Hk (MOk W H n xs bs)) (hg : goal < 0 ∨ (n : Int) ≤ goal) :
    Calls Tryd.prog 33 #[.agg #[.int .i64 W, .int .i64 H, .slice a n c], .slice la ln lc, .int .i64 cl, .int .i64 s, .int .i64 goal] w fun e w' => e = .returned (.tuple #[.slice none 0 0, .int .i64 3]) ∧ Below w.heap.size w w' := by
  have HWB : Hk (Below w.heap.size w (w.alloc (.cells #[.int .i64 W, .int .i64 H, .slice a n c] 24))) := ⟨(Below.refl _ _).alloc (Nat.le_refl _) _⟩
  have hNW : w.heap.size + 1 ≤ ((w.alloc (.cells #[.int .i64 W, .int .i64 H, .slice a n c] 24))).heap.size := by simp
  have HB : Hk (Below (w.heap.size + 1) (w.alloc (.cells #[.int .i64 W, .int .i64 H, .slice a n c] 24)) (w.alloc (.cells #[.int .i64 W, .int .i64 H, .slice a n c] 24))) := ⟨Below.refl _ _⟩
  have HTR : Hk (∀ X, Below (w.heap.size + 1) (w.alloc (.cells #[.int .i64 W, .int .i64 H, .slice a n c] 24)) X → Below w.heap.size w X) := ⟨fun X hX => HWB.out.trans (hX.mono (by omega))⟩
  have HBY := Hk.mk (fun (X : World) (hX : Below (w.heap.size + 1) (w.alloc (.cells #[.int .i64 W, .int .i64 H, .slice a n c] 24)) X) => h.below (HTR.out X hX) (Nat.le_refl _))
  have HBQ := Hk.mk (fun (X : World) (hX : Below (w.heap.size + 1) (w.alloc (.cells #[.int .i64 W, .int .i64 H, .slice a n c] 24)) X) => hb0.below (HTR.out X hX) (Nat.le_refl _))
  have HLL := Hk.mk (fun (X : World) (hX : Below (w.heap.size + 1) (w.alloc (.cells #[.int .i64 W, .int .i64 H, .slice a n c] 24)) X) => hL.below (HTR.out X hX) (Nat.le_refl _))
  clear h hb0 hL
  obtain ⟨hc, hf, hl, hn', hm⟩ := kw_rules HB.out hNW
  go_enter Tryd.func33, Tryd.ntmps33
  go_wp2_with (go_at_call 57; (refine (reckon_none W H a n c xs la ln lc bs cl s goal _ (HLL.out _ HB.out) ?_ ?_ hn hln hc3 hs MM hg).mono ?_); (exact (HBY.out _ HB.out).mono (hsz1 HB.out)); (exact (HBQ.out _ HB.out).mono (hsz1 HB.out)); rintro e z ⟨rfl, hb⟩; replace HB := Hk.mk (kw_step HB.out hNW hb); clear hb; clear hc hf hl hn' hm; obtain ⟨hc, hf, hl, hn', hm⟩ := kw_rules HB.out hNW)
  go_ret2
  exact ⟨rfl, HTR.out _ (kw_al HB.out hNW _)⟩
set_option maxRecDepth 100000 in
set_option maxHeartbeats 1600000 in
theorem dirs_yes (W H : Int) (a : Option Addr) (n c : Nat) (xs : List Int) (la : Option Addr) (ln lc : Nat) (bs : List Bd) (cl s goal : Nat) (w : World) (hL : LF w) (h : By w w.heap.size a n xs) (hb0 : Bq w w.heap.size la ln bs) (hn : n ≤ 140737488355328) (hln : ln ≤ 1099511627776) (hc3 : cl < 3) (hs : s ≤ 3) (MM : Hk (MOk W H n xs bs)) (hg : goal < n) :
    Calls Tryd.prog 33 #[.agg #[.int .i64 W, .int .i64 H, .slice a n c], .slice la ln lc, .int .i64 cl, .int .i64 s, .int .i64 goal] w fun e w' => ∃ (J : Nat) (V D : Nat → Int), e = .returned (.tuple #[.slice (some ⟨J, 0, none⟩) n n, .int .i64 0]) ∧ w.heap.size ≤ J ∧ Arr w' J n 3 (fun t => .int .i64 (V t)) ∧ TabG n (tT W H (gdF W H xs bs cl s)) (tC W H (kcF cl xs)) goal (gdF W H xs bs cl s goal) D ∧ (∀ t, t < n → IsDir (tT W H (gdF W H xs bs cl s)) (tC W H (kcF cl xs)) D t (V t)) ∧ Below w.heap.size w w' := by
  obtain ⟨i0, hi, iz0, iz1, iz2⟩ := info_parts info_int
  have HWB : Hk (Below w.heap.size w (w.alloc (.cells #[.int .i64 W, .int .i64 H, .slice a n c] 24))) := ⟨(Below.refl _ _).alloc (Nat.le_refl _) _⟩
  have hNW : w.heap.size + 1 ≤ ((w.alloc (.cells #[.int .i64 W, .int .i64 H, .slice a n c] 24))).heap.size := by simp
  have HB : Hk (Below (w.heap.size + 1) (w.alloc (.cells #[.int .i64 W, .int .i64 H, .slice a n c] 24)) (w.alloc (.cells #[.int .i64 W, .int .i64 H, .slice a n c] 24))) := ⟨Below.refl _ _⟩
  have HTR : Hk (∀ X, Below (w.heap.size + 1) (w.alloc (.cells #[.int .i64 W, .int .i64 H, .slice a n c] 24)) X → Below w.heap.size w X) := ⟨fun X hX => HWB.out.trans (hX.mono (by omega))⟩
  have HBY := Hk.mk (fun (X : World) (hX : Below (w.heap.size + 1) (w.alloc (.cells #[.int .i64 W, .int .i64 H, .slice a n c] 24)) X) => h.below (HTR.out X hX) (Nat.le_refl _))
  have HBQ := Hk.mk (fun (X : World) (hX : Below (w.heap.size + 1) (w.alloc (.cells #[.int .i64 W, .int .i64 H, .slice a n c] 24)) X) => hb0.below (HTR.out X hX) (Nat.le_refl _))
  have HLL := Hk.mk (fun (X : World) (hX : Below (w.heap.size + 1) (w.alloc (.cells #[.int .i64 W, .int .i64 H, .slice a n c] 24)) X) => hL.below (HTR.out X hX) (Nat.le_refl _))
  have GG : Hk (GOk W H n xs) := ⟨MM.out.g⟩
  have DM : Hk (Dm W H n) := ⟨dm_of GG.out⟩
  have n16 := DM.out.n16
  have SS : Hk (Stp n (tT W H (gdF W H xs bs cl s)) (tC W H (kcF cl xs))) := ⟨fd_stp GG.out bs cl s⟩
  have CC : Hk (∀ k, 0 ≤ kcF cl xs k ∧ kcF cl xs k ≤ 6) := ⟨fun k => ct_abs _ _⟩
  clear h hb0 hL
  obtain ⟨hc, hf, hl, hn', hm⟩ := kw_rules HB.out hNW
  go_enter Tryd.func33, Tryd.ntmps33
  go_upto_region 4 with (go_at_call 57; (refine (reckon_yes W H a n c xs la ln lc bs cl s goal _ (HLL.out _ HB.out) ?_ ?_ hn hln hc3 hs MM hg).mono ?_); (exact (HBY.out _ HB.out).mono (hsz1 HB.out)); (exact (HBQ.out _ HB.out).mono (hsz1 HB.out)); rintro e z ⟨I, K, J, D, rfl, hr, hb⟩; have HFR := Hk.mk hr; clear hr; replace HB := Hk.mk (kw_step HB.out hNW hb); clear hb; clear hc hf hl hn' hm; obtain ⟨hc, hf, hl, hn', hm⟩ := kw_rules HB.out hNW)
  have HBD : Hk (∀ k, k < n → -1 ≤ D k ∧ D k ≤ 1400000) := ⟨tabG_bd HFR.out.tab SS.out hg n16⟩
  have HSJ : Hk (w.heap.size ≤ z.heap.size) := ⟨by have := kw_size HB.out hNW; omega⟩
  have HB5 := Hk.mk (kw_al HB.out hNW (.cells #[.int .i64 W, .int .i64 H, .slice (some ⟨I, 0, none⟩) n n, .slice (some ⟨K, 0, none⟩) n n] 82))
  have HAI := Hk.mk (HFR.out.ai.alloc (.cells #[.int .i64 W, .int .i64 H, .slice (some ⟨I, 0, none⟩) n n, .slice (some ⟨K, 0, none⟩) n n] 82))
  have HAK := Hk.mk (HFR.out.ak.alloc (.cells #[.int .i64 W, .int .i64 H, .slice (some ⟨I, 0, none⟩) n n, .slice (some ⟨K, 0, none⟩) n n] 82))
  have HAJ := Hk.mk (HFR.out.aj.alloc (.cells #[.int .i64 W, .int .i64 H, .slice (some ⟨I, 0, none⟩) n n, .slice (some ⟨K, 0, none⟩) n n] 82))
  have HL5 := Hk.mk (Bk.new z #[.int .i64 W, .int .i64 H, .slice (some ⟨I, 0, none⟩) n n, .slice (some ⟨K, 0, none⟩) n n] 82)
  have HTB := Hk.mk HFR.out.tab
  clear HB HFR
  clear hc hf hl hn' hm
  obtain ⟨W5, hW5⟩ : ∃ W5, z.alloc (.cells #[.int .i64 W, .int .i64 H, .slice (some ⟨I, 0, none⟩) n n, .slice (some ⟨K, 0, none⟩) n n] 82) = W5 := ⟨_, rfl⟩
  rw [hW5] at HB5 HAI HAK HAJ HL5 ⊢
  clear hW5
  obtain ⟨LB, hLB⟩ : ∃ LB, z.heap.size = LB := ⟨_, rfl⟩
  rw [hLB] at HL5 HSJ ⊢
  clear hLB
  have HB := HB5
  clear HB5
  obtain ⟨hc, hf, hl, hn', hm⟩ := kw_rules HB.out hNW
  go_wp2_with (at_make; go_must (refine wpList_make_full _ rfl _ _ 26 rfl (w.heap.size + 1) 3 i0 (.int .i64 0) 1 Tryd.underlying26 hi iz0 iz1 .i64 .i64 _ _ n rfl rfl rfl rfl (by rw [iz2]; omega) (by unfold maxLen; omega) (kw_size HB.out hNW) ?_); intro z1 hown hgrow; have HV := Hk.mk (Arr.made hown rfl (z := .int .i64 0)); have hb := below_grown hgrow; have HVS : Hk (w.heap.size + 1 ≤ W5.heap.size) := ⟨kw_size HB.out hNW⟩; have HLB : Hk (LB < W5.heap.size) := ⟨HL5.out.lt⟩; have hIV : I < W5.heap.size := HAI.out.lt; have hKV : K < W5.heap.size := HAK.out.lt; have hJV : J < W5.heap.size := HAJ.out.lt; replace HAI := Hk.mk (HAI.out.later hb); replace HAK := Hk.mk (HAK.out.later hb); replace HAJ := Hk.mk (HAJ.out.later hb); replace HL5 := Hk.mk (HL5.out.below hb); replace HB := Hk.mk (kw_step HB.out hNW hb); clear hb; clear hc hf hl hn' hm; obtain ⟨hc, hf, hl, hn', hm⟩ := kw_rules HB.out hNW)
  have HB := HB
  have HV := HV
  have HAI := HAI
  have HAK := HAK
  have HAJ := HAJ
  have HL5 := HL5
  clear hc hf hl hn' hm
  obtain ⟨Q, hQ⟩ : ∃ Q, W5.heap.size = Q := ⟨_, rfl⟩
  rw [hQ] at HV HVS HLB hIV hKV hJV ⊢
  clear hQ
  go_loopw [35] (fun tt wr => ∃ (t : Nat) (V : Nat → Int), tt = .int .i64 t ∧ t ≤ n ∧ Hk (Below (w.heap.size + 1) (w.alloc (.cells #[.int .i64 W, .int .i64 H, .slice a n c] 24)) wr) ∧ Hk (Arr wr I n 4 (fun t => .bool (gdF W H xs bs cl s t))) ∧ Hk (Arr wr K n 3 (fun t => .int .i64 (kcF cl xs t))) ∧ Hk (Arr wr J n 3 (fun t => .int .i64 (D t))) ∧ Hk (Bk wr LB #[.int .i64 W, .int .i64 H, .slice (some ⟨I, 0, none⟩) n n, .slice (some ⟨K, 0, none⟩) n n]) ∧ Hk (Arr wr Q n 3 (fun t => .int .i64 (V t))) ∧ Hk (∀ j, j < t → IsDir (tT W H (gdF W H xs bs cl s)) (tC W H (kcF cl xs)) D j (V j))) (fun tt _ => n - (intOf tt).toNat)
  case atStart => exact ⟨0, fun _ => 0, rfl, by omega, HB, HAI, HAK, HAJ, HL5, HV, ⟨fun j hj => absurd hj (by omega)⟩⟩
  case round =>
    clear HB HAI HAK HAJ HL5 HV
    obtain ⟨t, V, rfl, ht, HB, HAI, HAK, HAJ, HL5, HV, HDR⟩ := hrel
    obtain ⟨hc, hf, hl, hn', hm⟩ := kw_rules HB.out hNW
    by_cases hlt : t < n
    · have t0 : (0 : Int) ≤ (t : Int) := by omega
      have t1 : (t : Int) < (n : Int) := by omega
      have l0 := HL5.out.c 0
      have l1 := HL5.out.c 1
      have l2 := HL5.out.c 2
      have l3 := HL5.out.c 3
      simp at l0 l1 l2 l3
      as_aux_lemma =>
        go_wp2_with (go_at_call 60; (with_reducible refine (dir_any W H n I K J (gdF W H xs bs cl s) (kcF cl xs) D t _ (HLL.out _ HB.out) HAI.out HAK.out HAJ.out DM.out hlt CC SS HBD).mono ?_); rintro e z ⟨v, rfl, hv, hb⟩; have HDV := Hk.mk hv; replace HAI := Hk.mk (HAI.out.later hb); replace HAK := Hk.mk (HAK.out.later hb); replace HAJ := Hk.mk (HAJ.out.later hb); replace HL5 := Hk.mk (HL5.out.below hb); replace HV := Hk.mk (HV.out.later hb); clear hv; replace HB := Hk.mk (kw_step HB.out hNW hb); clear hb; clear hc hf hl hn' hm; obtain ⟨hc, hf, hl, hn', hm⟩ := kw_rules HB.out hNW; have c0 := HV.out.cell hlt; have f0 := HV.out.frozen t)
        exact ⟨⟨t + 1, fun j => if j = t then v else V j, by go_num, by omega, ⟨HB.out.setCell (by exact HVS.out) _⟩, ⟨HAI.out.far _ _ (by show I ≠ Q; omega)⟩, ⟨HAK.out.far _ _ (by show K ≠ Q; omega)⟩, ⟨HAJ.out.far _ _ (by show J ≠ Q; omega)⟩, ⟨HL5.out.oth (by have := HLB.out; omega) _ _⟩, ⟨(HV.out.set hlt _).congr fun j hj => by
          show Value.int .i64 (if j = t then v else V j) = _
          by_cases e : j = t
          · rw [if_pos e, if_pos e]
          · rw [if_neg e, if_neg e]⟩, ⟨fun j hj => by
          by_cases e : j = t
          · show IsDir _ _ D j (if j = t then v else V j)
            rw [if_pos e, e]
            exact HDV.out
          · show IsDir _ _ D j (if j = t then v else V j)
            rw [if_neg e]
            exact HDR.out j (by omega)⟩⟩, by simp [intOf]; omega⟩
    · obtain rfl : n = t := by omega
      as_aux_lemma =>
        go_wp2_with fail
        go_ret2
        exact ⟨Q, V, D, rfl, by have := HVS.out; omega, HV.out, HTB.out, HDR.out, HTR.out _ HB.out⟩
end Go.Proofs.YthabjihpjdlmoaaDoor
/- Layer 13: the reference's row of tiles that wait: taken off ahead, put on behind. -/
namespace Go.Proofs.YthabjihpjdlmoaaDoor
open Go.ChangeShapes Go.WideShapes Go.ChangeAt Go.RowKit Go.Deep
set_option linter.unusedVariables false
set_option linter.unusedSimpArgs false
/-- m tiles that wait, from o on in block g; c cells are there. -/
structure Tq (w : World) (base g o m c : Nat) (L : Nat → Nat) : Prop where
  bs : base ≤ g
  lt : g < w.heap.size
  le : m ≤ c
  mx : c ≤ maxLen
  cell : ∀ k, k < m → w.cell? ⟨g, o + k, none⟩ = some (.int .i64 (L k))
  room : ∀ k, k < c → (w.cell? ⟨g, o + k, none⟩).isSome = true ∧ w.frozen? ⟨g, o + k, none⟩ = false
theorem Tq.fr {w w' : World} {base g o m c : Nat} {L : Nat → Nat} {M : Nat → Prop} (h : Tq w base g o m c L) (k : Fr M w w') (hg : ¬ M g) : Tq w' base g o m c L :=
  ⟨h.bs, Nat.lt_of_lt_of_le h.lt k.size, h.le, h.mx, fun j hj => (k.cell h.lt hg).trans (h.cell j hj), fun j hj => by
    rw [k.cell h.lt hg, k.frozen h.lt hg]; exact h.room j hj⟩
theorem Tq.later {w w' : World} {base g o m c : Nat} {L : Nat → Nat} (h : Tq w base g o m c L) (k : Below w.heap.size w w') : Tq w' base g o m c L :=
  h.fr (M := fun j => w.heap.size ≤ j) (Fr.of_below k) (by have := h.lt; omega)
theorem Tq.drew {w : World} {base g o m c : Nat} {L : Nat → Nat} (h : Tq w base g o m c L) : Tq w.drew base g o m c L := ⟨h.bs, h.lt, h.le, h.mx, h.cell, h.room⟩
theorem Tq.farJ {w : World} {base g o m c J : Nat} {L : Nat → Nat} (h : Tq w base g o m c L) (hJ : J < base) (p : Nat) (v : Value) : Tq (w.setCell ⟨J, p, none⟩ v) base g o m c L :=
  h.fr (M := fun j => j = J) ((Fr.refl (fun j => j = J) w).setCell (p := ⟨J, p, none⟩) (fun _ => rfl) v) (by have := h.bs; omega)
/-- The first one taken off. -/
def cutO (o c : Nat) : Nat := if c = 1 then o else o + 1
theorem Tq.cut {w : World} {base g o m c : Nat} {L : Nat → Nat} (h : Tq w base g o (m + 1) c L) : Tq w base g (cutO o c) m (c - 1) (fun k => L (k + 1)) := by
  have := h.le
  have := h.mx
  unfold cutO
  refine ⟨h.bs, h.lt, by omega, by omega, fun k hk => ?_, fun k hk => ?_⟩
  · rw [if_neg (by omega), show o + 1 + k = o + (k + 1) by omega]
    exact h.cell (k + 1) (by omega)
  · rw [if_neg (by omega), show o + 1 + k = o + (k + 1) by omega]
    exact h.room (k + 1) (by omega)
theorem slice1_any (g o m c : Nat) (hm : m + 1 ≤ c) (hc : c ≤ 9223372036854775807) : ∀ w, (Instr.slice 26 (.slice (some ⟨g, o, none⟩) (m + 1) c) (some (.int .i64 1)) none none).run Tryd.prog w = .ok (.slice (some ⟨g, cutO o c, none⟩) m (c - 1)) w := by
  intro w
  unfold cutO
  by_cases h : c = 1
  · subst h
    obtain rfl : m = 0 := by omega
    go_simp
  · go_simp
    intro hh
    omega
theorem Tq.grown {w w' : World} {v : Value} {m u : Nat} {L : Nat → Nat} {xs : List Value} (h : w'.ownsRow w.heap.size 3 1 v (m + 1) xs) (hx : ∀ k, k < m + 1 → xs[k]? = some (.int .i64 (if k = m then u else L k : Nat))) :
    ∃ g c, v = .slice (some ⟨g, 0, none⟩) (m + 1) c ∧ w.heap.size ≤ g ∧ Tq w' w.heap.size g 0 (m + 1) c (fun k => if k = m then u else L k) := by
  rcases h.2 with ⟨_, h0⟩ | ⟨g, cap, cur, e, hg, hh, hc, hmx, hsz, htk⟩
  · omega
  have hlt : g < w'.heap.size := by
    obtain ⟨h1, _⟩ := Array.getElem?_eq_some_iff.1 hh
    exact h1
  have hcell : ∀ k, k < cap → ∃ x, cur[k]? = some x := fun k hk => ⟨cur[k]'(by omega), Array.getElem?_eq_getElem (by omega)⟩
  refine ⟨g, cap, e, hg, ⟨hg, hlt, hc, hmx, fun k hk => ?_, fun k hk => ?_⟩⟩
  · have h1 := hx k hk
    rw [← htk, List.getElem?_take, if_pos (by omega), Array.getElem?_toList] at h1
    simp [World.cell?, hh, h1]
  · obtain ⟨x, hx⟩ := hcell k hk
    constructor
    · simp [World.cell?, hh, hx]
    · simp [World.frozen?, hh]
set_option maxRecDepth 100000 in
theorem wpList_append_tq {w : World} {ops : Array Oper} {rest : List Oper} {o : Oper} {a : Act} {Q : Exit → Act → World → Prop} (hgd : o.guard = none) (s x : Operand)
    (hop : o.op = .call { callee := .builtin .append, args := #[s, x], argTypes := #[26, 26] })
    (i : TypeInfo) (hi : Tryd.prog.info? 3 = some i) (hz0 : i.zero = some (.int .i64 0)) (hz1 : i.size = 1) (hz2 : i.bytes = 8)
    (base g of m c : Nat) (L : Nat → Nat) (h : Tq w base g of m c L) (hs : a.eval s = .slice (some ⟨g, of, none⟩) m c) (u S : Nat) (hx : a.eval x = .slice (some ⟨S, 0, none⟩) 1 1) (hS : w.cell? ⟨S, 0, none⟩ = some (.int .i64 u)) (hm : m ≤ 100000000000)
    (hK : ∀ g' o' c' w', Tq w' base g' o' (m + 1) c' (fun k => if k = m then u else L k) → Fr (fun j => j = g) w w' → (g' = g ∨ w.heap.size ≤ g') → wpList Tryd.prog ops Q rest (a.put o.dst (.slice (some ⟨g', o', none⟩) (m + 1) c')) w') :
    wpList Tryd.prog ops Q (o :: rest) a w := by
  have hc8 : ∀ j v, ([Value.int .i64 u] : List Value)[j]? = some v → w.cell? ((⟨S, 0, none⟩ : Addr).add j) = some v := fun j v hj => by
    match j, hj with
    | 0, hj => simp at hj; rw [← hj]; exact hS
    | j + 1, hj => simp at hj
  have hone : ∀ v ∈ ([Value.int .i64 u] : List Value), v.oneCell' = true := fun v hv => by
    simp at hv; rw [hv]; rfl
  have hbs := h.bs
  have hlt := h.lt
  by_cases hr : m + 1 ≤ c
  · refine wpList_append_room_src w hgd s x 26 26 hop 3 i Tryd.underlying26 hi g of m c hs _ hx 1 [.int .i64 u] (by rw [hz1]; exact Src.ofSlice w Tryd.underlying26 ⟨S, 0, none⟩ 1 1 [.int .i64 u] rfl hc8 hone) hr ?_ ?_ ?_
    · intro j hj
      rw [hz1]
      simp at hj
      subst hj
      simpa using (h.room m (by omega)).1
    · intro j hj
      rw [hz1]
      simp at hj
      subst hj
      simpa using (h.room m (by omega)).2
    · rw [hz1, Nat.mul_one]
      show wpList _ _ _ _ _ (w.setCell ⟨g, of + m, none⟩ (.int .i64 u))
      refine hK g of c _ ⟨hbs, by simpa using hlt, hr, h.mx, fun k hk => ?_, fun k hk => ?_⟩ ((Fr.refl (fun j => j = g) w).setCell (p := ⟨g, of + m, none⟩) (fun _ => rfl) _) (Or.inl rfl)
      · by_cases e : k = m
        · subst e
          rw [if_pos rfl]
          have := (h.room k (by omega)).1
          obtain ⟨y, hy⟩ := Option.isSome_iff_exists.1 this
          go_simp
        · rw [if_neg e, World.cell?_setCell_other _ _ _ _ (by simp; try omega)]
          exact h.cell k (by omega)
      · have h1 := h.room k hk
        refine ⟨?_, by rw [World.frozen?_setCell]; exact h1.2⟩
        by_cases e : k = m
        · subst e
          obtain ⟨y, hy⟩ := Option.isSome_iff_exists.1 h1.1
          go_simp
        · rw [World.cell?_setCell_other _ _ _ _ (by simp; try omega)]
          exact h1.1
  · have hle := h.le
    have hmx : maxLen = 9223372036854775807 := rfl
    refine wpList_append_grows w hgd s x 26 hop 3 i (.int .i64 0) 1 8 Tryd.underlying26 hi hz0 hz1 hz2 rfl (by omega) (some ⟨g, of, none⟩) m c ((List.range m).map fun k => .int .i64 (L k)) hs (fun q => by cases q) (by simp) ?_ ⟨S, 0, none⟩ 1 1 [.int .i64 u] hx rfl hc8 hone (by omega) (by omega) (by omega) ?_
    · rintro b hb j v hj
      injection hb with hb
      subst hb
      rw [List.getElem?_map] at hj
      by_cases hjm : j < m
      · rw [List.getElem?_range hjm] at hj
        simp at hj
        rw [← hj, Addr.add_lit]
        exact h.cell j hjm
      · rw [List.getElem?_eq_none (by simp; omega)] at hj
        simp at hj
    · intro v' w' hown hgrow
      obtain ⟨g', c', e, hg', ht⟩ := Tq.grown (m := m) (u := u) (L := L) hown (fun k hk => by
        by_cases e : k = m
        · subst e
          rw [List.getElem?_append_right (by simp)]
          simp
        · rw [if_neg e, List.getElem?_append_left (by simp; omega), List.getElem?_map, List.getElem?_range (by omega)]
          rfl)
      subst e
      exact hK g' 0 c' w' ⟨by omega, ht.lt, ht.le, ht.mx, ht.cell, ht.room⟩ ((Fr.refl _ w).grown hgrow (fun j _ e => by cases e)) (Or.inr hg')
end Go.Proofs.YthabjihpjdlmoaaDoor
/- Layer 13: the reference's step. -/
namespace Go.Proofs.YthabjihpjdlmoaaDoor
open Go.ChangeShapes Go.WideShapes Go.ChangeAt Go.RowKit Go.Deep
set_option linter.unusedVariables false
set_option linter.unusedSimpArgs false
set_option maxRecDepth 100000 in
set_option maxHeartbeats 1600000 in
theorem rstep_any (W H : Int) (bb off n c : Nat) (xs : List Int) (gd : Nat → Bool) (cl t i I NB nc : Nat) (w : World) (h : By w w.heap.size (some ⟨bb, off, none⟩) n xs) (hA : Arr w I n 4 (fun k => .bool (gd k))) (hN : ∀ j, j < 8 → w.cell? ⟨NB, j, none⟩ = some (.int .i64 (nb W H t j))) (GG : Hk (GOk W H n xs)) (hc3 : cl < 3) (ht : t < n) (hi : i < 8) (hnc : 8 ≤ nc) :
    Calls Tryd.prog 59 #[.agg #[.int .i64 W, .int .i64 H, .slice (some ⟨bb, off, none⟩) n c], .slice (some ⟨I, 0, none⟩) n n, .int .i64 cl, .int .i64 t, .slice (some ⟨NB, 0, none⟩) 8 nc, .int .i64 i, .int .i64 (-1)] w fun e w' => e = .returned (.int .i64 (tD W H gd (kcF cl xs) t i)) ∧ Below w.heap.size w w' := by
  have HWB : Hk (Below w.heap.size w (w.alloc (.cells #[.int .i64 W, .int .i64 H, .slice (some ⟨bb, off, none⟩) n c] 24))) := ⟨(Below.refl _ _).alloc (Nat.le_refl _) _⟩
  have hNW : w.heap.size + 1 ≤ ((w.alloc (.cells #[.int .i64 W, .int .i64 H, .slice (some ⟨bb, off, none⟩) n c] 24))).heap.size := by simp
  have HB : Hk (Below (w.heap.size + 1) (w.alloc (.cells #[.int .i64 W, .int .i64 H, .slice (some ⟨bb, off, none⟩) n c] 24)) (w.alloc (.cells #[.int .i64 W, .int .i64 H, .slice (some ⟨bb, off, none⟩) n c] 24))) := ⟨Below.refl _ _⟩
  have HTR : Hk (∀ X, Below (w.heap.size + 1) (w.alloc (.cells #[.int .i64 W, .int .i64 H, .slice (some ⟨bb, off, none⟩) n c] 24)) X → Below w.heap.size w X) := ⟨fun X hX => HWB.out.trans (hX.mono (by omega))⟩
  obtain ⟨bb', off', hae, hbl, hcc⟩ := h.at_ (by omega)
  injection hae with hae
  injection hae with hae1 hae2
  subst hae1 hae2
  have hI := hA.lt
  have hNB := World.block_lt_of_cell? _ _ (hN 0 (by omega))
  have HNC := Hk.mk hN
  have HA := Hk.mk hA
  have HY := Hk.mk h
  have DM : Hk (Dm W H n) := ⟨dm_of GG.out⟩
  have n16 := DM.out.n16
  have HST : Hk (∀ k, stOk W H gd t k ↔ (0 ≤ nb W H t k ∧ gd t = true ∧ gd (nb W H t k).toNat = true ∧ (4 ≤ k → gd (nb W H t (k - 4)).toNat = true ∧ gd (nb W H t ((k - 3) % 4)).toNat = true))) := ⟨fun k => Iff.rfl⟩
  have HTT : Hk (∀ k, (stOk W H gd t k → tD W H gd (kcF cl xs) t k = (if k < 4 then 5 else 7) * (kcF cl xs t + kcF cl xs (nb W H t k).toNat)) ∧ (¬ stOk W H gd t k → tD W H gd (kcF cl xs) t k = 0)) := ⟨fun k => ⟨fun h => if_pos h, fun h => if_neg h⟩⟩
  have HNB : Hk (∀ j, j < 8 → 0 ≤ nb W H t j → nb W H t j < (n : Int)) := ⟨fun j _ h => by rw [DM.out.nn]; exact nb_lt DM.out.w1 rfl h⟩
  have HSB : Hk (∀ k, 4 ≤ k → k < 8 → 0 ≤ nb W H t k → (0 ≤ nb W H t (k - 4) ∧ nb W H t (k - 4) < (n : Int)) ∧ 0 ≤ nb W H t ((k - 3) % 4) ∧ nb W H t ((k - 3) % 4) < (n : Int)) := ⟨fun k h4 h8 h => by have := DM.out.nn; rw [this]; exact nb_side DM.out.w1 (by omega) h4 h8 h⟩
  have n0 := hN i hi
  clear hN hA h
  generalize nb W H t = N at *
  generalize stOk W H gd t = OK at *
  generalize hD : tD W H gd (kcF cl xs) t = D at *
  have HTD := Hk.mk hD
  clear hD
  have HCC := Hk.mk hcc
  clear hcc
  have i0 : (0 : Int) ≤ (i : Int) := by omega
  have i1 : (i : Int) < 8 := by omega
  have t0 : (0 : Int) ≤ (t : Int) := by omega
  have t1 : (t : Int) < (n : Int) := by omega
  have at0 := HA.out.cell ht
  obtain ⟨hc, hf, hl, hn', hm⟩ := kw_rules HB.out hNW
  by_cases a1 : N i < 0
  · have d1 : decide (N i < 0) = true := by simpa using a1
    have hno : ¬ OK i := fun h => by have := ((HST.out i).1 h).1; omega
    have hv := (HTT.out i).2 hno
    go_enter Tryd.func59, Tryd.ntmps59
    go_wp2_with fail
    go_ret
    exact ⟨by first | rfl | (rw [hv]; rfl) | (rw [HTD.out, hv]; rfl), HTR.out _ HB.out⟩
  obtain ⟨u, hu⟩ : ∃ u : Nat, N i = u := ⟨(N i).toNat, by omega⟩
  have hun : u < n := by have := HNB.out i hi (by omega); omega
  have ut : (N i).toNat = u := by omega
  have at1 := HA.out.cell hun
  have u0 : (0 : Int) ≤ (u : Int) := by omega
  have u1 : (u : Int) < (n : Int) := by omega
  have d1 : decide ((u : Int) < 0) = false := by simp
  have hSk := HST.out i
  rw [ut] at hSk
  have hTk := HTT.out i
  rw [ut] at hTk
  have hi0 : 0 ≤ N i := by omega
  rw [hu] at n0
  clear hu ut a1
  have HSK := Hk.mk hSk
  have HTK := Hk.mk hTk
  have HI0 := Hk.mk hi0
  clear hSk hTk hi0
  by_cases g1' : gd t = false
  · have hno : ¬ OK i := fun h => by have := ((HSK.out).1 h).2.1; rw [g1'] at this; cases this
    have hv := HTK.out.2 hno
    rw [g1'] at at0
    go_enter Tryd.func59, Tryd.ntmps59
    go_wp2_with fail
    go_ret
    exact ⟨by first | rfl | (rw [hv]; rfl) | (rw [HTD.out, hv]; rfl), HTR.out _ HB.out⟩
  have g1 : gd t = true := by simpa using g1'
  rw [g1] at at0
  by_cases g2' : gd u = false
  · have hno : ¬ OK i := fun h => by have := ((HSK.out).1 h).2.2.1; rw [g2'] at this; cases this
    have hv := HTK.out.2 hno
    rw [g2'] at at1
    go_enter Tryd.func59, Tryd.ntmps59
    go_wp2_with fail
    go_ret
    exact ⟨by first | rfl | (rw [hv]; rfl) | (rw [HTD.out, hv]; rfl), HTR.out _ HB.out⟩
  have g2 : gd u = true := by simpa using g2'
  rw [g2] at at1
  have HG := Hk.mk (And.intro g1 g2)
  clear g1 g2 g1' g2'
  have p0 := HCC.out t ht
  have p1 := HCC.out u hun
  have hx := HY.out.bd ht
  have hy := HY.out.bd hun
  have hx5 := GG.out.ts (xs.getD t 0) (getD_mem (by rw [HY.out.len]; exact ht))
  have hy5 := GG.out.ts (xs.getD u 0) (getD_mem (by rw [HY.out.len]; exact hun))
  obtain ⟨x, hxx⟩ : ∃ x : Nat, xs.getD t 0 = x := ⟨(xs.getD t 0).toNat, by omega⟩
  obtain ⟨y, hyy⟩ : ∃ y : Nat, xs.getD u 0 = y := ⟨(xs.getD u 0).toNat, by omega⟩
  rw [hxx] at p0 hx hx5
  rw [hyy] at p1 hy hy5
  obtain ⟨r, hr⟩ : ∃ r, ctS cl x = r := ⟨_, rfl⟩
  obtain ⟨q, hq⟩ : ∃ q, ctS cl y = q := ⟨_, rfl⟩
  have HRX := Hk.mk hr
  have HRY := Hk.mk hq
  have hrb : 0 ≤ r ∧ r ≤ 6 := by rw [← hr]; exact ct_abs _ _
  have hqb : 0 ≤ q ∧ q ≤ 6 := by rw [← hq]; exact ct_abs _ _
  have hkt : kcF cl xs t = r := by unfold kcF; rw [hxx]; simpa using hr
  have hku : kcF cl xs u = q := by unfold kcF; rw [hyy]; simpa using hq
  have hTk := HTK.out
  rw [hkt, hku] at hTk
  have HTK := Hk.mk hTk
  have hbw : bb < w.heap.size + 1 := by omega
  have hwr : IntKind.i64.wrap (r + q) = r + q := wr_in (by omega)
  have hwr2 : wrap64 (r + q) = r + q := by unfold wrap64; omega
  clear hTk hkt hku hxx hyy hr hq
  by_cases k4 : i < 4
  · have d4 : decide ((i : Int) < 4) = true := by simp; omega
    have hyes : OK i := HSK.out.2 ⟨HI0.out, HG.out.1, HG.out.2, fun q => absurd q (by omega)⟩
    have hv := HTK.out.1 hyes
    rw [if_pos k4] at hv
    have HV := Hk.mk hv
    clear hv hyes
    go_enter Tryd.func59, Tryd.ntmps59
    go_upto_region 4 with fail
    refine wp_region_held_drew (S := (fun X => (∀ b o, b < w.heap.size + 1 → X.cell? ⟨b, o, none⟩ = ((w.alloc (.cells #[.int .i64 W, .int .i64 H, .slice (some ⟨bb, off, none⟩) n c] 24))).cell? ⟨b, o, none⟩) ∧ Below (w.heap.size + 1) (w.alloc (.cells #[.int .i64 W, .int .i64 H, .slice (some ⟨bb, off, none⟩) n c] 24)) X)) (by kernel_rfl) ?_ (fun hHeld => ?_)
    · exact kw_S (kw_drew HB.out)
    refine wpAnyH_take (i := 0) (v := ?_) rfl (by kernel_rfl) (by kernel_rfl) (by kernel_rfl) (fun _ _ _ h => h) (Or.inl ⟨by rfl, fun wX hSw => ?_⟩) (by assumption) ?_
    rotate_left
    · (try dsimp only at hSw); go_simp; try with_reducible rfl
    (try simp only [Act.put, List.getElem_toArray, List.getElem_cons_succ, List.getElem_cons_zero, List.setIfInBounds_toArray, List.set_cons_zero, List.set_cons_succ])
    refine wpAnyH_take (i := 1) (v := ?_) rfl (by kernel_rfl) (by kernel_rfl) (by kernel_rfl) (fun _ _ _ h => h) (Or.inl ⟨by rfl, fun wX hSw => ?_⟩) (by assumption) ?_
    rotate_left
    · (try dsimp only at hSw); go_simp; try with_reducible rfl
    (try simp only [Act.put, List.getElem_toArray, List.getElem_cons_succ, List.getElem_cons_zero, List.setIfInBounds_toArray, List.set_cons_zero, List.set_cons_succ])
    refine wpAnyH_take (i := 2) (v := ?_) rfl (by kernel_rfl) (by kernel_rfl) (by kernel_rfl) (fun _ _ _ h => h) (Or.inl ⟨by rfl, fun wX hSw => ?_⟩) (by assumption) ?_
    rotate_left
    · (try dsimp only at hSw); go_simp; try with_reducible rfl
    (try simp only [Act.put, List.getElem_toArray, List.getElem_cons_succ, List.getElem_cons_zero, List.setIfInBounds_toArray, List.set_cons_zero, List.set_cons_succ])
    refine wpAnyH_take (i := 3) (v := ?_) rfl (by kernel_rfl) (by kernel_rfl) (by kernel_rfl) (fun _ _ _ h => h) (Or.inl ⟨by rfl, fun wX hSw => ?_⟩) (by assumption) ?_
    rotate_left
    · (try dsimp only at hSw); go_simp; try with_reducible rfl
    (try simp only [Act.put, List.getElem_toArray, List.getElem_cons_succ, List.getElem_cons_zero, List.setIfInBounds_toArray, List.set_cons_zero, List.set_cons_succ])
    refine wpAnyH_take (i := 4) (v := ?_) rfl (by kernel_rfl) (by kernel_rfl) (by kernel_rfl) (fun _ _ _ h => h) (Or.inl ⟨by rfl, fun wX hSw => ?_⟩) (by assumption) ?_
    rotate_left
    · (try dsimp only at hSw); go_simp; try with_reducible rfl
    (try simp only [Act.put, List.getElem_toArray, List.getElem_cons_succ, List.getElem_cons_zero, List.setIfInBounds_toArray, List.set_cons_zero, List.set_cons_succ])
    refine wpAnyH_take (i := 5) (v := ?_) rfl (by kernel_rfl) (by kernel_rfl) (by kernel_rfl) (fun _ _ _ h => h) (Or.inl ⟨by rfl, fun wX hSw => ?_⟩) (by assumption) ?_
    rotate_left
    · (try dsimp only at hSw); go_simp; try with_reducible rfl
    (try simp only [Act.put, List.getElem_toArray, List.getElem_cons_succ, List.getElem_cons_zero, List.setIfInBounds_toArray, List.set_cons_zero, List.set_cons_succ])
    refine wpAnyH_take (i := 7) (v := ?_) rfl (by kernel_rfl) (by kernel_rfl) (by kernel_rfl) (fun _ _ _ h => h) (Or.inl ⟨by rfl, fun wX hSw => ?_⟩) (by assumption) ?_
    rotate_left
    · (try dsimp only at hSw); go_simp; try with_reducible rfl
    (try simp only [Act.put, List.getElem_toArray, List.getElem_cons_succ, List.getElem_cons_zero, List.setIfInBounds_toArray, List.set_cons_zero, List.set_cons_succ])
    refine wpAnyH_take (i := 8) (v := ?_) rfl (by kernel_rfl) (by kernel_rfl) (by kernel_rfl) (fun _ _ _ h => h) (Or.inl ⟨by rfl, fun wX hSw => ?_⟩) (by assumption) ?_
    rotate_left
    · (try dsimp only at hSw); go_simp; try with_reducible rfl
    (try simp only [Act.put, List.getElem_toArray, List.getElem_cons_succ, List.getElem_cons_zero, List.setIfInBounds_toArray, List.set_cons_zero, List.set_cons_succ])
    refine wpAnyH_take (i := 9) (v := ?_) rfl (by kernel_rfl) (by kernel_rfl) (by kernel_rfl) (fun _ _ _ h => h) (Or.inl ⟨by rfl, fun wX hSw => ?_⟩) (by assumption) ?_
    rotate_left
    · (try dsimp only at hSw); go_simp; try with_reducible rfl
    (try simp only [Act.put, List.getElem_toArray, List.getElem_cons_succ, List.getElem_cons_zero, List.setIfInBounds_toArray, List.set_cons_zero, List.set_cons_succ])
    refine wpAnyH_take (i := 10) (v := ?_) rfl (by kernel_rfl) (by kernel_rfl) (by kernel_rfl) (fun _ _ _ h => h) (Or.inl ⟨by rfl, fun wX hSw => ?_⟩) (by assumption) ?_
    rotate_left
    · (try dsimp only at hSw); go_simp; try with_reducible rfl
    (try simp only [Act.put, List.getElem_toArray, List.getElem_cons_succ, List.getElem_cons_zero, List.setIfInBounds_toArray, List.set_cons_zero, List.set_cons_succ])
    refine wpAnyH_take (i := 11) (v := ?_) rfl (by kernel_rfl) (by kernel_rfl) (by kernel_rfl) (fun _ _ _ h => h) (Or.inl ⟨by rfl, fun wX hSw => ?_⟩) (by assumption) ?_
    rotate_left
    · (try dsimp only at hSw); go_simp; try with_reducible rfl
    (try simp only [Act.put, List.getElem_toArray, List.getElem_cons_succ, List.getElem_cons_zero, List.setIfInBounds_toArray, List.set_cons_zero, List.set_cons_succ])
    refine wpAnyH_take (i := 12) (v := ?_) rfl (by kernel_rfl) (by kernel_rfl) (by kernel_rfl) (fun _ _ _ h => h) (Or.inl ⟨by rfl, fun wX hSw => ?_⟩) (by assumption) ?_
    rotate_left
    · (try dsimp only at hSw); go_simp; try with_reducible rfl
    (try simp only [Act.put, List.getElem_toArray, List.getElem_cons_succ, List.getElem_cons_zero, List.setIfInBounds_toArray, List.set_cons_zero, List.set_cons_succ])
    refine wpAnyH_ready (rs := [6]) (by kernel_rfl) (by simp) ?_
    refine AllReadyH.cons rfl (fun K hK => ?_) (AllReadyH.nil)
    go_simp
    (first
    | (go_at_call 61; (with_reducible refine (rcostC_as cl x _ _ r _ hc3 (by omega) ⟨rfl⟩ ⟨rfl⟩ HRX).mono ?_); rintro e z ⟨rfl, hb⟩; have hB2 : Hk (Below (w.heap.size + 1) (w.alloc (.cells #[.int .i64 W, .int .i64 H, .slice (some ⟨bb, off, none⟩) n c] 24)) z) := ⟨by first | exact kw_step HB.out hNW hb | exact kw_step HB.out.drew hNW hb⟩; clear hb; replace HB := hB2; clear hB2; clear hc hf hl hn' hm; obtain ⟨hc, hf, hl, hn', hm⟩ := kw_rules HB.out hNW)
    | (go_at_call 61; (with_reducible refine (rcostC_as cl y _ _ q _ hc3 (by omega) ⟨rfl⟩ ⟨rfl⟩ HRY).mono ?_); rintro e z ⟨rfl, hb⟩; have hB2 : Hk (Below (w.heap.size + 1) (w.alloc (.cells #[.int .i64 W, .int .i64 H, .slice (some ⟨bb, off, none⟩) n c] 24)) z) := ⟨by first | exact kw_step HB.out hNW hb | exact kw_step HB.out.drew hNW hb⟩; clear hb; replace HB := hB2; clear hB2; clear hc hf hl hn' hm; obtain ⟨hc, hf, hl, hn', hm⟩ := kw_rules HB.out hNW))
    refine hK.out _ _ ?_ (fun hHeld => ?_)
    · exact kw_S HB.out
    clear hK K
    (try simp only [Act.put, List.getElem_toArray, List.getElem_cons_succ, List.getElem_cons_zero, List.setIfInBounds_toArray, List.set_cons_zero, List.set_cons_succ])
    refine wpAnyH_ready (rs := [13]) (by kernel_rfl) (by simp) ?_
    refine AllReadyH.cons rfl (fun K hK => ?_) (AllReadyH.nil)
    go_simp
    (first
    | (go_at_call 61; (with_reducible refine (rcostC_as cl x _ _ r _ hc3 (by omega) ⟨rfl⟩ ⟨rfl⟩ HRX).mono ?_); rintro e z ⟨rfl, hb⟩; have hB2 : Hk (Below (w.heap.size + 1) (w.alloc (.cells #[.int .i64 W, .int .i64 H, .slice (some ⟨bb, off, none⟩) n c] 24)) z) := ⟨by first | exact kw_step HB.out hNW hb | exact kw_step HB.out.drew hNW hb⟩; clear hb; replace HB := hB2; clear hB2; clear hc hf hl hn' hm; obtain ⟨hc, hf, hl, hn', hm⟩ := kw_rules HB.out hNW)
    | (go_at_call 61; (with_reducible refine (rcostC_as cl y _ _ q _ hc3 (by omega) ⟨rfl⟩ ⟨rfl⟩ HRY).mono ?_); rintro e z ⟨rfl, hb⟩; have hB2 : Hk (Below (w.heap.size + 1) (w.alloc (.cells #[.int .i64 W, .int .i64 H, .slice (some ⟨bb, off, none⟩) n c] 24)) z) := ⟨by first | exact kw_step HB.out hNW hb | exact kw_step HB.out.drew hNW hb⟩; clear hb; replace HB := hB2; clear hB2; clear hc hf hl hn' hm; obtain ⟨hc, hf, hl, hn', hm⟩ := kw_rules HB.out hNW))
    refine hK.out _ _ ?_ (fun hHeld => ?_)
    · exact kw_S HB.out
    clear hK K
    (try simp only [Act.put, List.getElem_toArray, List.getElem_cons_succ, List.getElem_cons_zero, List.setIfInBounds_toArray, List.set_cons_zero, List.set_cons_succ])
    refine wpAnyH_take (i := 14) (v := ?_) rfl (by kernel_rfl) (by kernel_rfl) (by kernel_rfl) (fun _ _ _ h => h) (Or.inl ⟨by rfl, fun wX hSw => ?_⟩) (by assumption) ?_
    rotate_left
    · (try dsimp only at hSw); go_simp; try with_reducible rfl
    (try simp only [Act.put, List.getElem_toArray, List.getElem_cons_succ, List.getElem_cons_zero, List.setIfInBounds_toArray, List.set_cons_zero, List.set_cons_succ])
    refine wpAnyH_take (i := 15) (v := ?_) rfl (by kernel_rfl) (by kernel_rfl) (by kernel_rfl) (fun _ _ _ h => h) (Or.inl ⟨by rfl, fun wX hSw => ?_⟩) (by assumption) ?_
    rotate_left
    · (try dsimp only at hSw); go_simp; try with_reducible rfl
    (try simp only [Act.put, List.getElem_toArray, List.getElem_cons_succ, List.getElem_cons_zero, List.setIfInBounds_toArray, List.set_cons_zero, List.set_cons_succ])
    refine wpAnyH_done (by kernel_rfl) ?_ _
    all_goals
      go_wp2_with fail
      go_ret
      exact ⟨by first | rfl | (rw [HV.out]; rfl) | (rw [HTD.out, HV.out]; rfl), HTR.out _ HB.out⟩
  · have d4 : decide ((i : Int) < 4) = false := by simp; omega
    go_enter Tryd.func59, Tryd.ntmps59
    go_upto_region 4 with fail
    refine wp_region_held_drew (S := (fun X => (∀ b o, b < w.heap.size + 1 → X.cell? ⟨b, o, none⟩ = ((w.alloc (.cells #[.int .i64 W, .int .i64 H, .slice (some ⟨bb, off, none⟩) n c] 24))).cell? ⟨b, o, none⟩) ∧ Below (w.heap.size + 1) (w.alloc (.cells #[.int .i64 W, .int .i64 H, .slice (some ⟨bb, off, none⟩) n c] 24)) X)) (by kernel_rfl) ?_ (fun hHeld => ?_)
    · exact kw_S (kw_drew HB.out)
    refine wpAnyH_take (i := 0) (v := ?_) rfl (by kernel_rfl) (by kernel_rfl) (by kernel_rfl) (fun _ _ _ h => h) (Or.inl ⟨by rfl, fun wX hSw => ?_⟩) (by assumption) ?_
    rotate_left
    · (try dsimp only at hSw); go_simp; try with_reducible rfl
    (try simp only [Act.put, List.getElem_toArray, List.getElem_cons_succ, List.getElem_cons_zero, List.setIfInBounds_toArray, List.set_cons_zero, List.set_cons_succ])
    refine wpAnyH_take (i := 1) (v := ?_) rfl (by kernel_rfl) (by kernel_rfl) (by kernel_rfl) (fun _ _ _ h => h) (Or.inl ⟨by rfl, fun wX hSw => ?_⟩) (by assumption) ?_
    rotate_left
    · (try dsimp only at hSw); go_simp; try with_reducible rfl
    (try simp only [Act.put, List.getElem_toArray, List.getElem_cons_succ, List.getElem_cons_zero, List.setIfInBounds_toArray, List.set_cons_zero, List.set_cons_succ])
    refine wpAnyH_take (i := 2) (v := ?_) rfl (by kernel_rfl) (by kernel_rfl) (by kernel_rfl) (fun _ _ _ h => h) (Or.inl ⟨by rfl, fun wX hSw => ?_⟩) (by assumption) ?_
    rotate_left
    · (try dsimp only at hSw); go_simp; try with_reducible rfl
    (try simp only [Act.put, List.getElem_toArray, List.getElem_cons_succ, List.getElem_cons_zero, List.setIfInBounds_toArray, List.set_cons_zero, List.set_cons_succ])
    refine wpAnyH_take (i := 3) (v := ?_) rfl (by kernel_rfl) (by kernel_rfl) (by kernel_rfl) (fun _ _ _ h => h) (Or.inl ⟨by rfl, fun wX hSw => ?_⟩) (by assumption) ?_
    rotate_left
    · (try dsimp only at hSw); go_simp; try with_reducible rfl
    (try simp only [Act.put, List.getElem_toArray, List.getElem_cons_succ, List.getElem_cons_zero, List.setIfInBounds_toArray, List.set_cons_zero, List.set_cons_succ])
    refine wpAnyH_take (i := 4) (v := ?_) rfl (by kernel_rfl) (by kernel_rfl) (by kernel_rfl) (fun _ _ _ h => h) (Or.inl ⟨by rfl, fun wX hSw => ?_⟩) (by assumption) ?_
    rotate_left
    · (try dsimp only at hSw); go_simp; try with_reducible rfl
    (try simp only [Act.put, List.getElem_toArray, List.getElem_cons_succ, List.getElem_cons_zero, List.setIfInBounds_toArray, List.set_cons_zero, List.set_cons_succ])
    refine wpAnyH_take (i := 5) (v := ?_) rfl (by kernel_rfl) (by kernel_rfl) (by kernel_rfl) (fun _ _ _ h => h) (Or.inl ⟨by rfl, fun wX hSw => ?_⟩) (by assumption) ?_
    rotate_left
    · (try dsimp only at hSw); go_simp; try with_reducible rfl
    (try simp only [Act.put, List.getElem_toArray, List.getElem_cons_succ, List.getElem_cons_zero, List.setIfInBounds_toArray, List.set_cons_zero, List.set_cons_succ])
    refine wpAnyH_take (i := 7) (v := ?_) rfl (by kernel_rfl) (by kernel_rfl) (by kernel_rfl) (fun _ _ _ h => h) (Or.inl ⟨by rfl, fun wX hSw => ?_⟩) (by assumption) ?_
    rotate_left
    · (try dsimp only at hSw); go_simp; try with_reducible rfl
    (try simp only [Act.put, List.getElem_toArray, List.getElem_cons_succ, List.getElem_cons_zero, List.setIfInBounds_toArray, List.set_cons_zero, List.set_cons_succ])
    refine wpAnyH_take (i := 8) (v := ?_) rfl (by kernel_rfl) (by kernel_rfl) (by kernel_rfl) (fun _ _ _ h => h) (Or.inl ⟨by rfl, fun wX hSw => ?_⟩) (by assumption) ?_
    rotate_left
    · (try dsimp only at hSw); go_simp; try with_reducible rfl
    (try simp only [Act.put, List.getElem_toArray, List.getElem_cons_succ, List.getElem_cons_zero, List.setIfInBounds_toArray, List.set_cons_zero, List.set_cons_succ])
    refine wpAnyH_take (i := 9) (v := ?_) rfl (by kernel_rfl) (by kernel_rfl) (by kernel_rfl) (fun _ _ _ h => h) (Or.inl ⟨by rfl, fun wX hSw => ?_⟩) (by assumption) ?_
    rotate_left
    · (try dsimp only at hSw); go_simp; try with_reducible rfl
    (try simp only [Act.put, List.getElem_toArray, List.getElem_cons_succ, List.getElem_cons_zero, List.setIfInBounds_toArray, List.set_cons_zero, List.set_cons_succ])
    refine wpAnyH_take (i := 10) (v := ?_) rfl (by kernel_rfl) (by kernel_rfl) (by kernel_rfl) (fun _ _ _ h => h) (Or.inl ⟨by rfl, fun wX hSw => ?_⟩) (by assumption) ?_
    rotate_left
    · (try dsimp only at hSw); go_simp; try with_reducible rfl
    (try simp only [Act.put, List.getElem_toArray, List.getElem_cons_succ, List.getElem_cons_zero, List.setIfInBounds_toArray, List.set_cons_zero, List.set_cons_succ])
    refine wpAnyH_take (i := 11) (v := ?_) rfl (by kernel_rfl) (by kernel_rfl) (by kernel_rfl) (fun _ _ _ h => h) (Or.inl ⟨by rfl, fun wX hSw => ?_⟩) (by assumption) ?_
    rotate_left
    · (try dsimp only at hSw); go_simp; try with_reducible rfl
    (try simp only [Act.put, List.getElem_toArray, List.getElem_cons_succ, List.getElem_cons_zero, List.setIfInBounds_toArray, List.set_cons_zero, List.set_cons_succ])
    refine wpAnyH_take (i := 12) (v := ?_) rfl (by kernel_rfl) (by kernel_rfl) (by kernel_rfl) (fun _ _ _ h => h) (Or.inl ⟨by rfl, fun wX hSw => ?_⟩) (by assumption) ?_
    rotate_left
    · (try dsimp only at hSw); go_simp; try with_reducible rfl
    (try simp only [Act.put, List.getElem_toArray, List.getElem_cons_succ, List.getElem_cons_zero, List.setIfInBounds_toArray, List.set_cons_zero, List.set_cons_succ])
    refine wpAnyH_ready (rs := [6]) (by kernel_rfl) (by simp) ?_
    refine AllReadyH.cons rfl (fun K hK => ?_) (AllReadyH.nil)
    go_simp
    (first
    | (go_at_call 61; (with_reducible refine (rcostC_as cl x _ _ r _ hc3 (by omega) ⟨rfl⟩ ⟨rfl⟩ HRX).mono ?_); rintro e z ⟨rfl, hb⟩; have hB2 : Hk (Below (w.heap.size + 1) (w.alloc (.cells #[.int .i64 W, .int .i64 H, .slice (some ⟨bb, off, none⟩) n c] 24)) z) := ⟨by first | exact kw_step HB.out hNW hb | exact kw_step HB.out.drew hNW hb⟩; clear hb; replace HB := hB2; clear hB2; clear hc hf hl hn' hm; obtain ⟨hc, hf, hl, hn', hm⟩ := kw_rules HB.out hNW)
    | (go_at_call 61; (with_reducible refine (rcostC_as cl y _ _ q _ hc3 (by omega) ⟨rfl⟩ ⟨rfl⟩ HRY).mono ?_); rintro e z ⟨rfl, hb⟩; have hB2 : Hk (Below (w.heap.size + 1) (w.alloc (.cells #[.int .i64 W, .int .i64 H, .slice (some ⟨bb, off, none⟩) n c] 24)) z) := ⟨by first | exact kw_step HB.out hNW hb | exact kw_step HB.out.drew hNW hb⟩; clear hb; replace HB := hB2; clear hB2; clear hc hf hl hn' hm; obtain ⟨hc, hf, hl, hn', hm⟩ := kw_rules HB.out hNW))
    refine hK.out _ _ ?_ (fun hHeld => ?_)
    · exact kw_S HB.out
    clear hK K
    (try simp only [Act.put, List.getElem_toArray, List.getElem_cons_succ, List.getElem_cons_zero, List.setIfInBounds_toArray, List.set_cons_zero, List.set_cons_succ])
    refine wpAnyH_ready (rs := [13]) (by kernel_rfl) (by simp) ?_
    refine AllReadyH.cons rfl (fun K hK => ?_) (AllReadyH.nil)
    go_simp
    (first
    | (go_at_call 61; (with_reducible refine (rcostC_as cl x _ _ r _ hc3 (by omega) ⟨rfl⟩ ⟨rfl⟩ HRX).mono ?_); rintro e z ⟨rfl, hb⟩; have hB2 : Hk (Below (w.heap.size + 1) (w.alloc (.cells #[.int .i64 W, .int .i64 H, .slice (some ⟨bb, off, none⟩) n c] 24)) z) := ⟨by first | exact kw_step HB.out hNW hb | exact kw_step HB.out.drew hNW hb⟩; clear hb; replace HB := hB2; clear hB2; clear hc hf hl hn' hm; obtain ⟨hc, hf, hl, hn', hm⟩ := kw_rules HB.out hNW)
    | (go_at_call 61; (with_reducible refine (rcostC_as cl y _ _ q _ hc3 (by omega) ⟨rfl⟩ ⟨rfl⟩ HRY).mono ?_); rintro e z ⟨rfl, hb⟩; have hB2 : Hk (Below (w.heap.size + 1) (w.alloc (.cells #[.int .i64 W, .int .i64 H, .slice (some ⟨bb, off, none⟩) n c] 24)) z) := ⟨by first | exact kw_step HB.out hNW hb | exact kw_step HB.out.drew hNW hb⟩; clear hb; replace HB := hB2; clear hB2; clear hc hf hl hn' hm; obtain ⟨hc, hf, hl, hn', hm⟩ := kw_rules HB.out hNW))
    refine hK.out _ _ ?_ (fun hHeld => ?_)
    · exact kw_S HB.out
    clear hK K
    (try simp only [Act.put, List.getElem_toArray, List.getElem_cons_succ, List.getElem_cons_zero, List.setIfInBounds_toArray, List.set_cons_zero, List.set_cons_succ])
    refine wpAnyH_take (i := 14) (v := ?_) rfl (by kernel_rfl) (by kernel_rfl) (by kernel_rfl) (fun _ _ _ h => h) (Or.inl ⟨by rfl, fun wX hSw => ?_⟩) (by assumption) ?_
    rotate_left
    · (try dsimp only at hSw); go_simp; try with_reducible rfl
    (try simp only [Act.put, List.getElem_toArray, List.getElem_cons_succ, List.getElem_cons_zero, List.setIfInBounds_toArray, List.set_cons_zero, List.set_cons_succ])
    refine wpAnyH_take (i := 15) (v := ?_) rfl (by kernel_rfl) (by kernel_rfl) (by kernel_rfl) (fun _ _ _ h => h) (Or.inl ⟨by rfl, fun wX hSw => ?_⟩) (by assumption) ?_
    rotate_left
    · (try dsimp only at hSw); go_simp; try with_reducible rfl
    (try simp only [Act.put, List.getElem_toArray, List.getElem_cons_succ, List.getElem_cons_zero, List.setIfInBounds_toArray, List.set_cons_zero, List.set_cons_succ])
    refine wpAnyH_done (by kernel_rfl) ?_ _
    all_goals
      go_wp2_with fail
    as_aux_lemma =>
      go_loopw [17] (fun kk wr => ∃ k : Nat, kk = .int .i64 k ∧ k ≤ 2 ∧ Hk (Below (w.heap.size + 1) (w.alloc (.cells #[.int .i64 W, .int .i64 H, .slice (some ⟨bb, off, none⟩) n c] 24)) wr) ∧ Hk (∀ j, j < k → gd (N ((i - 4 + j) % 4)).toNat = true)) (fun kk _ => 2 - (intOf kk).toNat)
      case atStart => exact ⟨0, rfl, by omega, HB, ⟨fun j hj => absurd hj (by omega)⟩⟩
      case round =>
        clear HB
        obtain ⟨k, rfl, hk2, HB, HK⟩ := hrel
        obtain ⟨hc, hf, hl, hn', hm⟩ := kw_rules HB.out hNW
        by_cases hlt : k < 2
        · have k0 : (0 : Int) ≤ (k : Int) := by omega
          have k1 : (k : Int) < 2 := by omega
          obtain ⟨p, hp⟩ : ∃ p, p = (i - 4 + k) % 4 := ⟨_, rfl⟩
          have hrem : ((i : Int) - 4 + (k : Int)).tmod 4 = (p : Int) := by rw [Int.tmod_eq_emod_of_nonneg (by omega)]; omega
          have p0' : (0 : Int) ≤ (p : Int) := by omega
          have p1' : (p : Int) < 8 := by omega
          have hsb := HSB.out i (by omega) hi HI0.out
          have hpb : 0 ≤ N p ∧ N p < (n : Int) := by
            have hk01 : k = 0 ∨ k = 1 := by omega
            rcases hk01 with e | e
            · rw [show p = i - 4 by omega]; exact hsb.1
            · rw [show p = (i - 3) % 4 by omega]; exact hsb.2
          obtain ⟨v, hv⟩ : ∃ v : Nat, N p = v := ⟨(N p).toNat, by omega⟩
          have hvn : v < n := by omega
          have m0 := HNC.out p (by omega)
          rw [hv] at m0
          have at2 := HA.out.cell hvn
          have v0 : (0 : Int) ≤ (v : Int) := by omega
          have v1 : (v : Int) < (n : Int) := by omega
          have dv : decide ((v : Int) < 0) = false := by simp
          have HPV : Hk (gd (N ((i - 4 + k) % 4)).toNat = gd v) := ⟨by rw [← hp, hv]; simp⟩
          clear hsb hpb hv hp
          by_cases gv : gd v = false
          · have hno : ¬ OK i := fun h => by
              have h4 := ((HSK.out).1 h).2.2.2 (by omega)
              have hk01 : k = 0 ∨ k = 1 := by omega
              rcases hk01 with e | e
              · subst e
                have := HPV.out
                rw [show (i - 4 + 0) % 4 = i - 4 by omega, h4.1, gv] at this
                cases this
              · subst e
                have := HPV.out
                rw [show (i - 4 + 1) % 4 = (i - 3) % 4 by omega, h4.2, gv] at this
                cases this
            have hv := HTK.out.2 hno
            rw [gv] at at2
            go_wp2_with fail
            go_ret
            exact ⟨by first | rfl | (rw [hv]; rfl) | (rw [HTD.out, hv]; rfl), HTR.out _ HB.out⟩
          have gv' : gd v = true := by simpa using gv
          rw [gv'] at at2
          have HGV := Hk.mk gv'
          clear gv gv'
          go_wp2_with fail
          exact ⟨⟨k + 1, by go_num, by omega, HB, ⟨fun j hj => by
            by_cases e : j = k
            · rw [e, HPV.out, HGV.out]
            · exact HK.out j (by omega)⟩⟩, by simp [intOf]; omega⟩
        · obtain rfl : k = 2 := by omega
          have hyes : OK i := HSK.out.2 ⟨HI0.out, HG.out.1, HG.out.2, fun q4 => ⟨by
            have := HK.out 0 (by omega)
            rwa [show (i - 4 + 0) % 4 = i - 4 by omega] at this, by
            have := HK.out 1 (by omega)
            rwa [show (i - 4 + 1) % 4 = (i - 3) % 4 by omega] at this⟩⟩
          have hv := HTK.out.1 hyes
          rw [if_neg k4] at hv
          have HV := Hk.mk hv
          clear hv hyes
          go_wp2_with fail
          go_ret
          exact ⟨by first | rfl | (rw [HV.out]; rfl) | (rw [HTD.out, HV.out]; rfl), HTR.out _ HB.out⟩
end Go.Proofs.YthabjihpjdlmoaaDoor
