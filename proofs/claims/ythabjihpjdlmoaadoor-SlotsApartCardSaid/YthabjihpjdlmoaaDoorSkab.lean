import Derived.Deep.QuietTactic
import Derived.BigQuiet
import Derived.Deep.RegionWith
import Derived.Deep.RegionHeld3
import Derived.Deep.DeepCutAuto
import Derived.Deep.DeepFit
import Derived.Outline
import Derived.Test.YthabjihpjdlmoaaDoorSkd
import Derived.Test.YthabjihpjdlmoaaDoorSkaa
/- Layer 20: Find. -/
namespace Go.Proofs.YthabjihpjdlmoaaDoor
open Go.ChangeShapes Go.WideShapes Go.ChangeAt Go.RowKit Go.Deep
set_option linter.unusedVariables false
set_option linter.unusedSimpArgs false
theorem gap_of {s : Nat} (h : s ≤ 3) {gap : Int} (e : gap = 2 * (s : Int) + 1) : gap = 1 ∨ gap = 3 ∨ gap = 5 ∨ gap = 7 := by omega
theorem gap_more {gap x : Int} (h : gap = 1 ∨ gap = 3 ∨ gap = 5 ∨ gap = 7) (hd : x % gap = 0) : (x + gap) % gap = 0 := by
  rcases h with q | q | q | q <;> subst q <;> omega
set_option maxRecDepth 100000 in
set_option maxHeartbeats 1600000 in
theorem sfind_no (W H : Int) (a : Option Addr) (n c : Nat) (xs : List Int) (la : Option Addr) (ln lc : Nat) (bs : List Bd) (x sz goal N : Int) (w : World) (hL : LC w) (h : By w w.heap.size a n xs) (hb0 : Bq w w.heap.size la ln bs) (hn : n ≤ 140737488355328) (hln : ln ≤ 1099511627776) (MM : Hk (¬ (MOk W H n xs bs ∧ (0 ≤ x ∧ x ≤ 2) ∧ 0 ≤ sz ∧ sz ≤ 3))) :
    Calls Tryd.prog 46 #[.agg #[.int .i64 W, .int .i64 H, .slice a n c], .slice la ln lc, .int .i64 x, .int .i64 sz, .int .i64 goal, .int .i64 N] w fun e w' => e = .returned (.tuple #[.slice none 0 0, .int .i64 1]) ∧ Below w.heap.size w w' := by
  have HWB : Hk (Below w.heap.size w (w.alloc (.cells #[.int .i64 W, .int .i64 H, .slice a n c] 24))) := ⟨(Below.refl _ _).alloc (Nat.le_refl _) _⟩
  have hNW : w.heap.size + 1 ≤ ((w.alloc (.cells #[.int .i64 W, .int .i64 H, .slice a n c] 24))).heap.size := by simp
  have HB : Hk (Below (w.heap.size + 1) (w.alloc (.cells #[.int .i64 W, .int .i64 H, .slice a n c] 24)) (w.alloc (.cells #[.int .i64 W, .int .i64 H, .slice a n c] 24))) := ⟨Below.refl _ _⟩
  have HTR : Hk (∀ X, Below (w.heap.size + 1) (w.alloc (.cells #[.int .i64 W, .int .i64 H, .slice a n c] 24)) X → Below w.heap.size w X) := ⟨fun X hX => HWB.out.trans (hX.mono (by omega))⟩
  have HBY := Hk.mk (fun (X : World) (hX : Below (w.heap.size + 1) (w.alloc (.cells #[.int .i64 W, .int .i64 H, .slice a n c] 24)) X) => h.below (HTR.out X hX) (Nat.le_refl _))
  have HBQ := Hk.mk (fun (X : World) (hX : Below (w.heap.size + 1) (w.alloc (.cells #[.int .i64 W, .int .i64 H, .slice a n c] 24)) X) => hb0.below (HTR.out X hX) (Nat.le_refl _))
  have HLL := Hk.mk (fun (X : World) (hX : Below (w.heap.size + 1) (w.alloc (.cells #[.int .i64 W, .int .i64 H, .slice a n c] 24)) X) => hL.below (HTR.out X hX) (Nat.le_refl _))
  clear h hb0 hL
  obtain ⟨hc, hf, hl, hn', hm⟩ := kw_rules HB.out hNW
  go_enter Tryd.func46, Tryd.ntmps46
  go_wp2_with (go_at_call 20; (with_reducible refine (good_no W H a n c xs la ln lc bs x sz _ (HLL.out _ HB.out) ?_ ?_ hn hln MM).mono ?_); (exact (HBY.out _ HB.out).mono (hsz1 HB.out)); (exact (HBQ.out _ HB.out).mono (hsz1 HB.out)); rintro e z ⟨rfl, hb⟩; replace HB := Hk.mk (kw_step HB.out hNW hb); clear hb; clear hc hf hl hn' hm; obtain ⟨hc, hf, hl, hn', hm⟩ := kw_rules HB.out hNW)
  go_ret2
  exact ⟨rfl, HTR.out _ HB.out⟩
set_option maxRecDepth 100000 in
set_option maxHeartbeats 1600000 in
theorem sfind_none (W H : Int) (a : Option Addr) (n c : Nat) (xs : List Int) (la : Option Addr) (ln lc : Nat) (bs : List Bd) (cl s : Nat) (goal N : Int) (w : World) (hL : LC w) (h : By w w.heap.size a n xs) (hb0 : Bq w w.heap.size la ln bs) (hn : n ≤ 140737488355328) (hln : ln ≤ 1099511627776) (hc3 : cl < 3) (hs : s ≤ 3) (MM : Hk (MOk W H n xs bs)) (hg : goal < 0 ∨ (n : Int) ≤ goal) :
    Calls Tryd.prog 46 #[.agg #[.int .i64 W, .int .i64 H, .slice a n c], .slice la ln lc, .int .i64 cl, .int .i64 s, .int .i64 goal, .int .i64 N] w fun e w' => e = .returned (.tuple #[.slice none 0 0, .int .i64 3]) ∧ Below w.heap.size w w' := by
  have HWB : Hk (Below w.heap.size w (w.alloc (.cells #[.int .i64 W, .int .i64 H, .slice a n c] 24))) := ⟨(Below.refl _ _).alloc (Nat.le_refl _) _⟩
  have hNW : w.heap.size + 1 ≤ ((w.alloc (.cells #[.int .i64 W, .int .i64 H, .slice a n c] 24))).heap.size := by simp
  have HB : Hk (Below (w.heap.size + 1) (w.alloc (.cells #[.int .i64 W, .int .i64 H, .slice a n c] 24)) (w.alloc (.cells #[.int .i64 W, .int .i64 H, .slice a n c] 24))) := ⟨Below.refl _ _⟩
  have HTR : Hk (∀ X, Below (w.heap.size + 1) (w.alloc (.cells #[.int .i64 W, .int .i64 H, .slice a n c] 24)) X → Below w.heap.size w X) := ⟨fun X hX => HWB.out.trans (hX.mono (by omega))⟩
  have HBY := Hk.mk (fun (X : World) (hX : Below (w.heap.size + 1) (w.alloc (.cells #[.int .i64 W, .int .i64 H, .slice a n c] 24)) X) => h.below (HTR.out X hX) (Nat.le_refl _))
  have HBQ := Hk.mk (fun (X : World) (hX : Below (w.heap.size + 1) (w.alloc (.cells #[.int .i64 W, .int .i64 H, .slice a n c] 24)) X) => hb0.below (HTR.out X hX) (Nat.le_refl _))
  have HLL := Hk.mk (fun (X : World) (hX : Below (w.heap.size + 1) (w.alloc (.cells #[.int .i64 W, .int .i64 H, .slice a n c] 24)) X) => hL.below (HTR.out X hX) (Nat.le_refl _))
  clear h hb0 hL
  obtain ⟨hc, hf, hl, hn', hm⟩ := kw_rules HB.out hNW
  by_cases h0 : goal < 0
  · have d0 : decide (goal < 0) = true := by simpa using h0
    go_enter Tryd.func46, Tryd.ntmps46
    go_wp2_with (go_at_call 20; (with_reducible refine (good_yes W H a n c xs la ln lc bs cl s _ (HLL.out _ HB.out) ?_ ?_ hn hln hc3 hs MM).mono ?_); (exact (HBY.out _ HB.out).mono (hsz1 HB.out)); (exact (HBQ.out _ HB.out).mono (hsz1 HB.out)); rintro e z ⟨I, rfl, hI, hA, hb⟩; have HAI := Hk.mk (show Arr z I n 4 (fun k => .bool ((gdF W H xs bs cl s) k)) from hA); clear hI hA; replace HB := Hk.mk (kw_step HB.out hNW hb); clear hb; clear hc hf hl hn' hm; obtain ⟨hc, hf, hl, hn', hm⟩ := kw_rules HB.out hNW)
    go_ret2
    exact ⟨rfl, HTR.out _ HB.out⟩
  · have d0 : decide (goal < 0) = false := by simpa using h0
    have d1 : decide ((n : Int) ≤ goal) = true := by simp; omega
    go_enter Tryd.func46, Tryd.ntmps46
    go_wp2_with (go_at_call 20; (with_reducible refine (good_yes W H a n c xs la ln lc bs cl s _ (HLL.out _ HB.out) ?_ ?_ hn hln hc3 hs MM).mono ?_); (exact (HBY.out _ HB.out).mono (hsz1 HB.out)); (exact (HBQ.out _ HB.out).mono (hsz1 HB.out)); rintro e z ⟨I, rfl, hI, hA, hb⟩; have HAI := Hk.mk (show Arr z I n 4 (fun k => .bool ((gdF W H xs bs cl s) k)) from hA); clear hI hA; replace HB := Hk.mk (kw_step HB.out hNW hb); clear hb; clear hc hf hl hn' hm; obtain ⟨hc, hf, hl, hn', hm⟩ := kw_rules HB.out hNW)
    go_ret2
    exact ⟨rfl, HTR.out _ HB.out⟩
set_option maxRecDepth 100000 in
set_option maxHeartbeats 1600000 in
theorem sfind_limit (W H : Int) (a : Option Addr) (n c : Nat) (xs : List Int) (la : Option Addr) (ln lc : Nat) (bs : List Bd) (cl s goal : Nat) (N : Int) (w : World) (hL : LC w) (h : By w w.heap.size a n xs) (hb0 : Bq w w.heap.size la ln bs) (hn : n ≤ 140737488355328) (hln : ln ≤ 1099511627776) (hc3 : cl < 3) (hs : s ≤ 3) (MM : Hk (MOk W H n xs bs)) (hg : goal < n) (hN : N < 0 ∨ 64 < N) :
    Calls Tryd.prog 46 #[.agg #[.int .i64 W, .int .i64 H, .slice a n c], .slice la ln lc, .int .i64 cl, .int .i64 s, .int .i64 goal, .int .i64 N] w fun e w' => e = .returned (.tuple #[.slice none 0 0, .int .i64 2]) ∧ Below w.heap.size w w' := by
  have HWB : Hk (Below w.heap.size w (w.alloc (.cells #[.int .i64 W, .int .i64 H, .slice a n c] 24))) := ⟨(Below.refl _ _).alloc (Nat.le_refl _) _⟩
  have hNW : w.heap.size + 1 ≤ ((w.alloc (.cells #[.int .i64 W, .int .i64 H, .slice a n c] 24))).heap.size := by simp
  have HB : Hk (Below (w.heap.size + 1) (w.alloc (.cells #[.int .i64 W, .int .i64 H, .slice a n c] 24)) (w.alloc (.cells #[.int .i64 W, .int .i64 H, .slice a n c] 24))) := ⟨Below.refl _ _⟩
  have HTR : Hk (∀ X, Below (w.heap.size + 1) (w.alloc (.cells #[.int .i64 W, .int .i64 H, .slice a n c] 24)) X → Below w.heap.size w X) := ⟨fun X hX => HWB.out.trans (hX.mono (by omega))⟩
  have HBY := Hk.mk (fun (X : World) (hX : Below (w.heap.size + 1) (w.alloc (.cells #[.int .i64 W, .int .i64 H, .slice a n c] 24)) X) => h.below (HTR.out X hX) (Nat.le_refl _))
  have HBQ := Hk.mk (fun (X : World) (hX : Below (w.heap.size + 1) (w.alloc (.cells #[.int .i64 W, .int .i64 H, .slice a n c] 24)) X) => hb0.below (HTR.out X hX) (Nat.le_refl _))
  have HLL := Hk.mk (fun (X : World) (hX : Below (w.heap.size + 1) (w.alloc (.cells #[.int .i64 W, .int .i64 H, .slice a n c] 24)) X) => hL.below (HTR.out X hX) (Nat.le_refl _))
  clear h hb0 hL
  obtain ⟨hc, hf, hl, hn', hm⟩ := kw_rules HB.out hNW
  have d0 : decide ((goal : Int) < 0) = false := by simp
  have d1 : decide ((n : Int) ≤ (goal : Int)) = false := by simp; omega
  have d1n : decide (n ≤ goal) = false := by simp; omega
  by_cases h0 : N < 0
  · have d2 : decide (N < 0) = true := by simpa using h0
    go_enter Tryd.func46, Tryd.ntmps46
    go_wp2_with (go_at_call 20; (with_reducible refine (good_yes W H a n c xs la ln lc bs cl s _ (HLL.out _ HB.out) ?_ ?_ hn hln hc3 hs MM).mono ?_); (exact (HBY.out _ HB.out).mono (hsz1 HB.out)); (exact (HBQ.out _ HB.out).mono (hsz1 HB.out)); rintro e z ⟨I, rfl, hI, hA, hb⟩; have HAI := Hk.mk (show Arr z I n 4 (fun k => .bool ((gdF W H xs bs cl s) k)) from hA); clear hI hA; replace HB := Hk.mk (kw_step HB.out hNW hb); clear hb; clear hc hf hl hn' hm; obtain ⟨hc, hf, hl, hn', hm⟩ := kw_rules HB.out hNW)
    go_ret2
    exact ⟨rfl, HTR.out _ HB.out⟩
  · have d2 : decide (N < 0) = false := by simpa using h0
    have d3 : decide (64 < N) = true := by simp; omega
    go_enter Tryd.func46, Tryd.ntmps46
    go_wp2_with (go_at_call 20; (with_reducible refine (good_yes W H a n c xs la ln lc bs cl s _ (HLL.out _ HB.out) ?_ ?_ hn hln hc3 hs MM).mono ?_); (exact (HBY.out _ HB.out).mono (hsz1 HB.out)); (exact (HBQ.out _ HB.out).mono (hsz1 HB.out)); rintro e z ⟨I, rfl, hI, hA, hb⟩; have HAI := Hk.mk (show Arr z I n 4 (fun k => .bool ((gdF W H xs bs cl s) k)) from hA); clear hI hA; replace HB := Hk.mk (kw_step HB.out hNW hb); clear hb; clear hc hf hl hn' hm; obtain ⟨hc, hf, hl, hn', hm⟩ := kw_rules HB.out hNW)
    go_ret2
    exact ⟨rfl, HTR.out _ HB.out⟩
set_option maxRecDepth 1000000 in
set_option maxHeartbeats 6400000 in
theorem sfind_yes (W H : Int) (a : Option Addr) (n c : Nat) (xs : List Int) (la : Option Addr) (ln lc : Nat) (bs : List Bd) (cl s goal N : Nat) (w : World) (hL : LC w) (h : By w w.heap.size a n xs) (hb0 : Bq w w.heap.size la ln bs) (hn : n ≤ 140737488355328) (hln : ln ≤ 1099511627776) (hc3 : cl < 3) (hs : s ≤ 3) (MM : Hk (MOk W H n xs bs)) (hg : goal < n) (hN : N ≤ 64) :
    Calls Tryd.prog 46 #[.agg #[.int .i64 W, .int .i64 H, .slice a n c], .slice la ln lc, .int .i64 cl, .int .i64 s, .int .i64 goal, .int .i64 N] w fun e w' => ∃ v, e = .returned (.tuple #[v, .int .i64 0]) ∧ w'.ownsRow w.heap.size 3 1 v (slA W H goal n (gdF W H xs bs cl s) (2 * (s : Int) + 1) N).length (natsL (slA W H goal n (gdF W H xs bs cl s) (2 * (s : Int) + 1) N)) ∧ Below w.heap.size w w' := by
  obtain ⟨ii, hii, hiz0, hiz1, hiz2⟩ := info_parts info_int
  have HWB : Hk (Below w.heap.size w (w.alloc (.cells #[.int .i64 W, .int .i64 H, .slice a n c] 24))) := ⟨(Below.refl _ _).alloc (Nat.le_refl _) _⟩
  have hNW : w.heap.size + 1 ≤ ((w.alloc (.cells #[.int .i64 W, .int .i64 H, .slice a n c] 24))).heap.size := by simp
  have HB : Hk (Below (w.heap.size + 1) (w.alloc (.cells #[.int .i64 W, .int .i64 H, .slice a n c] 24)) (w.alloc (.cells #[.int .i64 W, .int .i64 H, .slice a n c] 24))) := ⟨Below.refl _ _⟩
  have HTR : Hk (∀ X, Below (w.heap.size + 1) (w.alloc (.cells #[.int .i64 W, .int .i64 H, .slice a n c] 24)) X → Below w.heap.size w X) := ⟨fun X hX => HWB.out.trans (hX.mono (by omega))⟩
  have HBY := Hk.mk (fun (X : World) (hX : Below (w.heap.size + 1) (w.alloc (.cells #[.int .i64 W, .int .i64 H, .slice a n c] 24)) X) => h.below (HTR.out X hX) (Nat.le_refl _))
  have HBQ := Hk.mk (fun (X : World) (hX : Below (w.heap.size + 1) (w.alloc (.cells #[.int .i64 W, .int .i64 H, .slice a n c] 24)) X) => hb0.below (HTR.out X hX) (Nat.le_refl _))
  have HLL := Hk.mk (fun (X : World) (hX : Below (w.heap.size + 1) (w.alloc (.cells #[.int .i64 W, .int .i64 H, .slice a n c] 24)) X) => hL.below (HTR.out X hX) (Nat.le_refl _))
  clear h hb0 hL
  obtain ⟨hc, hf, hl, hn', hm⟩ := kw_rules HB.out hNW
  have d0 : decide ((goal : Int) < 0) = false := by simp
  have d1 : decide ((n : Int) ≤ (goal : Int)) = false := by simp; omega
  have d1n : decide (n ≤ goal) = false := by simp; omega
  have d2 : decide ((N : Int) < 0) = false := by simp
  have d3 : decide (64 < (N : Int)) = false := by simp; omega
  obtain ⟨gap, hgap⟩ : ∃ q, 2 * (s : Int) + 1 = q := ⟨_, rfl⟩
  have hgp := gap_of hs hgap.symm
  have HGP := Hk.mk hgp
  have gb : 1 ≤ gap ∧ gap ≤ 7 := by omega
  rw [hgap]
  clear hgp
  have hw1 := MM.out.g.w1
  have hw2 := MM.out.g.w2
  have hh1 := MM.out.g.h1
  have hh2 := MM.out.g.h2
  have n16 := (dm_of MM.out.g).n16
  have ws1 : IntKind.i64.wrap (2 * (s : Int)) = 2 * (s : Int) := by rw [IntKind.wrap_i64]; omega
  have ws2 : IntKind.i64.wrap gap = gap := by rw [IntKind.wrap_i64]; omega
  go_enter Tryd.func46, Tryd.ntmps46
  go_wp2_with (go_at_call 20; (with_reducible refine (good_yes W H a n c xs la ln lc bs cl s _ (HLL.out _ HB.out) ?_ ?_ hn hln hc3 hs MM).mono ?_); (exact (HBY.out _ HB.out).mono (hsz1 HB.out)); (exact (HBQ.out _ HB.out).mono (hsz1 HB.out)); rintro e z ⟨I, rfl, hI, hA, hb⟩; have HAI := Hk.mk (show Arr z I n 4 (fun k => .bool ((gdF W H xs bs cl s) k)) from hA); clear hI hA; replace HB := Hk.mk (kw_step HB.out hNW hb); clear hb; clear hc hf hl hn' hm; obtain ⟨hc, hf, hl, hn', hm⟩ := kw_rules HB.out hNW)
  have HB := HB
  have HAI := HAI
  clear hc hf hl hn' hm
  obtain ⟨V0, rfl⟩ : ∃ V0 : World, V0 = z := ⟨z, rfl⟩
  have hVs : w.heap.size + 1 ≤ V0.heap.size := kw_size HB.out hNW
  have bX : w.heap.size < V0.heap.size := by omega
  obtain ⟨x0, x1, x2⟩ : V0.cell? ⟨w.heap.size, 0, none⟩ = some (.int .i64 W) ∧ V0.cell? ⟨w.heap.size, 1, none⟩ = some (.int .i64 H) ∧ V0.cell? ⟨w.heap.size, 2, none⟩ = some (.slice a n c) := by
    refine ⟨?_, ?_, ?_⟩ <;> (rw [HB.out.cell (by show w.heap.size < _; omega)]; go_simp)
  have hIV := HAI.out.lt
  have HFI : Hk (∀ X, Below V0.heap.size V0 X → Below w.heap.size w X) := ⟨fun X hX => HTR.out _ (HB.out.trans (hX.mono hVs))⟩
  clear HB
  go_loopw [16, 18] (fun v dd wr => ∃ f : Nat, dd = .int .i64 f ∧ (f : Int) % gap = 0 ∧ (f : Int) ≤ W + H + gap ∧ Hk (World.ownsRow wr V0.heap.size 3 1 v ((slL W goal n (gdF W H xs bs cl s) gap f).take N).length (natsL ((slL W goal n (gdF W H xs bs cl s) gap f).take N))) ∧ Hk (Below V0.heap.size V0 wr)) (fun _ dd _ => (W + H + gap + 1 - intOf dd).toNat)
  case atStart => exact ⟨0, rfl, by simp, by omega, ⟨⟨by simp [slL, natsL], Or.inl ⟨rfl, by simp [slL]⟩⟩⟩, ⟨Below.refl _ _⟩⟩
  case round =>
    obtain ⟨f, rfl, hf0, hf1, HO, HC⟩ := hrel
    obtain ⟨hc, hf, hl, hn', hm⟩ := kw_rules HC.out (Nat.le_refl _)
    obtain ⟨A, hA⟩ : ∃ A, (slL W goal n (gdF W H xs bs cl s) gap f).take N = A := ⟨_, rfl⟩
    have hAN : A.length ≤ N := by rw [← hA, List.length_take]; omega
    rw [hA] at HO
    have HAE := Hk.mk hA
    clear hA
    obtain ⟨aF, cF, rfl, _⟩ := own_form20 HO.out
    by_cases hcc : (f : Int) ≤ W + H ∧ A.length < N
    · obtain ⟨h1, h2⟩ := hcc
      have d4 : decide ((f : Int) ≤ W + H) = true := by simpa using h1
      have d5 : decide ((A.length : Int) < (N : Int)) = true := by simpa using h2
      have HOK : Hk (SlOk W H n goal gap f) := ⟨⟨hw1, hw2, hh1, hh2, MM.out.g.nn, hg, HGP.out, by omega, hf0, by omega⟩⟩
      obtain ⟨R, hR⟩ : ∃ R, ringL W goal n gap f = R := ⟨_, rfl⟩
      have hRn : Hk (∀ j (h : j < R.length), R[j] < n) := ⟨fun j h => by
        have h1 : R[j] ∈ ringL W goal n gap f := by rw [hR]; exact List.getElem_mem h
        exact List.mem_range.1 (List.mem_filter.1 h1).1⟩
      have hRl : R.length ≤ n := by rw [← hR]; unfold ringL; exact Nat.le_trans (List.length_filter_le _ _) (by simp)
      have HRE := Hk.mk hR
      clear hR
      go_wp2_with (go_at_call 75; (with_reducible refine (ring_any W H a n c goal gap f _ HOK).mono ?_); rintro e z ⟨rv, rfl, hro, hb⟩; rw [HRE.out] at hro; obtain ⟨aR, cR, rfl, hra⟩ := own_form20 hro; have HRA := Hk.mk hra; clear hra; have HS := Hk.mk (Sq.of HO.out hb (kw_size HC.out (Nat.le_refl _)) hro); replace HC := Hk.mk (kw_step HC.out (Nat.le_refl _) hb); clear hro hb; clear hc hf hl hn' hm; obtain ⟨hc, hf, hl, hn', hm⟩ := kw_rules HC.out (Nat.le_refl _))
      have HS := HS
      have HC := HC
      have HRA := HRA
      clear hc hf hl hn' hm
      clear HO
      obtain ⟨wo, rfl⟩ : ∃ wo : World, wo = z := ⟨z, rfl⟩
      go_loopw [16, 74] (fun v jj wr => ∃ (j : Nat) (B : List Nat), jj = .int .i64 j ∧ j ≤ R.length ∧ Hk (((slL W goal n (gdF W H xs bs cl s) gap f) ++ (R.take j).filter (gdF W H xs bs cl s)).take N = B) ∧ Hk (Sq wr V0.heap.size v (.slice aR R.length cR) B R) ∧ Hk (Below V0.heap.size V0 wr)) (fun _ jj _ => R.length - (intOf jj).toNat)
      case atStart => exact ⟨0, A, rfl, by omega, ⟨by simpa using HAE.out⟩, HS, HC⟩
      case round =>
        clear HC HS
        obtain ⟨j, B, rfl, hj, HBE, HS, HC⟩ := hrel
        obtain ⟨hc, hf, hl, hn', hm⟩ := kw_rules HC.out (Nat.le_refl _)
        obtain ⟨aB, cB, rfl, _⟩ := own_form20 HS.out.rf
        by_cases hjl : j < R.length
        · obtain ⟨gR, rfl⟩ := HRA.out (by omega)
          have hBN : B.length ≤ N := by rw [← HBE.out, List.length_take]; omega
          have j0 : (0 : Int) ≤ (j : Int) := by omega
          have j1 : (j : Int) < (R.length : Int) := by omega
          have cj := own_at20 HS.out.rr hjl
          have htn := hRn.out j hjl
          have hfs := filter_take_succ (p := (gdF W H xs bs cl s)) hjl
          obtain ⟨t, ht⟩ : ∃ t, R[j] = t := ⟨_, rfl⟩
          rw [ht] at cj htn hfs
          have t0 : (0 : Int) ≤ (t : Int) := by omega
          have t1 : (t : Int) < (n : Int) := by omega
          have cg := HAI.out.cell htn
          have HFS := Hk.mk hfs
          clear ht hfs
          by_cases g1 : (gdF W H xs bs cl s) t = true
          · have HG1 := Hk.mk g1
            rw [g1] at cg
            by_cases h3 : B.length < N
            · have d6 : decide ((B.length : Int) < (N : Int)) = true := by simpa using h3
              clear g1
              as_aux_lemma =>
                go_wp2_with (at_builtin; go_must (refine wpList_append_own_at _ rfl _ _ 26 rfl V0.heap.size 3 ii (.int .i64 0) 1 8 Tryd.underlying26 hii hiz0 hiz1 hiz2 rfl (by decide) _ _ _ rfl (HS.out.rf.alloc _) ⟨wr.heap.size, 0, none⟩ 1 1 [.int .i64 (t : Nat)] rfl rfl (one_new wr _ _) (one_it _) (by unfold maxLen; omega) (by omega) (by have := kw_size HC.out (Nat.le_refl _); simp; omega) ?_); intro v8 z8 hown hgrow hnil hat; have HS8 := Hk.mk ((HS.out.later ((Below.refl _ _).alloc (Nat.le_refl _) _)).put (t := t) hown hgrow hat); have HC8 := Hk.mk ((kw_al HC.out (Nat.le_refl _) _).grown hgrow (by have := kw_size HC.out (Nat.le_refl _); simp; omega) (fun j hj => (HS.out.rf.lt j hj).1)); clear hown hgrow hnil hat)
                refine ⟨⟨j + 1, B ++ [t], by go_num, by omega, ⟨?_⟩, HS8, HC8⟩, by simp [intOf]; omega⟩
                rw [HFS.out, if_pos HG1.out, ← List.append_assoc, take_more (by rw [HBE.out]; exact h3), HBE.out]
            · have d6 : decide ((B.length : Int) < (N : Int)) = false := by simpa using h3
              clear g1
              as_aux_lemma =>
                go_wp2_with fail
                refine ⟨⟨j + 1, B, by go_num, by omega, ⟨?_⟩, HS, HC⟩, by simp [intOf]; omega⟩
                rw [HFS.out, ← List.append_assoc, take_full _ (by rw [HBE.out]; exact h3), HBE.out]
          · have g2 : (gdF W H xs bs cl s) t = false := by simpa using g1
            rw [g2] at cg
            have HG1 := Hk.mk g1
            clear g1 g2
            as_aux_lemma =>
              go_wp2_with fail
              refine ⟨⟨j + 1, B, by go_num, by omega, ⟨?_⟩, HS, HC⟩, by simp [intOf]; omega⟩
              rw [HFS.out, if_neg HG1.out, List.append_nil, HBE.out]
        · obtain rfl : j = R.length := by omega
          have hB2 : (slL W goal n (gdF W H xs bs cl s) gap (f + gap.toNat)).take N = B := by
            rw [← HBE.out, List.take_length, ← HRE.out]
            have := slL_skip W goal n (gdF W H xs bs cl s) HGP.out hf0 (gap.toNat - 1) (by omega)
            rw [show f + 1 + (gap.toNat - 1) = f + gap.toNat by omega] at this
            rw [this]
            rfl
          as_aux_lemma =>
            go_wp2_with fail
            refine ⟨⟨f + gap.toNat, by go_num, by have := gap_more HGP.out hf0; rw [show ((f + gap.toNat : Nat) : Int) = (f : Int) + gap by omega]; exact this, by omega, ?_, HC⟩, by simp [intOf]; omega⟩
            rw [hB2]
            exact ⟨HS.out.rf⟩
    · have hend := slA_end (gd := (gdF W H xs bs cl s)) (gap := gap) (N := N) (f := f) hw1 hh1 MM.out.g.nn hg (by rw [HAE.out]; exact hcc)
      rw [HAE.out] at hend
      have HEE := Hk.mk hend
      clear hend
      by_cases h1 : (f : Int) ≤ W + H
      · have d4 : decide ((f : Int) ≤ W + H) = true := by simpa using h1
        have h2 : ¬ A.length < N := fun q => hcc ⟨h1, q⟩
        have d5 : decide ((A.length : Int) < (N : Int)) = false := by simpa using h2
        as_aux_lemma =>
          go_wp2_with fail
          go_ret2
          refine ⟨_, rfl, ?_, HFI.out _ HC.out⟩
          rw [← HEE.out]
          exact own_le20 HO.out (by omega)
      · have d4 : decide ((f : Int) ≤ W + H) = false := by simpa using h1
        as_aux_lemma =>
          go_wp2_with fail
          go_ret2
          refine ⟨_, rfl, ?_, HFI.out _ HC.out⟩
          rw [← HEE.out]
          exact own_le20 HO.out (by omega)
end Go.Proofs.YthabjihpjdlmoaaDoor
