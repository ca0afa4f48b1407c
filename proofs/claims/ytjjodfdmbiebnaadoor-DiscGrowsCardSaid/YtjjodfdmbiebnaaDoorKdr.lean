import Derived.BigGuardPart
import Derived.Deep.QuietTactic
import Derived.BigQuiet
import Derived.Deep.RegionWith
import Derived.Deep.RegionHeld3
import Derived.Deep.DeepCutAuto
import Derived.Deep.DeepFit
import Derived.Outline
import Derived.Test.YtjjodfdmbiebnaaDoorKdq
import Derived.Test.YtjjodfdmbiebnaaDoorKdg
import Derived.SevenTiedAt
import Derived.ProofKit
import Derived.LaidMore
import Derived.OpenShut
import Derived.Stop.Joined
import Derived.Test.YtjjodfdmbiebnaaDoorCards
import Derived.Test.YtjjodfdmbiebnaaDoorTie
import Derived.Test.YtjjodfdmbiebnaaDoorKde
import Derived.Test.YtjjodfdmbiebnaaDoorKdf
import Derived.Test.YtjjodfdmbiebnaaDoorKdj
/- Layer 9: what the statements call, and their argument. -/
namespace Go.Proofs.YtjjodfdmbiebnaaDoor
open Go.ChangeShapes Go.WideShapes Go.ChangeAt Go.RowKit Go.Deep
set_option linter.unusedVariables false
set_option linter.unusedSimpArgs false
theorem num9_any (x : Int) (w : World) : Calls Tryd.prog 27 #[.int .i64 x] w fun e w' => e = .returned (.int .i64 x) ∧ w = w' := by
  go_enter Tryd.func27, Tryd.ntmps27
  go_wp2
  go_ret
  exact ⟨rfl, rfl⟩
/-- Is it more than is played? -/
def gtP (n ln : Nat) : Bool := decide (700 < n ∨ 30 < ln)
theorem great_any (W H : Int) (a : Option Addr) (n c : Nat) (la : Option Addr) (ln lc : Nat) (w : World) (hn : n ≤ 9223372036854775807) (hln : ln ≤ 9223372036854775807) :
    Calls Tryd.prog 55 #[.agg #[.int .i64 W, .int .i64 H, .slice a n c], .slice la ln lc] w fun e w' => e = .returned (.bool (gtP n ln)) ∧ Below w.heap.size w w' := by
  by_cases q1 : 700 < n
  · have R : Hk (gtP n ln = true) := ⟨by unfold gtP; simp; omega⟩
    have b1 : decide ((700 : Int) < n) = true := by simp; omega
    go_enter Tryd.func55, Tryd.ntmps55
    go_wp2
    go_ret
    exact ⟨rbo R.out.symm, (Below.refl _ _).alloc (Nat.le_refl _) _⟩
  have b1 : decide ((700 : Int) < n) = false := by simp; omega
  by_cases q2 : 30 < ln
  · have R : Hk (gtP n ln = true) := ⟨by unfold gtP; simp; omega⟩
    have b2 : decide ((30 : Int) < ln) = true := by simp; omega
    go_enter Tryd.func55, Tryd.ntmps55
    go_wp2
    go_ret
    exact ⟨rbo R.out.symm, (Below.refl _ _).alloc (Nat.le_refl _) _⟩
  · have R : Hk (gtP n ln = false) := ⟨by unfold gtP; simp; omega⟩
    have b2 : decide ((30 : Int) < ln) = false := by simp; omega
    go_enter Tryd.func55, Tryd.ntmps55
    go_wp2
    go_ret
    exact ⟨rbo R.out.symm, (Below.refl _ _).alloc (Nat.le_refl _) _⟩
theorem great_as (r : Bool) (W H : Int) (a : Option Addr) (n c : Nat) (la : Option Addr) (ln lc : Nat) (w : World) (hn : n ≤ 9223372036854775807) (hln : ln ≤ 9223372036854775807) (R : Hk (gtP n ln = r)) :
    Calls Tryd.prog 55 #[.agg #[.int .i64 W, .int .i64 H, .slice a n c], .slice la ln lc] w fun e w' => e = .returned (.bool r) ∧ Below w.heap.size w w' := by
  obtain ⟨rfl⟩ := R; exact great_any W H a n c la ln lc w hn hln
theorem heavy9_as (r : Bool) (W H : Int) (a : Option Addr) (n c : Nat) (la : Option Addr) (ln lc : Nat) (x : Int) (w : World) (hn : n ≤ 9223372036854775807) (hln : ln ≤ 9223372036854775807) (R : Hk (gtP n ln = r)) :
    Calls Tryd.prog 23 #[.agg #[.int .i64 W, .int .i64 H, .slice a n c, .slice la ln lc, .int .i64 x]] w fun e w' => e = .returned (.bool r) ∧ Below w.heap.size w w' := by
  have HWB : Hk (Below w.heap.size w (w.alloc (.cells #[.int .i64 W, .int .i64 H, .slice a n c, .slice la ln lc, .int .i64 x] 48))) := ⟨(Below.refl _ _).alloc (Nat.le_refl _) _⟩
  have hNW : w.heap.size + 1 ≤ (w.alloc (.cells #[.int .i64 W, .int .i64 H, .slice a n c, .slice la ln lc, .int .i64 x] 48)).heap.size := by simp
  have HB : Hk (Below (w.heap.size + 1) (w.alloc (.cells #[.int .i64 W, .int .i64 H, .slice a n c, .slice la ln lc, .int .i64 x] 48)) (w.alloc (.cells #[.int .i64 W, .int .i64 H, .slice a n c, .slice la ln lc, .int .i64 x] 48))) := ⟨Below.refl _ _⟩
  have HTR : Hk (∀ X, Below (w.heap.size + 1) (w.alloc (.cells #[.int .i64 W, .int .i64 H, .slice a n c, .slice la ln lc, .int .i64 x] 48)) X → Below w.heap.size w X) := ⟨fun X hX => HWB.out.trans (hX.mono (by omega))⟩
  go_enter Tryd.func23, Tryd.ntmps23
  go_wp2_with (go_at_call 55; (with_reducible refine (great_as r W H a n c la ln lc _ hn hln R).mono ?_); rintro e z ⟨rfl, hb⟩; replace HB := Hk.mk (kw_step HB.out hNW hb); clear hb)
  go_ret
  exact ⟨rfl, HTR.out _ HB.out⟩
theorem may9_yes (W H : Int) (a : Option Addr) (n c : Nat) (xs : List Int) (la : Option Addr) (ln lc : Nat) (bs : List Bd) (x : Int) (w : World) (h : By w w.heap.size a n xs) (hb0 : Bq w w.heap.size la ln bs) (hn : n ≤ 140737488355328) (hln : ln ≤ 1099511627776) (MM : Hk (MOk W H n xs bs ∧ 0 ≤ x ∧ x ≤ 2)) :
    Calls Tryd.prog 24 #[.agg #[.int .i64 W, .int .i64 H, .slice a n c, .slice la ln lc, .int .i64 x]] w fun e w' => e = .returned (.int .i64 0) ∧ Below w.heap.size w w' := by
  have HWB : Hk (Below w.heap.size w (w.alloc (.cells #[.int .i64 W, .int .i64 H, .slice a n c, .slice la ln lc, .int .i64 x] 48))) := ⟨(Below.refl _ _).alloc (Nat.le_refl _) _⟩
  have hNW : w.heap.size + 1 ≤ (w.alloc (.cells #[.int .i64 W, .int .i64 H, .slice a n c, .slice la ln lc, .int .i64 x] 48)).heap.size := by simp
  have HB : Hk (Below (w.heap.size + 1) (w.alloc (.cells #[.int .i64 W, .int .i64 H, .slice a n c, .slice la ln lc, .int .i64 x] 48)) (w.alloc (.cells #[.int .i64 W, .int .i64 H, .slice a n c, .slice la ln lc, .int .i64 x] 48))) := ⟨Below.refl _ _⟩
  have HTR : Hk (∀ X, Below (w.heap.size + 1) (w.alloc (.cells #[.int .i64 W, .int .i64 H, .slice a n c, .slice la ln lc, .int .i64 x] 48)) X → Below w.heap.size w X) := ⟨fun X hX => HWB.out.trans (hX.mono (by omega))⟩
  have HBY := Hk.mk (fun (X : World) (hX : Below (w.heap.size + 1) (w.alloc (.cells #[.int .i64 W, .int .i64 H, .slice a n c, .slice la ln lc, .int .i64 x] 48)) X) => h.below (HTR.out X hX) (Nat.le_refl _))
  have HBQ := Hk.mk (fun (X : World) (hX : Below (w.heap.size + 1) (w.alloc (.cells #[.int .i64 W, .int .i64 H, .slice a n c, .slice la ln lc, .int .i64 x] 48)) X) => hb0.below (HTR.out X hX) (Nat.le_refl _))
  clear h hb0
  have E1 : Hk (true = true ↔ MOk W H n xs bs) := ⟨fun _ => MM.out.1, fun _ => rfl⟩
  have E2 : Hk (decide (0 ≤ x ∧ x ≤ 2) = true) := ⟨decide_eq_true MM.out.2⟩
  obtain ⟨hc, hf, hl, hn', hm⟩ := kw_rules HB.out hNW
  go_enter Tryd.func24, Tryd.ntmps24
  go_wp2_with (first | (go_at_call 38; (with_reducible refine (may_as true W H a n c xs la ln lc bs _ ?_ ?_ hn hln E1).mono ?_); (exact (HBY.out _ HB.out).mono (hsz1 HB.out)); (exact (HBQ.out _ HB.out).mono (hsz1 HB.out)); rintro e z ⟨rfl, hb⟩; replace HB := Hk.mk (kw_step HB.out hNW hb); clear hb; clear hc hf hl hn' hm; obtain ⟨hc, hf, hl, hn', hm⟩ := kw_rules HB.out hNW) | (go_at_call 39; (with_reducible refine (classC_as true x _ E2).mono ?_); rintro e z ⟨rfl, rfl⟩))
  go_ret
  exact ⟨rfl, HTR.out _ HB.out⟩
theorem may9_no (W H : Int) (a : Option Addr) (n c : Nat) (xs : List Int) (la : Option Addr) (ln lc : Nat) (bs : List Bd) (x : Int) (w : World) (h : By w w.heap.size a n xs) (hb0 : Bq w w.heap.size la ln bs) (hn : n ≤ 140737488355328) (hln : ln ≤ 1099511627776) (MM : Hk (¬ (MOk W H n xs bs ∧ 0 ≤ x ∧ x ≤ 2))) :
    Calls Tryd.prog 24 #[.agg #[.int .i64 W, .int .i64 H, .slice a n c, .slice la ln lc, .int .i64 x]] w fun e w' => e = .returned (.int .i64 1) ∧ Below w.heap.size w w' := by
  have HWB : Hk (Below w.heap.size w (w.alloc (.cells #[.int .i64 W, .int .i64 H, .slice a n c, .slice la ln lc, .int .i64 x] 48))) := ⟨(Below.refl _ _).alloc (Nat.le_refl _) _⟩
  have hNW : w.heap.size + 1 ≤ (w.alloc (.cells #[.int .i64 W, .int .i64 H, .slice a n c, .slice la ln lc, .int .i64 x] 48)).heap.size := by simp
  have HB : Hk (Below (w.heap.size + 1) (w.alloc (.cells #[.int .i64 W, .int .i64 H, .slice a n c, .slice la ln lc, .int .i64 x] 48)) (w.alloc (.cells #[.int .i64 W, .int .i64 H, .slice a n c, .slice la ln lc, .int .i64 x] 48))) := ⟨Below.refl _ _⟩
  have HTR : Hk (∀ X, Below (w.heap.size + 1) (w.alloc (.cells #[.int .i64 W, .int .i64 H, .slice a n c, .slice la ln lc, .int .i64 x] 48)) X → Below w.heap.size w X) := ⟨fun X hX => HWB.out.trans (hX.mono (by omega))⟩
  have HBY := Hk.mk (fun (X : World) (hX : Below (w.heap.size + 1) (w.alloc (.cells #[.int .i64 W, .int .i64 H, .slice a n c, .slice la ln lc, .int .i64 x] 48)) X) => h.below (HTR.out X hX) (Nat.le_refl _))
  have HBQ := Hk.mk (fun (X : World) (hX : Below (w.heap.size + 1) (w.alloc (.cells #[.int .i64 W, .int .i64 H, .slice a n c, .slice la ln lc, .int .i64 x] 48)) X) => hb0.below (HTR.out X hX) (Nat.le_refl _))
  clear h hb0
  by_cases hM : MOk W H n xs bs
  · have E1 : Hk (true = true ↔ MOk W H n xs bs) := ⟨fun _ => hM, fun _ => rfl⟩
    have E2 : Hk (decide (0 ≤ x ∧ x ≤ 2) = false) := ⟨decide_eq_false (fun h => MM.out ⟨hM, h⟩)⟩
    clear hM
    obtain ⟨hc, hf, hl, hn', hm⟩ := kw_rules HB.out hNW
    go_enter Tryd.func24, Tryd.ntmps24
    go_wp2_with (first | (go_at_call 38; (with_reducible refine (may_as true W H a n c xs la ln lc bs _ ?_ ?_ hn hln E1).mono ?_); (exact (HBY.out _ HB.out).mono (hsz1 HB.out)); (exact (HBQ.out _ HB.out).mono (hsz1 HB.out)); rintro e z ⟨rfl, hb⟩; replace HB := Hk.mk (kw_step HB.out hNW hb); clear hb; clear hc hf hl hn' hm; obtain ⟨hc, hf, hl, hn', hm⟩ := kw_rules HB.out hNW) | (go_at_call 39; (with_reducible refine (classC_as false x _ E2).mono ?_); rintro e z ⟨rfl, rfl⟩))
    go_ret
    exact ⟨rfl, HTR.out _ HB.out⟩
  · have E1 : Hk (false = true ↔ MOk W H n xs bs) := ⟨fun h => (by cases h), fun h => absurd h hM⟩
    clear hM
    obtain ⟨hc, hf, hl, hn', hm⟩ := kw_rules HB.out hNW
    go_enter Tryd.func24, Tryd.ntmps24
    go_wp2_with (go_at_call 38; (with_reducible refine (may_as false W H a n c xs la ln lc bs _ ?_ ?_ hn hln E1).mono ?_); (exact (HBY.out _ HB.out).mono (hsz1 HB.out)); (exact (HBQ.out _ HB.out).mono (hsz1 HB.out)); rintro e z ⟨rfl, hb⟩; replace HB := Hk.mk (kw_step HB.out hNW hb); clear hb; clear hc hf hl hn' hm; obtain ⟨hc, hf, hl, hn', hm⟩ := kw_rules HB.out hNW)
    go_ret
    exact ⟨rfl, HTR.out _ HB.out⟩
theorem byt_zeros9 : ∀ b ∈ ([0, 0, 0, 0, 0, 0, 0, 0, 0] : List Int), Fn.Byt b := by
  intro b hb
  simp at hb
  subst hb
  unfold Fn.Byt; omega
theorem sC_330 : (List.range 9).map (fun k => ((sC 3 3 (opn 3 [0, 0, 0, 0, 0, 0, 0, 0, 0] [] 0) k : Nat) : Int)) = [1, 1, 1, 1, 2, 1, 1, 1, 1] := by decide
theorem arr_w {w w' : World} {g n : Nat} {T : TypeId} {f : Nat → Value} (h : Arr w g n T f) (hb : Below w.heap.size w w') : Arr w' g n T f := h.later hb
set_option maxRecDepth 100000 in
theorem wakes9_any (w : World) (hL : LC w) : Calls Tryd.prog 30 #[] w fun e w' => e = .returned (.bool true) ∧ Below w.heap.size w w' := by
  have hM : MOk 3 3 9 [0, 0, 0, 0, 0, 0, 0, 0, 0] [] := ⟨⟨by omega, by omega, by omega, by omega, by decide, by decide⟩, by simp, fun k hk => by simp at hk, by simp, by simp, by simp, fun i j h1 h2 => by simp at h2⟩
  have MM := Hk.mk hM
  have hby := By.lit w [0, 0, 0, 0, 0, 0, 0, 0, 0] 5 (0, 0) (w.heap.size + 1) 9 rfl byt_zeros9 (by omega)
  have HBY := Hk.mk hby
  have HL := Hk.mk (hL.below ((Below.refl _ _).alloc (Nat.le_refl _) (.cells (([0, 0, 0, 0, 0, 0, 0, 0, 0] : List Int).map (Value.int .u8)).toArray 5)) (Nat.le_refl _))
  have hmk : ∀ w, (Instr.makeSlice 22 (.int .i64 9) (.int .i64 9)).run Tryd.prog w = .ok (.slice (some ⟨w.heap.size, 0, none⟩) 9 9) (w.alloc (.cells #[.int .u8 0, .int .u8 0, .int .u8 0, .int .u8 0, .int .u8 0, .int .u8 0, .int .u8 0, .int .u8 0, .int .u8 0] 5)) := fun _ => by kernel_rfl
  clear hM hby hL
  go_enter Tryd.func30, Tryd.ntmps30
  go_wp2_with (first
    | (go_at_call 32; go_must (refine (grid_yes 3 3 (some ⟨w.heap.size, 0, none⟩) 9 9 [0, 0, 0, 0, 0, 0, 0, 0, 0] none 0 0 [] _ (HBY.out.mono (by simp)) ⟨rfl, fun h => absurd h (by omega)⟩ (by omega) (by omega) 0 HL.out (by omega) MM).mono ?_); rintro e w1 ⟨g, rfl, hg1, hA, hb1⟩; have HNQ := Hk.mk (hA.nq (B := g + 1) (Nat.lt_succ_self g)); rw [sC_330] at HNQ; have HB1 := Hk.mk hb1; have hz1 := hb1.size; simp at hz1; have hgl := hA.lt; have HNL := Hk.mk (nq_lit w1 [1, 1, 1, 1, 2, 1, 1, 1, 1] 3 9 rfl); clear hA hb1)
    | (go_at_call 27; (with_reducible refine (num9_any _ _).mono ?_); rintro e w' ⟨rfl, rfl⟩)
    | (go_at_call 33; go_must (refine (eqn_yes (some ⟨g, 0, none⟩) (some ⟨w1.heap.size, 0, none⟩) 9 9 9 (g + 1) (w1.heap.size + 1) [1, 1, 1, 1, 2, 1, 1, 1, 1] _ (HNQ.out.below ((Below.refl _ _).alloc (Nat.le_refl _) _) (by omega)) HNL.out (by omega)).mono ?_); rintro e w2 ⟨rfl, m, rfl⟩))
  go_ret
  exact ⟨rfl, below_drewN ((((Below.refl _ _).alloc (Nat.le_refl _) _).trans (HB1.out.mono (by simp <;> omega))).alloc (by omega) _) _⟩
/-- The argument: a ground, buildings, a class. -/
def Asks9 (w : World) (v : Value) : Prop := ∃ (W H : Int) (a : Option Addr) (n c : Nat) (xs : List Int) (la : Option Addr) (ln lc : Nat) (bs : List Bd) (x : Int),
  v = .agg #[.int .i64 W, .int .i64 H, .slice a n c, .slice la ln lc, .int .i64 x] ∧ I64' W ∧ I64' H ∧ I64' x ∧ n ≤ 9223372036854775807 ∧ ln ≤ lc ∧ lc ≤ 9223372036854775807 ∧ By w w.heap.size a n xs ∧ Bq w w.heap.size la ln bs ∧ (∀ k, k < ln → ∀ i, I64' ((bs.getD k default).c i))
set_option maxRecDepth 100000 in
theorem asks9_of {H : Type} {enc : TypeId × Value → H} {w : World} {base : Nat} {spare : Nat → Bool} {held : Bool} {fuel : Nat} {x : DataW H × List MemPlace} {cs : Array Value} (hcs : cs.size = Tryd.prog.cellsOf 48)
    (hf : DataW.trod enc Tryd.prog w base spare held fuel 48 cs.toList = some x) : Asks9 w (.agg cs) := by
  have hC : Tryd.prog.cellsOf 48 = 5 := by kernel_rfl
  have h1 : Tryd.prog.cellsOf 24 = 3 := by kernel_rfl
  have h2 : Tryd.prog.cellsOf 46 = 1 := by kernel_rfl
  have h3 : Tryd.prog.cellsOf 3 = 1 := by kernel_rfl
  rw [hC] at hcs
  obtain ⟨l⟩ := cs
  match l, hcs with
  | [c0, c1, c2, c3, c4], _ =>
    obtain ⟨ys, n', _, _, _, hyl, hg⟩ := DataW.trod_struct Tryd.underlying48 hf
    match ys, hyl with
    | [y0, y1, y2], _ =>
      have g0 := hg 0 _ rfl
      have g1 := hg 1 _ rfl
      have g2 := hg 2 _ rfl
      simp [h1, h2, h3] at g0 g1 g2
      obtain ⟨W, H, a, n, c, xs, rfl, rfl, rfl, hW, hH, hn, hby⟩ := op_ground g0
      obtain ⟨la, ln, lc, bs, rfl, hlc, hc, hbq, hi⟩ := op_bds g1
      obtain ⟨x, rfl, hx⟩ := op_int g2
      exact ⟨W, H, a, n, c, xs, la, ln, lc, bs, x, rfl, hW, hH, hx, hn, hlc, hc, hby, hbq, hi⟩
end Go.Proofs.YtjjodfdmbiebnaaDoor
/- Layer 9: is the whole square open? -/
namespace Go.Proofs.YtjjodfdmbiebnaaDoor
open Go.RowKit
set_option linter.unusedVariables false
set_option linter.unusedSimpArgs false
theorem op_in {W H : Int} {f : Nat → Bool} {x y : Int} {k : Nat} (a : 0 ≤ x) (b : x < W) (c : 0 ≤ y) (d : y < H) (e : x + W * y = k) : opXY W H f x y = f k := by
  unfold opXY; rw [decide_eq_true ⟨a, b, c, d⟩, Bool.true_and, e]; simp
theorem at_lt {W H x y : Int} {n : Nat} (w1 : 1 ≤ W) (hn : (n : Int) = W * H) (a : 0 ≤ x) (b : x < W) (c : 0 ≤ y) (d : y < H) : 0 ≤ x + W * y ∧ x + W * y < n := by
  have h0 := Int.mul_nonneg (show 0 ≤ W by omega) c
  have h1 := Int.mul_le_mul_of_nonneg_left (show y + 1 ≤ H by omega) (show 0 ≤ W by omega)
  rw [Int.mul_add, Int.mul_one] at h1
  omega
set_option maxRecDepth 100000 in
set_option maxHeartbeats 1600000 in
theorem full_as (v : Bool) (m : Nat) (W H : Int) (a : Option Addr) (n c : Nat) (J : Nat) (F : Nat → Bool) (x y r : Int) (w : World) (w1 : 1 ≤ W) (w2 : W ≤ 128) (h1 : 1 ≤ H) (h2 : H ≤ 128) (HN : Hk ((n : Int) = W * H)) (HA : Hk (Arr w J n 4 (fun k => .bool (F k)))) (x0 : 0 ≤ x) (x1 : x < W) (y0 : 0 ≤ y) (y1 : y < H) (hm : m ≤ 129) (HR : Hk (r = (m : Int) - 1)) (E : Hk (sqB (opXY W H F) m x y = v)) :
    Calls Tryd.prog 35 #[.agg #[.int .i64 W, .int .i64 H, .slice a n c], .slice (some ⟨J, 0, none⟩) n n, .int .i64 x, .int .i64 y, .int .i64 r] w fun e w' => e = .returned (.bool v) ∧ Below w.heap.size w w' := by
  have hNW : w.heap.size + 1 ≤ (w.alloc (.cells #[.int .i64 W, .int .i64 H, .slice a n c] 24)).heap.size := by simp
  have HWB : Hk (Below w.heap.size w (w.alloc (.cells #[.int .i64 W, .int .i64 H, .slice a n c] 24))) := ⟨(Below.refl _ _).alloc (Nat.le_refl _) _⟩
  have HTR : Hk (∀ X, Below (w.heap.size + 1) (w.alloc (.cells #[.int .i64 W, .int .i64 H, .slice a n c] 24)) X → Below w.heap.size w X) := ⟨fun X hX => HWB.out.trans (hX.mono (by omega))⟩
  have HB : Hk (Below (w.heap.size + 1) (w.alloc (.cells #[.int .i64 W, .int .i64 H, .slice a n c] 24)) (w.alloc (.cells #[.int .i64 W, .int .i64 H, .slice a n c] 24))) := ⟨Below.refl _ _⟩
  have r0 : -1 ≤ r := by have := HR.out; omega
  have r1 : r ≤ 128 := by have := HR.out; omega
  have hn16 : (n : Int) ≤ 16384 := by have := HN.out; have := mul_bd w1 w2 h1 h2; omega
  have hJw : J < w.heap.size := HA.out.lt
  by_cases hr : r < 0
  · have hv : true = v := by
      have : m = 0 := by have := HR.out; omega
      have e := E.out
      rw [this] at e; exact e
    subst hv
    clear E HR
    have d0 : decide (0 ≤ r) = false := by simpa using hr
    obtain rfl : r = -1 := by omega
    obtain ⟨hc, hf, hl, hn', hm⟩ := kw_rules HB.out hNW
    go_enter Tryd.func35, Tryd.ntmps35
    go_wp2
    go_loopw [11] (fun s wr => s = .int .i64 (y + 1) ∧ wr = (w.alloc (.cells #[.int .i64 W, .int .i64 H, .slice a n c] 24))) (fun _ _ => 0)
    case atStart => exact ⟨by simp, rfl⟩
    case round =>
      obtain ⟨rfl, rfl⟩ := hrel
      have dd : decide (y + 1 ≤ y + -1) = false := by simp
      go_wp2
      go_ret
      exact ⟨rfl, HTR.out _ HB.out⟩
  · obtain ⟨q, rfl⟩ : ∃ q : Nat, r = q := ⟨r.toNat, by omega⟩
    have hmq : m = q + 1 := by have := HR.out; omega
    have E' := E.out
    rw [hmq] at E'
    have d0 : decide ((0 : Int) ≤ (q : Int)) = true := by simp
    by_cases hin : 0 ≤ x - q ∧ 0 ≤ y - q ∧ x + q < W ∧ y + q < H
    · obtain ⟨i1, i2, i3, i4⟩ := hin
      have HT : Hk (v = true → ∀ p s : Int, x - q ≤ p → p ≤ x + q → y - q ≤ s → s ≤ y + q → opXY W H F p s = true) := ⟨fun hv p s p0 p1 s0 s1 => by
        have := (sq_iff (opXY W H F) q x y).1 (E'.trans hv) (p - x) (s - y) (by omega) (by omega) (by omega) (by omega)
        rw [show x + (p - x) = p by omega, show y + (s - y) = s by omega] at this
        exact this⟩
      have hF : v = false → ∃ p s : Int, x - q ≤ p ∧ p ≤ x + q ∧ y - q ≤ s ∧ s ≤ y + q ∧ opXY W H F p s = false := fun hv => by
        apply Classical.byContradiction
        intro hno
        have : sqB (opXY W H F) (q + 1) x y = true := (sq_iff (opXY W H F) q x y).2 fun i j i1 i2 j1 j2 => by
          cases c : opXY W H F (x + i) (y + j)
          · exact absurd ⟨x + i, y + j, by omega, by omega, by omega, by omega, c⟩ hno
          · rfl
        rw [E', hv] at this; cases this
      have hF2 : ∃ p s : Int, Hk (v = false → x - q ≤ p ∧ p ≤ x + q ∧ y - q ≤ s ∧ s ≤ y + q ∧ opXY W H F p s = false) := by
        cases v
        · obtain ⟨p, s, h⟩ := hF rfl
          exact ⟨p, s, ⟨fun _ => h⟩⟩
        · exact ⟨0, 0, ⟨fun h => by cases h⟩⟩
      obtain ⟨p, s, HF⟩ := hF2
      clear hF E E' HR hmq hm
      have d1 : decide (x - (q : Int) < 0) = false := by simp; omega
      have d2 : decide (y - (q : Int) < 0) = false := by simp; omega
      have d3 : decide (W ≤ x + (q : Int)) = false := by simp; omega
      have d4 : decide (H ≤ y + (q : Int)) = false := by simp; omega
      obtain ⟨hc, hf, hl, hn', hm⟩ := kw_rules HB.out hNW
      go_enter Tryd.func35, Tryd.ntmps35
      go_wp2
      clear hc hf hl hn' hm
      go_loopw [11] (fun t wr => ∃ b : Int, t = .int .i64 b ∧ y - q ≤ b ∧ b ≤ y + q + 1 ∧ Hk (v = false → b ≤ s) ∧ Hk (Below (w.heap.size + 1) (w.alloc (.cells #[.int .i64 W, .int .i64 H, .slice a n c] 24)) wr)) (fun t _ => (y + q + 1 - intOf t).toNat)
      case atStart => exact ⟨_, rfl, by omega, by omega, ⟨fun hv => by have := (HF.out hv).2.2.1; omega⟩, HB⟩
      case round =>
        clear HB
        obtain ⟨b, rfl, b0, b1, HS, HB⟩ := hrel
        obtain ⟨hc, hf, hl, hn', hm⟩ := kw_rules HB.out hNW
        by_cases hb : b ≤ y + q
        · have db : decide (b ≤ y + (q : Int)) = true := by simp; omega
          go_wp2
          clear hc hf hl hn' hm
          obtain ⟨P, hP⟩ : ∃ P, W * b = P := ⟨_, rfl⟩
          have P0 : 0 ≤ P := by rw [← hP]; exact Int.mul_nonneg (by omega) (by omega)
          have P1 : P ≤ 16384 := by
            have := Int.mul_le_mul w2 (show b ≤ 128 by omega) (by omega) (by omega)
            omega
          have wP : IntKind.i64.wrap (W * b) = P := by rw [hP, IntKind.wrap_i64]; omega
          obtain ⟨wo, rfl⟩ : ∃ wo : World, wo = wr := ⟨wr, rfl⟩
          go_loopw [12] (fun t wr => ∃ g : Int, t = .int .i64 g ∧ x - q ≤ g ∧ g ≤ x + q + 1 ∧ Hk (v = false → b = s → g ≤ p) ∧ Hk (Below (w.heap.size + 1) (w.alloc (.cells #[.int .i64 W, .int .i64 H, .slice a n c] 24)) wr)) (fun t _ => (x + q + 1 - intOf t).toNat)
          case atStart => exact ⟨_, rfl, by omega, by omega, ⟨fun hv _ => by have := (HF.out hv).1; omega⟩, HB⟩
          case round =>
            clear HB
            obtain ⟨g, rfl, g0, g1, HG, HB⟩ := hrel
            obtain ⟨hc, hf, hl, hn', hm⟩ := kw_rules HB.out hNW
            by_cases hg : g ≤ x + q
            · have dg : decide (g ≤ x + (q : Int)) = true := by simp; omega
              have hl := at_lt (H := H) (y := b) w1 HN.out (show 0 ≤ g by omega) (show g < W by omega) (by omega) (by omega)
              rw [hP] at hl
              obtain ⟨T, hT⟩ : ∃ T : Nat, g + P = T := ⟨(g + P).toNat, by omega⟩
              have hTn : T < n := by omega
              have c0 := HA.out.cell hTn
              have T0 : (0 : Int) ≤ (T : Int) := by omega
              have T1 : (T : Int) < (n : Int) := by omega
              have wT : IntKind.i64.wrap (g + P) = T := by rw [hT, IntKind.wrap_i64]; omega
              have HO : Hk (opXY W H F g b = F T) := ⟨op_in (by omega) (by omega) (by omega) (by omega) (by rw [hP]; exact hT)⟩
              clear hl
              cases cF : F T
              case true =>
                rw [cF] at c0
                rw [cF] at HO
                clear cF
                go_wp2
                exact ⟨⟨g + 1, by go_num, by omega, by omega, ⟨fun hv hb => by
                  have h1 := HG.out hv hb
                  by_cases e : g = p
                  · exfalso
                    have h2 := (HF.out hv).2.2.2.2
                    rw [← e, ← hb, HO.out] at h2; cases h2
                  · omega⟩, HB⟩, by simp [intOf]; omega⟩
              case false =>
                rw [cF] at c0
                rw [cF] at HO
                clear cF
                have hv : false = v := by
                  cases v
                  · rfl
                  · have := HT.out rfl g b (by omega) (by omega) (by omega) (by omega)
                    rw [HO.out] at this; cases this
                subst hv
                go_wp2
                go_ret
                exact ⟨rfl, HTR.out _ HB.out⟩
            · have dg : decide (g ≤ x + (q : Int)) = false := by simp; omega
              go_wp2
              exact ⟨⟨b + 1, by go_num, by omega, by omega, ⟨fun hv => by
                have h1 := HS.out hv
                by_cases e : b = s
                · have := HG.out hv e; have := (HF.out hv).2.1; omega
                · omega⟩, HB⟩, by simp [intOf]; omega⟩
        · have db : decide (b ≤ y + (q : Int)) = false := by simp; omega
          have hv : true = v := by
            cases v
            · have := HS.out rfl; have := (HF.out rfl).2.2.2.1; omega
            · rfl
          subst hv
          go_wp2
          go_ret
          exact ⟨rfl, HTR.out _ HB.out⟩
    · have hv : false = v := by
        cases v
        · rfl
        · exfalso
          have hs := (sq_iff (opXY W H F) q x y).1 E'
          have a1 := opXY_in (hs (-(q : Int)) (-(q : Int)) (by omega) (by omega) (by omega) (by omega))
          have a2 := opXY_in (hs (q : Int) (q : Int) (by omega) (by omega) (by omega) (by omega))
          omega
      subst hv
      clear E E' HR hmq hm
      obtain ⟨hc, hf, hl, hn', hm⟩ := kw_rules HB.out hNW
      by_cases c1 : x - (q : Int) < 0
      · have d1 : decide (x - (q : Int) < 0) = true := by simp; omega
        clear hin
        go_enter Tryd.func35, Tryd.ntmps35
        go_wp2
        go_ret
        exact ⟨rfl, HTR.out _ (by first | exact HB.out | exact below_drewN HB.out _)⟩
      have d1 : decide (x - (q : Int) < 0) = false := by simp; omega
      by_cases c2 : y - (q : Int) < 0
      · have d2 : decide (y - (q : Int) < 0) = true := by simp; omega
        clear hin
        go_enter Tryd.func35, Tryd.ntmps35
        go_wp2
        go_ret
        exact ⟨rfl, HTR.out _ (by first | exact HB.out | exact below_drewN HB.out _)⟩
      have d2 : decide (y - (q : Int) < 0) = false := by simp; omega
      by_cases c3 : W ≤ x + (q : Int)
      · have d3 : decide (W ≤ x + (q : Int)) = true := by simp; omega
        clear hin
        go_enter Tryd.func35, Tryd.ntmps35
        go_wp2
        go_ret
        exact ⟨rfl, HTR.out _ (by first | exact HB.out | exact below_drewN HB.out _)⟩
      have d3 : decide (W ≤ x + (q : Int)) = false := by simp; omega
      by_cases c4 : H ≤ y + (q : Int)
      · have d4 : decide (H ≤ y + (q : Int)) = true := by simp; omega
        clear hin
        go_enter Tryd.func35, Tryd.ntmps35
        go_wp2
        go_ret
        exact ⟨rfl, HTR.out _ (by first | exact HB.out | exact below_drewN HB.out _)⟩
      · omega
end Go.Proofs.YtjjodfdmbiebnaaDoor
/- Layer 17: tiles.Free. -/
namespace Go.Proofs.YtjjodfdmbiebnaaDoor
open Go.RowKit Go.Deep
set_option linter.unusedVariables false
set_option linter.unusedSimpArgs false
/-- The disc lies on the ground. -/
def inD (W H px py r : Int) : Bool := decide (r ≤ px ∧ px ≤ W * 65536 - r ∧ r ≤ py ∧ py ≤ H * 65536 - r)
/-- It meets no tile that isn't open. -/
def cfB (W : Int) (F : Nat → Bool) (n : Nat) (px py r : Int) : Bool := (List.range n).all fun t => F t || !meetsS W t px py r
def frS (W H : Int) (F : Nat → Bool) (n : Nat) (px py r : Int) : Bool := inD W H px py r && cfB W F n px py r
theorem frS_out {W H px py r : Int} {F : Nat → Bool} {n : Nat} (h : ¬ (r ≤ px ∧ px ≤ W * 65536 - r ∧ r ≤ py ∧ py ≤ H * 65536 - r)) : frS W H F n px py r = false := by
  unfold frS inD; rw [decide_eq_false h]; rfl
theorem frS_hit {W H px py r : Int} {F : Nat → Bool} {n t : Nat} (ht : t < n) (hF : F t = false) (hm : meetsS W t px py r = true) : frS W H F n px py r = false := by
  unfold frS
  rw [Bool.and_eq_false_iff]
  right
  cases q : cfB W F n px py r
  · rfl
  · unfold cfB at q
    have := List.all_eq_true.1 q t (List.mem_range.2 ht)
    rw [hF, hm] at this
    cases this
theorem frS_yes {W H px py r : Int} {F : Nat → Bool} {n : Nat} (h : r ≤ px ∧ px ≤ W * 65536 - r ∧ r ≤ py ∧ py ≤ H * 65536 - r) (ha : ∀ t, t < n → F t = true ∨ meetsS W t px py r = false) : frS W H F n px py r = true := by
  unfold frS inD
  rw [decide_eq_true h, Bool.true_and]
  unfold cfB
  refine List.all_eq_true.2 fun t ht => ?_
  rcases ha t (List.mem_range.1 ht) with e | e <;> rw [e] <;> simp
/-- A tile that the disc meets lies between the columns of its edges. -/
theorem meets_cols {W px py r : Int} {t : Nat} (h : meetsS W t px py r = true) : (px - r) / 65536 ≤ (t : Int) % W ∧ (t : Int) % W ≤ (px + r) / 65536 ∧ (py - r) / 65536 ≤ (t : Int) / W ∧ (t : Int) / W ≤ (py + r) / 65536 := by
  unfold meetsS at h
  rw [Bool.and_eq_true, Bool.and_eq_true, decide_eq_true_iff, decide_eq_true_iff] at h
  obtain ⟨h1, h2, -⟩ := h
  unfold bsS at h1 h2
  revert h1 h2
  generalize (t : Int) % W = x
  generalize (t : Int) / W = y
  intro h1 h2
  refine ⟨?_, ?_, ?_, ?_⟩
  · split at h1
    · omega
    · split at h1 <;> omega
  · split at h1
    · omega
    · split at h1 <;> omega
  · split at h2
    · omega
    · split at h2 <;> omega
  · split at h2
    · omega
    · split at h2 <;> omega
theorem column_as (x y : Int) (w : World) (x0 : 0 ≤ x) (x1 : x ≤ 2199023255552) (E : Hk (x / 65536 = y)) : Calls Tryd.prog 72 #[.int .i64 x] w fun e w' => e = .returned (.int .i64 y) ∧ w = w' := by
  have r2 : x.tdiv 65536 = y := by rw [← E.out]; exact Int.tdiv_eq_ediv_of_nonneg x0
  have e3 : IntKind.i64.wrap y = y := IntWalk.i64_in _ (by have := E.out; omega)
  go_enter Tryd.func72, Tryd.ntmps72
  go_wp2_with fail
  go_ret
  exact ⟨rfl, rfl⟩
set_option maxRecDepth 100000 in
set_option maxHeartbeats 800000 in
theorem tfree_any (W H : Int) (I n : Nat) (F : Nat → Bool) (px py r : Int) (w : World) (w1 : 1 ≤ W) (w2 : W ≤ 128) (h1 : 1 ≤ H) (h2 : H ≤ 128) (hn : (n : Int) = W * H) (hA : Arr w I n 4 (fun k => .bool (F k))) (hx : -1099511627776 ≤ px ∧ px ≤ 1099511627776) (hy : -1099511627776 ≤ py ∧ py ≤ 1099511627776) (hr : 0 ≤ r ∧ r ≤ 262144) :
    Calls Tryd.prog 69 #[.int .i64 W, .int .i64 H, .slice (some ⟨I, 0, none⟩) n n, .agg #[.int .i64 px, .int .i64 py], .int .i64 r] w fun e w' => e = .returned (.bool (frS W H F n px py r)) ∧ Below w.heap.size w w' := by
  have HWB : Hk (Below w.heap.size w (w.alloc (.cells #[.int .i64 px, .int .i64 py] 38))) := ⟨(Below.refl _ _).alloc (Nat.le_refl _) _⟩
  have hNW : w.heap.size + 1 ≤ (w.alloc (.cells #[.int .i64 px, .int .i64 py] 38)).heap.size := by simp
  have HB : Hk (Below (w.heap.size + 1) (w.alloc (.cells #[.int .i64 px, .int .i64 py] 38)) (w.alloc (.cells #[.int .i64 px, .int .i64 py] 38))) := ⟨Below.refl _ _⟩
  have HTR : Hk (∀ X, Below (w.heap.size + 1) (w.alloc (.cells #[.int .i64 px, .int .i64 py] 38)) X → Below w.heap.size w X) := ⟨fun X hX => HWB.out.trans (hX.mono (by omega))⟩
  have HA0 := Hk.mk (hA.alloc (.cells #[.int .i64 px, .int .i64 py] 38))
  have hI : I < w.heap.size + 1 := by have := hA.lt; omega
  have HNN := Hk.mk hn
  obtain ⟨x0, x1⟩ := hx
  obtain ⟨y0, y1⟩ := hy
  obtain ⟨r0, r1⟩ := hr
  have HX : Hk (-1099511627776 ≤ px ∧ px ≤ 1099511627776) := ⟨⟨x0, x1⟩⟩
  have HY : Hk (-1099511627776 ≤ py ∧ py ≤ 1099511627776) := ⟨⟨y0, y1⟩⟩
  have HR : Hk (0 ≤ r ∧ r ≤ 262144) := ⟨⟨r0, r1⟩⟩
  clear hA hn
  by_cases c1 : px < r
  · have d1 : decide (px < r) = true := by simpa using c1
    go_enter Tryd.func69, Tryd.ntmps69
    go_wp2_with fail
    go_ret
    exact ⟨by rw [frS_out (by omega)]; rfl, HTR.out _ HB.out⟩
  have d1 : decide (px < r) = false := by simpa using c1
  by_cases c2 : W * 65536 - r < px
  · have d2 : decide (W * 65536 - r < px) = true := by simpa using c2
    go_enter Tryd.func69, Tryd.ntmps69
    go_wp2_with fail
    go_ret
    exact ⟨by rw [frS_out (by omega)]; rfl, HTR.out _ HB.out⟩
  have d2 : decide (W * 65536 - r < px) = false := by simpa using c2
  by_cases c3 : py < r
  · have d3 : decide (py < r) = true := by simpa using c3
    go_enter Tryd.func69, Tryd.ntmps69
    go_wp2_with fail
    go_ret
    exact ⟨by rw [frS_out (by omega)]; rfl, HTR.out _ HB.out⟩
  have d3 : decide (py < r) = false := by simpa using c3
  by_cases c4 : H * 65536 - r < py
  · have d4 : decide (H * 65536 - r < py) = true := by simpa using c4
    go_enter Tryd.func69, Tryd.ntmps69
    go_wp2_with fail
    go_ret
    exact ⟨by rw [frS_out (by omega)]; rfl, HTR.out _ HB.out⟩
  have d4 : decide (H * 65536 - r < py) = false := by simpa using c4
  obtain ⟨cx, hcx⟩ : ∃ c, (px + r) / 65536 = c := ⟨_, rfl⟩
  obtain ⟨cy, hcy⟩ : ∃ c, (py + r) / 65536 = c := ⟨_, rfl⟩
  obtain ⟨ex, hex⟩ : ∃ c, (px - r) / 65536 = c := ⟨_, rfl⟩
  obtain ⟨ey, hey⟩ : ∃ c, (py - r) / 65536 = c := ⟨_, rfl⟩
  have ECX := Hk.mk hcx; have ECY := Hk.mk hcy; have EEX := Hk.mk hex; have EEY := Hk.mk hey
  have cxb : 0 ≤ cx ∧ cx ≤ 128 := by omega
  have cyb : 0 ≤ cy ∧ cy ≤ 128 := by omega
  have exb : 0 ≤ ex ∧ ex ≤ 128 := by omega
  have eyb : 0 ≤ ey ∧ ey ≤ 128 := by omega
  clear hcx hcy hex hey
  obtain ⟨mr, hmr⟩ : ∃ c, (if W - 1 < cx then W - 1 else cx) = c := ⟨_, rfl⟩
  obtain ⟨mb, hmb⟩ : ∃ c, (if H - 1 < cy then H - 1 else cy) = c := ⟨_, rfl⟩
  have RMR : Hk (0 ≤ mr ∧ mr ≤ W - 1 ∧ (mr = W - 1 ∨ mr = cx)) := ⟨by subst hmr; split <;> omega⟩
  have RMB : Hk (0 ≤ mb ∧ mb ≤ H - 1 ∧ (mb = H - 1 ∨ mb = cy)) := ⟨by subst hmb; split <;> omega⟩
  obtain ⟨hc, hf, hl, hn', hm⟩ := kw_rules HB.out hNW
  go_enter Tryd.func69, Tryd.ntmps69
  go_wp2_with fail
  go_quiet (first
    | (go_at_call 72; exact Calls.quiet_of_same ((column_as (px + r) cx _ (by omega) (by omega) ECX).mono (fun _ _ h => ⟨h.1, h.2.symm⟩)))
    | (go_at_call 72; exact Calls.quiet_of_same ((column_as (py + r) cy _ (by omega) (by omega) ECY).mono (fun _ _ h => ⟨h.1, h.2.symm⟩))))
  go_wp2_with (go_at_call 72; (with_reducible refine (column_as (py - r) ey _ (by omega) (by omega) EEY).mono ?_); rintro e w' ⟨rfl, rfl⟩)
  clear hc hf hl hn' hm
  go_loopw [13] (fun i wr => ∃ y : Int, i = .int .i64 y ∧ ey ≤ y ∧ y ≤ mb + 1 ∧ Hk (∀ t, t < n → (t : Int) / W < y → F t = true ∨ meetsS W t px py r = false) ∧ Hk (Below (w.heap.size + 1) (w.alloc (.cells #[.int .i64 px, .int .i64 py] 38)) wr)) (fun i _ => (mb + 1 - intOf i).toNat)
  case atStart =>
    refine ⟨ey, rfl, by omega, by have := RMB.out; have := EEY.out; have := ECY.out; omega, ⟨fun t ht hd => ?_⟩, ⟨below_drewN HB.out _⟩⟩
    cases q : meetsS W t px py r
    · exact Or.inr rfl
    · have := meets_cols q; have := EEY.out; omega
  case round =>
    clear HB
    obtain ⟨y, rfl, hy0, hy1, HP, HB⟩ := hrel
    obtain ⟨b1, b2, b3⟩ := RMB.out
    obtain ⟨a1, a2, a3⟩ := RMR.out
    by_cases hle : y ≤ mb
    · have b1 : decide (y ≤ mb) = true := by simpa using hle
      obtain ⟨hc, hf, hl, hn', hm⟩ := kw_rules HB.out hNW
      go_wp2_with (go_at_call 72; (with_reducible refine (column_as (px - r) ex _ (by omega) (by omega) EEX).mono ?_); rintro e w' ⟨rfl, rfl⟩)
      clear hc hf hl hn' hm
      obtain ⟨wo, rfl⟩ : ∃ wo : World, wo = wr := ⟨wr, rfl⟩
      go_loopw [14] (fun i wr => ∃ x : Int, i = .int .i64 x ∧ ex ≤ x ∧ x ≤ mr + 1 ∧ Hk (∀ t, t < n → ((t : Int) / W < y ∨ ((t : Int) / W = y ∧ (t : Int) % W < x)) → F t = true ∨ meetsS W t px py r = false) ∧ Hk (Below (w.heap.size + 1) (w.alloc (.cells #[.int .i64 px, .int .i64 py] 38)) wr)) (fun i _ => (mr + 1 - intOf i).toNat)
      case atStart =>
        refine ⟨ex, rfl, by omega, by have := EEX.out; have := ECX.out; omega, ⟨fun t ht hd => ?_⟩, HB⟩
        rcases hd with hd | ⟨hd, he⟩
        · exact HP.out t ht hd
        · cases q : meetsS W t px py r
          · exact Or.inr rfl
          · have := meets_cols q; have := EEX.out; omega
      case round =>
        clear HB
        obtain ⟨x, rfl, hx0, hx1, HP2, HB⟩ := hrel
        by_cases hlx : x ≤ mr
        · have b2' : decide (x ≤ mr) = true := by simpa using hlx
          have hlt := at_lt (n := n) w1 HNN.out (x := x) (y := y) (by omega) (by omega) (by omega) (by omega)
          obtain ⟨k, hk⟩ : ∃ k : Nat, x + W * y = k := ⟨(x + W * y).toNat, by omega⟩
          rw [hk] at hlt
          have mm := mul_bd w1 w2 h1 h2
          have m1 := Int.mul_le_mul_of_nonneg_left (show y ≤ H by omega) (show 0 ≤ W by omega)
          have m0 := Int.mul_nonneg (show 0 ≤ W by omega) (show 0 ≤ y by omega)
          have hkn : k < n := by omega
          have hk16 : (k : Int) ≤ 16384 := by have := HNN.out; omega
          obtain ⟨u, hu⟩ : ∃ u, W * y = u := ⟨_, rfl⟩
          have hkm := xy_at' hk.symm (by omega) (by omega)
          rw [hu] at hk m0 m1
          have m2 : u ≤ 16384 := by omega
          have hc1 := HA0.out.cell hkn
          have k0 : (0 : Int) ≤ (k : Int) := by omega
          have k1 : (k : Int) < (n : Int) := by omega
          have HKM := Hk.mk hkm
          have HUN : Hk (∀ t : Nat, t < n → (t : Int) / W = y → (t : Int) % W = x → t = k) := ⟨fun t ht e1 e2 => by
            have em := Int.emod_add_mul_ediv (t : Int) W
            rw [e1, e2, hu] at em; omega⟩
          clear hkm mm m1
          obtain ⟨hc, hf, hl, hn', hm⟩ := kw_rules HB.out hNW
          obtain ⟨v, hv⟩ : ∃ v, meetsS W k px py r = v := ⟨_, rfl⟩
          have HV := Hk.mk hv
          have HNX : F k = true ∨ v = false → ∀ t, t < n → ((t : Int) / W < y ∨ ((t : Int) / W = y ∧ (t : Int) % W < x + 1)) → F t = true ∨ meetsS W t px py r = false := fun hor t ht hd => by
            by_cases e : (t : Int) / W = y ∧ (t : Int) % W = x
            · rw [HUN.out t ht e.1 e.2, HV.out]; exact hor
            · exact HP2.out t ht (by omega)
          have HNX := Hk.mk HNX
          clear hv
          cases hF : F k
          · rw [hF] at hc1
            cases v
            · go_wp2_with (go_at_call 71; (with_reducible refine (tmeets_any W k px py r _ w1 w2 (by omega) hk16 HX.out HY.out HR.out).mono ?_); rintro e z ⟨rfl, hb⟩; replace HB := Hk.mk (kw_step HB.out hNW hb); clear hb hc hf hl hn' hm; obtain ⟨hc, hf, hl, hn', hm⟩ := kw_rules HB.out hNW; rw [HV.out])
              exact ⟨⟨x + 1, by go_num, by omega, by omega, ⟨HNX.out (Or.inr (by trivial))⟩, HB⟩, by simp [intOf]; omega⟩
            · go_wp2_with (go_at_call 71; (with_reducible refine (tmeets_any W k px py r _ w1 w2 (by omega) hk16 HX.out HY.out HR.out).mono ?_); rintro e z ⟨rfl, hb⟩; replace HB := Hk.mk (kw_step HB.out hNW hb); clear hb hc hf hl hn' hm; obtain ⟨hc, hf, hl, hn', hm⟩ := kw_rules HB.out hNW; rw [HV.out])
              go_ret
              exact ⟨by rw [frS_hit hkn hF HV.out]; rfl, HTR.out _ HB.out⟩
          · rw [hF] at hc1
            go_wp2_with fail
            exact ⟨⟨x + 1, by go_num, by omega, by omega, ⟨HNX.out (Or.inl hF)⟩, HB⟩, by simp [intOf]; omega⟩
        · go_wp2_with fail
          refine ⟨⟨y + 1, by go_num, by omega, by omega, ⟨fun t ht hd => ?_⟩, HB⟩, by simp [intOf]; omega⟩
          by_cases e : (t : Int) / W = y
          · by_cases e2 : (t : Int) % W < x
            · exact HP2.out t ht (Or.inr ⟨e, e2⟩)
            · cases q : meetsS W t px py r
              · exact Or.inr rfl
              · have := meets_cols q; have := ECX.out; have := Int.emod_lt_of_pos (t : Int) (show 0 < W by omega); omega
          · exact HP2.out t ht (Or.inl (by omega))
    · obtain ⟨hc, hf, hl, hn', hm⟩ := kw_rules HB.out hNW
      go_wp2_with fail
      go_ret
      refine ⟨?_, HTR.out _ HB.out⟩
      rw [frS_yes (by omega) (fun t ht => ?_)]
      · rfl
      · by_cases e : (t : Int) / W < y
        · exact HP.out t ht e
        · cases q : meetsS W t px py r
          · exact Or.inr rfl
          · have := meets_cols q
            have := ECY.out
            have := Int.ediv_lt_of_lt_mul (show 0 < W by omega) (show (t : Int) < H * W by rw [Int.mul_comm, ← HNN.out]; omega)
            omega
end Go.Proofs.YtjjodfdmbiebnaaDoor
/- Layer 17: disc.Free and the reference's Free. -/
namespace Go.Proofs.YtjjodfdmbiebnaaDoor
open Go.RowKit Go.Deep
set_option linter.unusedVariables false
set_option linter.unusedSimpArgs false
theorem fmD_bd {px py r : Int} (h : fmD px py r = true) : (-1099511627776 ≤ px ∧ px ≤ 1099511627776) ∧ (-1099511627776 ≤ py ∧ py ≤ 1099511627776) ∧ 0 ≤ r ∧ r ≤ 262144 := by
  unfold fmD at h; simp at h; omega
set_option maxRecDepth 100000 in
theorem dfree_no (W H : Int) (a : Option Addr) (n c : Nat) (xs : List Int) (la : Option Addr) (ln lc : Nat) (bs : List Bd) (x px py r : Int) (w : World) (h : By w w.heap.size a n xs) (hb0 : Bq w w.heap.size la ln bs) (hn : n ≤ 140737488355328) (hln : ln ≤ 1099511627776) (MM : Hk (¬ (MOk W H n xs bs ∧ 0 ≤ x ∧ x ≤ 2))) :
    Calls Tryd.prog 42 #[.agg #[.int .i64 W, .int .i64 H, .slice a n c], .slice la ln lc, .int .i64 x, .agg #[.int .i64 px, .int .i64 py], .int .i64 r] w fun e w' => e = .returned (.tuple #[.bool false, .int .i64 1]) ∧ Below w.heap.size w w' := by
  have HWB : Hk (Below w.heap.size w ((w.alloc (.cells #[.int .i64 W, .int .i64 H, .slice a n c] 24)).alloc (.cells #[.int .i64 px, .int .i64 py] 38))) := ⟨((Below.refl _ _).alloc (Nat.le_refl _) _).alloc (by simp) _⟩
  have hNW : w.heap.size + 2 ≤ ((w.alloc (.cells #[.int .i64 W, .int .i64 H, .slice a n c] 24)).alloc (.cells #[.int .i64 px, .int .i64 py] 38)).heap.size := by simp
  have HB : Hk (Below (w.heap.size + 2) ((w.alloc (.cells #[.int .i64 W, .int .i64 H, .slice a n c] 24)).alloc (.cells #[.int .i64 px, .int .i64 py] 38)) ((w.alloc (.cells #[.int .i64 W, .int .i64 H, .slice a n c] 24)).alloc (.cells #[.int .i64 px, .int .i64 py] 38))) := ⟨Below.refl _ _⟩
  have HTR : Hk (∀ X, Below (w.heap.size + 2) ((w.alloc (.cells #[.int .i64 W, .int .i64 H, .slice a n c] 24)).alloc (.cells #[.int .i64 px, .int .i64 py] 38)) X → Below w.heap.size w X) := ⟨fun X hX => HWB.out.trans (hX.mono (by omega))⟩
  have HBY := Hk.mk (fun (X : World) (hX : Below (w.heap.size + 2) ((w.alloc (.cells #[.int .i64 W, .int .i64 H, .slice a n c] 24)).alloc (.cells #[.int .i64 px, .int .i64 py] 38)) X) => h.below (HTR.out X hX) (Nat.le_refl _))
  have HBQ := Hk.mk (fun (X : World) (hX : Below (w.heap.size + 2) ((w.alloc (.cells #[.int .i64 W, .int .i64 H, .slice a n c] 24)).alloc (.cells #[.int .i64 px, .int .i64 py] 38)) X) => hb0.below (HTR.out X hX) (Nat.le_refl _))
  obtain ⟨hc, hf, hl, hn', hm⟩ := kw_rules HB.out hNW
  clear h hb0
  go_enter Tryd.func42, Tryd.ntmps42
  go_wp2_with (go_at_call 26; (with_reducible refine (open_no W H a n c xs la ln lc bs _ ?_ ?_ (by omega) (by omega) x MM).mono ?_); (exact (HBY.out _ HB.out).mono (Nat.le_trans (by omega) (kw_size HB.out hNW))); (exact (HBQ.out _ HB.out).mono (Nat.le_trans (by omega) (kw_size HB.out hNW))); rintro e z ⟨rfl, hb⟩; replace HB := Hk.mk (kw_step HB.out hNW hb); clear hb; clear hc hf hl hn' hm; obtain ⟨hc, hf, hl, hn', hm⟩ := kw_rules HB.out hNW)
  go_ret2
  exact ⟨rfl, HTR.out _ HB.out⟩
set_option maxRecDepth 100000 in
theorem dfree_bad (W H : Int) (a : Option Addr) (n c : Nat) (xs : List Int) (la : Option Addr) (ln lc : Nat) (bs : List Bd) (cl : Nat) (px py r : Int) (w : World) (h : By w w.heap.size a n xs) (hb0 : Bq w w.heap.size la ln bs) (hn : n ≤ 140737488355328) (hln : ln ≤ 1099511627776) (hL : LC w) (hc3 : cl < 3) (MM : Hk (MOk W H n xs bs)) (HF : Hk (fmD px py r = false)) :
    Calls Tryd.prog 42 #[.agg #[.int .i64 W, .int .i64 H, .slice a n c], .slice la ln lc, .int .i64 cl, .agg #[.int .i64 px, .int .i64 py], .int .i64 r] w fun e w' => e = .returned (.tuple #[.bool false, .int .i64 1]) ∧ Below w.heap.size w w' := by
  have HWB : Hk (Below w.heap.size w ((w.alloc (.cells #[.int .i64 W, .int .i64 H, .slice a n c] 24)).alloc (.cells #[.int .i64 px, .int .i64 py] 38))) := ⟨((Below.refl _ _).alloc (Nat.le_refl _) _).alloc (by simp) _⟩
  have hNW : w.heap.size + 2 ≤ ((w.alloc (.cells #[.int .i64 W, .int .i64 H, .slice a n c] 24)).alloc (.cells #[.int .i64 px, .int .i64 py] 38)).heap.size := by simp
  have HB : Hk (Below (w.heap.size + 2) ((w.alloc (.cells #[.int .i64 W, .int .i64 H, .slice a n c] 24)).alloc (.cells #[.int .i64 px, .int .i64 py] 38)) ((w.alloc (.cells #[.int .i64 W, .int .i64 H, .slice a n c] 24)).alloc (.cells #[.int .i64 px, .int .i64 py] 38))) := ⟨Below.refl _ _⟩
  have HTR : Hk (∀ X, Below (w.heap.size + 2) ((w.alloc (.cells #[.int .i64 W, .int .i64 H, .slice a n c] 24)).alloc (.cells #[.int .i64 px, .int .i64 py] 38)) X → Below w.heap.size w X) := ⟨fun X hX => HWB.out.trans (hX.mono (by omega))⟩
  have HBY := Hk.mk (fun (X : World) (hX : Below (w.heap.size + 2) ((w.alloc (.cells #[.int .i64 W, .int .i64 H, .slice a n c] 24)).alloc (.cells #[.int .i64 px, .int .i64 py] 38)) X) => h.below (HTR.out X hX) (Nat.le_refl _))
  have HBQ := Hk.mk (fun (X : World) (hX : Below (w.heap.size + 2) ((w.alloc (.cells #[.int .i64 W, .int .i64 H, .slice a n c] 24)).alloc (.cells #[.int .i64 px, .int .i64 py] 38)) X) => hb0.below (HTR.out X hX) (Nat.le_refl _))
  obtain ⟨hc, hf, hl, hn', hm⟩ := kw_rules HB.out hNW
  have HLC := Hk.mk (fun (X : World) (hX : Below (w.heap.size + 2) ((w.alloc (.cells #[.int .i64 W, .int .i64 H, .slice a n c] 24)).alloc (.cells #[.int .i64 px, .int .i64 py] 38)) X) => hL.below (HTR.out X hX) (Nat.le_refl _))
  clear h hb0 hL
  go_enter Tryd.func42, Tryd.ntmps42
  go_wp2_with (first
    | (go_at_call 26; (with_reducible refine (open_yes W H a n c xs la ln lc bs _ ?_ ?_ (by omega) (by omega) cl (HLC.out _ HB.out) hc3 MM).mono ?_); (exact (HBY.out _ HB.out).mono (Nat.le_trans (by omega) (kw_size HB.out hNW))); (exact (HBQ.out _ HB.out).mono (Nat.le_trans (by omega) (kw_size HB.out hNW))); rintro e z ⟨I, rfl, hg, hA, hb⟩; have HA := Hk.mk hA; clear hA hg; replace HB := Hk.mk (kw_step HB.out hNW hb); clear hb; clear hc hf hl hn' hm; obtain ⟨hc, hf, hl, hn', hm⟩ := kw_rules HB.out hNW)
    | (go_at_call 68; (with_reducible refine (dformed_as false px py r _ HF).mono ?_); rintro e z ⟨rfl, hb⟩; replace HB := Hk.mk (kw_step HB.out hNW hb); clear hb; clear hc hf hl hn' hm; obtain ⟨hc, hf, hl, hn', hm⟩ := kw_rules HB.out hNW))
  go_ret2
  exact ⟨rfl, HTR.out _ HB.out⟩
set_option maxRecDepth 100000 in
theorem dfree_yes (W H : Int) (a : Option Addr) (n c : Nat) (xs : List Int) (la : Option Addr) (ln lc : Nat) (bs : List Bd) (cl : Nat) (px py r : Int) (w : World) (h : By w w.heap.size a n xs) (hb0 : Bq w w.heap.size la ln bs) (hn : n ≤ 140737488355328) (hln : ln ≤ 1099511627776) (hL : LC w) (hc3 : cl < 3) (MM : Hk (MOk W H n xs bs)) (HF : Hk (fmD px py r = true)) :
    Calls Tryd.prog 42 #[.agg #[.int .i64 W, .int .i64 H, .slice a n c], .slice la ln lc, .int .i64 cl, .agg #[.int .i64 px, .int .i64 py], .int .i64 r] w fun e w' => e = .returned (.tuple #[.bool (frS W H (opn W xs bs cl) n px py r), .int .i64 0]) ∧ Below w.heap.size w w' := by
  have HWB : Hk (Below w.heap.size w ((w.alloc (.cells #[.int .i64 W, .int .i64 H, .slice a n c] 24)).alloc (.cells #[.int .i64 px, .int .i64 py] 38))) := ⟨((Below.refl _ _).alloc (Nat.le_refl _) _).alloc (by simp) _⟩
  have hNW : w.heap.size + 2 ≤ ((w.alloc (.cells #[.int .i64 W, .int .i64 H, .slice a n c] 24)).alloc (.cells #[.int .i64 px, .int .i64 py] 38)).heap.size := by simp
  have HB : Hk (Below (w.heap.size + 2) ((w.alloc (.cells #[.int .i64 W, .int .i64 H, .slice a n c] 24)).alloc (.cells #[.int .i64 px, .int .i64 py] 38)) ((w.alloc (.cells #[.int .i64 W, .int .i64 H, .slice a n c] 24)).alloc (.cells #[.int .i64 px, .int .i64 py] 38))) := ⟨Below.refl _ _⟩
  have HTR : Hk (∀ X, Below (w.heap.size + 2) ((w.alloc (.cells #[.int .i64 W, .int .i64 H, .slice a n c] 24)).alloc (.cells #[.int .i64 px, .int .i64 py] 38)) X → Below w.heap.size w X) := ⟨fun X hX => HWB.out.trans (hX.mono (by omega))⟩
  have HBY := Hk.mk (fun (X : World) (hX : Below (w.heap.size + 2) ((w.alloc (.cells #[.int .i64 W, .int .i64 H, .slice a n c] 24)).alloc (.cells #[.int .i64 px, .int .i64 py] 38)) X) => h.below (HTR.out X hX) (Nat.le_refl _))
  have HBQ := Hk.mk (fun (X : World) (hX : Below (w.heap.size + 2) ((w.alloc (.cells #[.int .i64 W, .int .i64 H, .slice a n c] 24)).alloc (.cells #[.int .i64 px, .int .i64 py] 38)) X) => hb0.below (HTR.out X hX) (Nat.le_refl _))
  obtain ⟨hc, hf, hl, hn', hm⟩ := kw_rules HB.out hNW
  have HLC := Hk.mk (fun (X : World) (hX : Below (w.heap.size + 2) ((w.alloc (.cells #[.int .i64 W, .int .i64 H, .slice a n c] 24)).alloc (.cells #[.int .i64 px, .int .i64 py] 38)) X) => hL.below (HTR.out X hX) (Nat.le_refl _))
  obtain ⟨hpx, hpy, hr⟩ := fmD_bd HF.out
  have HPX := Hk.mk hpx; have HPY := Hk.mk hpy; have HR := Hk.mk hr
  clear h hb0 hL hpx hpy hr
  go_enter Tryd.func42, Tryd.ntmps42
  go_wp2_with (first
    | (go_at_call 26; (with_reducible refine (open_yes W H a n c xs la ln lc bs _ ?_ ?_ (by omega) (by omega) cl (HLC.out _ HB.out) hc3 MM).mono ?_); (exact (HBY.out _ HB.out).mono (Nat.le_trans (by omega) (kw_size HB.out hNW))); (exact (HBQ.out _ HB.out).mono (Nat.le_trans (by omega) (kw_size HB.out hNW))); rintro e z ⟨I, rfl, hg, hA, hb⟩; have HA := Hk.mk hA; clear hA hg; replace HB := Hk.mk (kw_step HB.out hNW hb); clear hb; clear hc hf hl hn' hm; obtain ⟨hc, hf, hl, hn', hm⟩ := kw_rules HB.out hNW)
    | (go_at_call 68; (with_reducible refine (dformed_as true px py r _ HF).mono ?_); rintro e z ⟨rfl, hb⟩; replace HA := Hk.mk (HA.out.later hb); replace HB := Hk.mk (kw_step HB.out hNW hb); clear hb; clear hc hf hl hn' hm; obtain ⟨hc, hf, hl, hn', hm⟩ := kw_rules HB.out hNW)
    | (go_at_call 69; (with_reducible refine (tfree_any W H I n (opn W xs bs cl) px py r _ MM.out.g.w1 MM.out.g.w2 MM.out.g.h1 MM.out.g.h2 MM.out.g.nn HA.out HPX.out HPY.out HR.out).mono ?_); rintro e z ⟨rfl, hb⟩; replace HB := Hk.mk (kw_step HB.out hNW hb); clear hb; clear hc hf hl hn' hm; obtain ⟨hc, hf, hl, hn', hm⟩ := kw_rules HB.out hNW))
  go_ret2
  exact ⟨rfl, HTR.out _ HB.out⟩
set_option maxRecDepth 100000 in
set_option maxHeartbeats 800000 in
theorem rfree_any (W H : Int) (a : Option Addr) (n c : Nat) (xs : List Int) (la : Option Addr) (ln lc : Nat) (bs : List Bd) (cl : Nat) (px py r : Int) (w : World) (h : By w w.heap.size a n xs) (hb0 : Bq w w.heap.size la ln bs) (hn : n ≤ 140737488355328) (hln : ln ≤ 1099511627776) (hc3 : cl < 3) (MM : Hk (MOk W H n xs bs)) (HF : Hk (fmD px py r = true)) :
    Calls Tryd.prog 41 #[.agg #[.int .i64 W, .int .i64 H, .slice a n c], .slice la ln lc, .int .i64 cl, .agg #[.int .i64 px, .int .i64 py], .int .i64 r] w fun e w' => e = .returned (.bool (frS W H (opn W xs bs cl) n px py r)) ∧ Below w.heap.size w w' := by
  have HWB : Hk (Below w.heap.size w ((w.alloc (.cells #[.int .i64 W, .int .i64 H, .slice a n c] 24)).alloc (.cells #[.int .i64 px, .int .i64 py] 38))) := ⟨((Below.refl _ _).alloc (Nat.le_refl _) _).alloc (by simp) _⟩
  have hNW : w.heap.size + 2 ≤ ((w.alloc (.cells #[.int .i64 W, .int .i64 H, .slice a n c] 24)).alloc (.cells #[.int .i64 px, .int .i64 py] 38)).heap.size := by simp
  have HB : Hk (Below (w.heap.size + 2) ((w.alloc (.cells #[.int .i64 W, .int .i64 H, .slice a n c] 24)).alloc (.cells #[.int .i64 px, .int .i64 py] 38)) ((w.alloc (.cells #[.int .i64 W, .int .i64 H, .slice a n c] 24)).alloc (.cells #[.int .i64 px, .int .i64 py] 38))) := ⟨Below.refl _ _⟩
  have HTR : Hk (∀ X, Below (w.heap.size + 2) ((w.alloc (.cells #[.int .i64 W, .int .i64 H, .slice a n c] 24)).alloc (.cells #[.int .i64 px, .int .i64 py] 38)) X → Below w.heap.size w X) := ⟨fun X hX => HWB.out.trans (hX.mono (by omega))⟩
  have HBY := Hk.mk (fun (X : World) (hX : Below (w.heap.size + 2) ((w.alloc (.cells #[.int .i64 W, .int .i64 H, .slice a n c] 24)).alloc (.cells #[.int .i64 px, .int .i64 py] 38)) X) => h.below (HTR.out X hX) (Nat.le_refl _))
  have HBQ := Hk.mk (fun (X : World) (hX : Below (w.heap.size + 2) ((w.alloc (.cells #[.int .i64 W, .int .i64 H, .slice a n c] 24)).alloc (.cells #[.int .i64 px, .int .i64 py] 38)) X) => hb0.below (HTR.out X hX) (Nat.le_refl _))
  obtain ⟨hc, hf, hl, hn', hm⟩ := kw_rules HB.out hNW
  obtain ⟨hpx, hpy, hr⟩ := fmD_bd HF.out
  have HPX := Hk.mk hpx; have HPY := Hk.mk hpy; have HR := Hk.mk hr
  have w1 := MM.out.g.w1; have w2 := MM.out.g.w2; have h1 := MM.out.g.h1; have h2 := MM.out.g.h2
  have HNN := Hk.mk MM.out.g.nn
  clear h hb0
  by_cases c1 : px < r
  · have d1 : decide (px < r) = true := by simpa using c1
    go_enter Tryd.func41, Tryd.ntmps41
    go_wp2_with fail
    go_ret
    exact ⟨by rw [frS_out (by omega)]; rfl, HTR.out _ HB.out⟩
  have d1 : decide (px < r) = false := by simpa using c1
  by_cases c2 : py < r
  · have d2 : decide (py < r) = true := by simpa using c2
    go_enter Tryd.func41, Tryd.ntmps41
    go_wp2_with fail
    go_ret
    exact ⟨by rw [frS_out (by omega)]; rfl, HTR.out _ HB.out⟩
  have d2 : decide (py < r) = false := by simpa using c2
  by_cases c3 : W * 65536 - r < px
  · have d3 : decide (W * 65536 - r < px) = true := by simpa using c3
    go_enter Tryd.func41, Tryd.ntmps41
    go_wp2_with fail
    go_ret
    exact ⟨by rw [frS_out (by omega)]; rfl, HTR.out _ HB.out⟩
  have d3 : decide (W * 65536 - r < px) = false := by simpa using c3
  by_cases c4 : H * 65536 - r < py
  · have d4 : decide (H * 65536 - r < py) = true := by simpa using c4
    go_enter Tryd.func41, Tryd.ntmps41
    go_wp2_with fail
    go_ret
    exact ⟨by rw [frS_out (by omega)]; rfl, HTR.out _ HB.out⟩
  have d4 : decide (H * 65536 - r < py) = false := by simpa using c4
  go_enter Tryd.func41, Tryd.ntmps41
  go_wp2_with (go_at_call 25; (with_reducible refine (ropen_any W H a n c xs la ln lc bs _ ?_ ?_ cl hc3 MM).mono ?_); (exact (HBY.out _ HB.out).mono (Nat.le_trans (by omega) (kw_size HB.out hNW))); (exact (HBQ.out _ HB.out).mono (Nat.le_trans (by omega) (kw_size HB.out hNW))); rintro e z ⟨I, rfl, hg, hA, hb⟩; have HA := Hk.mk hA; clear hA hg; replace HB := Hk.mk (kw_step HB.out hNW hb); clear hb; clear hc hf hl hn' hm; obtain ⟨hc, hf, hl, hn', hm⟩ := kw_rules HB.out hNW)
  clear hc hf hl hn' hm
  have HA := HA
  have hIz : I < z.heap.size := HA.out.lt
  have HZ := Hk.mk (fun (X : World) (hX : Below z.heap.size z X) => HB.out.trans (hX.mono (kw_size HB.out hNW)))
  have HBZ : Hk (Below z.heap.size z z) := ⟨Below.refl _ _⟩
  have hwz : w.heap.size + 2 ≤ z.heap.size := kw_size HB.out hNW
  have D0 : z.cell? ⟨w.heap.size, 0, none⟩ = some (.int .i64 W) := by rw [HB.out.cell (p := ⟨w.heap.size, 0, none⟩) (by show w.heap.size < _; omega)]; go_simp
  have D1 : z.cell? ⟨w.heap.size, 1, none⟩ = some (.int .i64 H) := by rw [HB.out.cell (p := ⟨w.heap.size, 1, none⟩) (by show w.heap.size < _; omega)]; go_simp
  have D2 : z.cell? ⟨w.heap.size, 2, none⟩ = some (.slice a n c) := by rw [HB.out.cell (p := ⟨w.heap.size, 2, none⟩) (by show w.heap.size < _; omega)]; go_simp
  have D3 : z.cell? ⟨w.heap.size + 1, 0, none⟩ = some (.int .i64 px) := by rw [HB.out.cell (p := ⟨w.heap.size + 1, 0, none⟩) (by show w.heap.size + 1 < _; omega)]; go_simp
  have D4 : z.cell? ⟨w.heap.size + 1, 1, none⟩ = some (.int .i64 py) := by rw [HB.out.cell (p := ⟨w.heap.size + 1, 1, none⟩) (by show w.heap.size + 1 < _; omega)]; go_simp
  obtain ⟨zz, rfl⟩ : ∃ zz : World, zz = z := ⟨z, rfl⟩
  clear HB
  go_loopw [12] (fun i wr => ∃ t : Nat, i = .int .i64 t ∧ t ≤ n ∧ Hk (∀ j, j < t → (opn W xs bs cl) j = true ∨ meetsS W j px py r = false) ∧ Hk (Below zz.heap.size zz wr)) (fun i _ => n - (intOf i).toNat)
  case atStart => exact ⟨0, rfl, by omega, ⟨fun j hj => absurd hj (by omega)⟩, HBZ⟩
  case round =>
    clear HBZ
    obtain ⟨t, rfl, ht, HP, HB⟩ := hrel
    obtain ⟨hc, hf, hl, hn', hm⟩ := kw_rules HB.out (Nat.le_refl _)
    by_cases hlt : t < n
    · have t0 : (0 : Int) ≤ (t : Int) := by omega
      have t1 : (t : Int) < (n : Int) := by omega
      have c1 := HA.out.cell hlt
      have hw1 : w.heap.size + 1 < zz.heap.size := by omega
      have hw0 : w.heap.size < zz.heap.size := by omega
      have ht16 : (t : Int) ≤ 16384 := by have := mul_bd w1 w2 h1 h2; have := HNN.out; omega
      obtain ⟨v, hv⟩ : ∃ v, meetsS W t px py r = v := ⟨_, rfl⟩
      have HV := Hk.mk hv
      have HNX : Hk ((opn W xs bs cl) t = true ∨ v = false → ∀ j, j < t + 1 → (opn W xs bs cl) j = true ∨ meetsS W j px py r = false) := ⟨fun hor j hj => by
        by_cases e : j = t
        · rw [e, HV.out]; exact hor
        · exact HP.out j (by omega)⟩
      clear hv
      cases hF : (opn W xs bs cl) t
      · rw [hF] at c1
        have HF2 := Hk.mk hF
        clear hF
        cases v
        · go_wp2_with (go_at_call 67; (with_reducible refine (rmeets_any W H t px py r (.slice a n c) _ w1 w2 (by omega) ht16 HPX.out HPY.out HR.out).mono ?_); rintro e z9 ⟨rfl, hb⟩; replace HB := Hk.mk (kw_step HB.out (Nat.le_refl _) hb); clear hb; clear hc hf hl hn' hm; rw [HV.out])
          exact ⟨⟨t + 1, by go_num, by omega, ⟨HNX.out (Or.inr (by trivial))⟩, HB⟩, by simp [intOf]; omega⟩
        · go_wp2_with (go_at_call 67; (with_reducible refine (rmeets_any W H t px py r (.slice a n c) _ w1 w2 (by omega) ht16 HPX.out HPY.out HR.out).mono ?_); rintro e z9 ⟨rfl, hb⟩; replace HB := Hk.mk (kw_step HB.out (Nat.le_refl _) hb); clear hb; clear hc hf hl hn' hm; rw [HV.out])
          go_ret
          exact ⟨by rw [frS_hit hlt HF2.out HV.out]; rfl, HTR.out _ (HZ.out _ HB.out)⟩
      · rw [hF] at c1
        have HF2 := Hk.mk hF
        clear hF
        go_wp2_with fail
        exact ⟨⟨t + 1, by go_num, by omega, ⟨HNX.out (Or.inl HF2.out)⟩, HB⟩, by simp [intOf]; omega⟩
    · have htn : t = n := by omega
      subst htn
      go_wp2_with fail
      go_ret
      exact ⟨by rw [frS_yes (by omega) HP.out]; rfl, HTR.out _ (HZ.out _ HB.out)⟩
end Go.Proofs.YtjjodfdmbiebnaaDoor
/- Slices of ways: what it means that one reads as two rows of numbers. -/
namespace Go.Proofs.YtjjodfdmbiebnaaDoor
open Go.ChangeShapes Go.WideShapes Go.ChangeAt Go.RowKit Go.Deep
set_option linter.unusedVariables false
/-- The slice's n elements are the ways (f k, g k). -/
structure Vs (w : World) (B : Nat) (a : Option Addr) (n : Nat) (f g : Nat → Int) : Prop where
  num : ∀ k, k < n → Fx.I64 (f k) ∧ Fx.I64 (g k)
  rd : 0 < n → ∃ b off, a = some ⟨b, off, none⟩ ∧ b < B ∧ ∀ k, k < n → w.cell? ⟨b, off + k * 2, none⟩ = some (.int .i64 (f k)) ∧ w.cell? ⟨b, off + k * 2 + 1, none⟩ = some (.int .i64 (g k))
theorem Vs.nil (w : World) (B : Nat) (a : Option Addr) (f g : Nat → Int) : Vs w B a 0 f g := ⟨fun k h => absurd h (by omega), fun h => absurd h (by omega)⟩
theorem Vs.below {w w' : World} {B B' n : Nat} {a : Option Addr} {f g : Nat → Int} (h : Vs w B a n f g) (hb : Below B' w w') (hB : B ≤ B') : Vs w' B a n f g := ⟨h.num, fun hn => by
  obtain ⟨b, off, e, hlt, hc⟩ := h.rd hn
  exact ⟨b, off, e, hlt, fun k hk => ⟨(hb.cell (p := ⟨b, off + k * 2, none⟩) (Nat.lt_of_lt_of_le hlt hB)).trans (hc k hk).1, (hb.cell (p := ⟨b, off + k * 2 + 1, none⟩) (Nat.lt_of_lt_of_le hlt hB)).trans (hc k hk).2⟩⟩⟩
theorem Vs.mono {w : World} {B B' n : Nat} {a : Option Addr} {f g : Nat → Int} (h : Vs w B a n f g) (hB : B ≤ B') : Vs w B' a n f g := ⟨h.num, fun hn => by
  obtain ⟨b, off, e, hlt, hc⟩ := h.rd hn
  exact ⟨b, off, e, by omega, hc⟩⟩
set_option maxRecDepth 100000 in
theorem vs_of {H : Type} {enc : TypeId × Value → H} {w : World} {base : Nat} {spare : Nat → Bool} {held : Bool} {fuel : Nat} {x : DataW H × List MemPlace} {v : Value}
    (hf : DataW.trod enc Tryd.prog w base spare held fuel 26 [v] = some x) : ∃ a n c f g, v = .slice a n c ∧ n ≤ c ∧ c ≤ 9223372036854775807 ∧ Vs w w.heap.size a n f g := by
  rcases open_slice Tryd.underlying26 hf with ⟨hcs, _⟩ | ⟨a', l, c, m, n, D, Pl, hcs, _, hl, hm, hmm, _, hi⟩
  · simp at hcs
    exact ⟨none, 0, 0, fun _ => 0, fun _ => 0, hcs, by omega, by omega, Vs.nil _ _ _ _ _⟩
  · simp at hcs
    have hC : Tryd.prog.cellsOf 38 = 2 := by kernel_rfl
    have hall : ∀ k, ∃ p : Int × Int, k < l → Fx.I64 p.1 ∧ Fx.I64 p.2 ∧ ∃ b off, a' = ⟨b, off, none⟩ ∧ b < w.heap.size ∧ w.cell? ⟨b, off + k * 2, none⟩ = some (.int .i64 p.1) ∧ w.cell? ⟨b, off + k * 2 + 1, none⟩ = some (.int .i64 p.2) := by
      intro k
      by_cases hk : k < l
      · obtain ⟨cs', hc, ht⟩ := hi k (by rw [hmm]; split <;> omega)
        rw [hC] at hc
        obtain ⟨_, hcl, hat⟩ := World.cells?_some hc
        match cs', hcl with
        | [c0, c1], _ =>
          obtain ⟨x0, x1, rfl, rfl, w0, w1⟩ := vec_of ht
          have k0 := hat 0 (by omega)
          have k1 := hat 1 (by omega)
          obtain ⟨b, off, spot⟩ := a'
          have hs : spot = none := by
            obtain ⟨cs2, hc2, _⟩ := hi 0 (by rw [hmm]; split <;> omega)
            rw [hC] at hc2
            obtain ⟨_, hcl2, hat2⟩ := World.cells?_some hc2
            have h0 := hat2 0 (by omega)
            rw [List.getElem?_eq_getElem (by omega)] at h0
            simpa [Addr.add] using World.cell?_spot h0
          subst hs
          simp only [addr_plus, Nat.add_zero] at k0 k1
          exact ⟨(x0, x1), fun _ => ⟨w0, w1, b, off, rfl, World.block_lt_of_cell? _ _ k0, k0, k1⟩⟩
      · exact ⟨(0, 0), fun h => absurd h hk⟩
    obtain ⟨p, hp⟩ := Classical.skolem.1 hall
    refine ⟨_, l, c, fun k => (p k).1, fun k => (p k).2, hcs, hl, by unfold maxLen at hm; omega, fun k hk => ⟨(hp k hk).1, (hp k hk).2.1⟩, fun hn => ?_⟩
    obtain ⟨_, _, b, off, rfl, hb, _⟩ := hp 0 hn
    refine ⟨b, off, rfl, hb, fun k hk => ?_⟩
    obtain ⟨_, _, b', off', e, _, h1, h2⟩ := hp k hk
    simp only [Addr.mk.injEq] at e
    obtain ⟨rfl, rfl, _⟩ := e
    exact ⟨h1, h2⟩
end Go.Proofs.YtjjodfdmbiebnaaDoor
/- Arguments that hold slices of numbers, of ways, grounds: what is known of them. -/
namespace Go.Proofs.YtjjodfdmbiebnaaDoor
open Go.ChangeShapes Go.WideShapes Go.ChangeAt Go.RowKit Go.Deep
set_option linter.unusedVariables false
theorem vground_of {H : Type} {enc : TypeId × Value → H} {w : World} {base : Nat} {spare : Nat → Bool} {held : Bool} {fuel : Nat} {x : DataW H × List MemPlace} {c0 c1 c2 : Value}
    (hf : DataW.trod enc Tryd.prog w base spare held fuel 24 [c0, c1, c2] = some x) : ∃ (W H : Int) (a : Option Addr) (n c : Nat) (xs : List Int), c0 = .int .i64 W ∧ c1 = .int .i64 H ∧ c2 = .slice a n c ∧ n ≤ 9223372036854775807 ∧ By w w.heap.size a n xs := by
  have h2 : Tryd.prog.cellsOf 3 = 1 := by kernel_rfl
  have h3 : Tryd.prog.cellsOf 22 = 1 := by kernel_rfl
  obtain ⟨ys, n', _, _, _, hyl, hg⟩ := DataW.trod_struct Tryd.underlying24 hf
  match ys, hyl with
  | [y0, y1, y2], _ =>
    have g0 := hg 0 _ rfl
    have g1 := hg 1 _ rfl
    have g2 := hg 2 _ rfl
    simp [h2, h3] at g0 g1 g2
    obtain ⟨x0, e0, _, w0⟩ := DataW.trod_int Tryd.underlying3 g0
    obtain ⟨x1, e1, _, w1⟩ := DataW.trod_int Tryd.underlying3 g1
    obtain ⟨a, n, c, xs, rfl, hn, hc, hby⟩ := by_of g2
    simp at e0 e1
    exact ⟨x0, x1, a, n, c, xs, e0, e1, rfl, by omega, hby⟩
end Go.Proofs.YtjjodfdmbiebnaaDoor
