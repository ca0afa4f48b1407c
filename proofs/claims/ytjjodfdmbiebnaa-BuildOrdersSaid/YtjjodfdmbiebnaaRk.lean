import Derived.Deep.QuietTactic
import Derived.BigQuiet
import Derived.Deep.RegionWith
import Derived.Deep.RegionHeld3
import Derived.Deep.DeepCutAuto
import Derived.Deep.DeepFit
import Derived.Outline
import Derived.Test.YtjjodfdmbiebnaaRj
import Derived.BigGuardPart
import Derived.Test.YtjjodfdmbiebnaaRg
import Derived.Test.YtjjodfdmbiebnaaRh
import Derived.Test.YtjjodfdmbiebnaaRa
import Derived.Test.YtjjodfdmbiebnaaRe
/- Layer 9: the reference's Grid. -/
namespace Go.Proofs.Ytjjodfdmbiebnaa
open Go.RowKit
set_option linter.unusedVariables false
set_option linter.unusedSimpArgs false
theorem fr2_rules {P Q : Nat} {Z X : World} (h : Fr (fun j => j = P ∨ j = Q) Z X) :
    (∀ b o, b < Z.heap.size → ¬ b = P → ¬ b = Q → X.cell? ⟨b, o, none⟩ = Z.cell? ⟨b, o, none⟩) ∧ (∀ b, b < Z.heap.size → b < X.heap.size) ∧ (∀ b, b < Z.heap.size → ¬ b = X.heap.size) ∧ (∀ b, b < Z.heap.size → ¬ X.heap.size = b) := by
  have hs := h.size
  exact ⟨fun b o hb h1 h2 => h.cell hb (fun e => by rcases e with e | e; exact h1 e; exact h2 e), fun b hb => by omega, fun b hb => by omega, fun b hb => by omega⟩
end Go.Proofs.Ytjjodfdmbiebnaa
/- Layer 9: what the statements call, and their argument. -/
namespace Go.Proofs.Ytjjodfdmbiebnaa
open Go.ChangeShapes Go.WideShapes Go.ChangeAt Go.RowKit Go.Deep
set_option linter.unusedVariables false
set_option linter.unusedSimpArgs false
/-- Is it more than is played? -/
def gtP (n ln : Nat) : Bool := decide (700 < n ∨ 30 < ln)
theorem great_any (W H : Int) (a : Option Addr) (n c : Nat) (la : Option Addr) (ln lc : Nat) (w : World) (hn : n ≤ 9223372036854775807) (hln : ln ≤ 9223372036854775807) :
    Calls Try.prog 54 #[.agg #[.int .i64 W, .int .i64 H, .slice a n c], .slice la ln lc] w fun e w' => e = .returned (.bool (gtP n ln)) ∧ Below w.heap.size w w' := by
  by_cases q1 : 700 < n
  · have R : Hk (gtP n ln = true) := ⟨by unfold gtP; simp; omega⟩
    have b1 : decide ((700 : Int) < n) = true := by simp; omega
    go_enter Try.func54, Try.ntmps54
    go_wp2
    go_ret
    exact ⟨rbo R.out.symm, (Below.refl _ _).alloc (Nat.le_refl _) _⟩
  have b1 : decide ((700 : Int) < n) = false := by simp; omega
  by_cases q2 : 30 < ln
  · have R : Hk (gtP n ln = true) := ⟨by unfold gtP; simp; omega⟩
    have b2 : decide ((30 : Int) < ln) = true := by simp; omega
    go_enter Try.func54, Try.ntmps54
    go_wp2
    go_ret
    exact ⟨rbo R.out.symm, (Below.refl _ _).alloc (Nat.le_refl _) _⟩
  · have R : Hk (gtP n ln = false) := ⟨by unfold gtP; simp; omega⟩
    have b2 : decide ((30 : Int) < ln) = false := by simp; omega
    go_enter Try.func54, Try.ntmps54
    go_wp2
    go_ret
    exact ⟨rbo R.out.symm, (Below.refl _ _).alloc (Nat.le_refl _) _⟩
theorem great_as (r : Bool) (W H : Int) (a : Option Addr) (n c : Nat) (la : Option Addr) (ln lc : Nat) (w : World) (hn : n ≤ 9223372036854775807) (hln : ln ≤ 9223372036854775807) (R : Hk (gtP n ln = r)) :
    Calls Try.prog 54 #[.agg #[.int .i64 W, .int .i64 H, .slice a n c], .slice la ln lc] w fun e w' => e = .returned (.bool r) ∧ Below w.heap.size w w' := by
  obtain ⟨rfl⟩ := R; exact great_any W H a n c la ln lc w hn hln
theorem byt_zeros9 : ∀ b ∈ ([0, 0, 0, 0, 0, 0, 0, 0, 0] : List Int), Fn.Byt b := by
  intro b hb
  simp at hb
  subst hb
  unfold Fn.Byt; omega
theorem sC_330 : (List.range 9).map (fun k => ((sC 3 3 (opn 3 [0, 0, 0, 0, 0, 0, 0, 0, 0] [] 0) k : Nat) : Int)) = [1, 1, 1, 1, 2, 1, 1, 1, 1] := by decide
theorem arr_w {w w' : World} {g n : Nat} {T : TypeId} {f : Nat → Value} (h : Arr w g n T f) (hb : Below w.heap.size w w') : Arr w' g n T f := h.later hb
/-- The argument: a ground, buildings, a class. -/
def Asks9 (w : World) (v : Value) : Prop := ∃ (W H : Int) (a : Option Addr) (n c : Nat) (xs : List Int) (la : Option Addr) (ln lc : Nat) (bs : List Bd) (x : Int),
  v = .agg #[.int .i64 W, .int .i64 H, .slice a n c, .slice la ln lc, .int .i64 x] ∧ I64' W ∧ I64' H ∧ I64' x ∧ n ≤ 9223372036854775807 ∧ ln ≤ lc ∧ lc ≤ 9223372036854775807 ∧ By w w.heap.size a n xs ∧ Bq w w.heap.size la ln bs ∧ (∀ k, k < ln → ∀ i, I64' ((bs.getD k default).c i))
end Go.Proofs.Ytjjodfdmbiebnaa
/- Layer 6: tiles' places by name. -/
namespace Go.Proofs.Ytjjodfdmbiebnaa
open Go.ChangeShapes Go.WideShapes Go.ChangeAt Go.RowKit Go.Deep
set_option linter.unusedVariables false
theorem hsz_le {w X : World} {o : Obj} (h : Below (w.heap.size + 1) (w.alloc o) X) : w.heap.size ≤ X.heap.size := by have := h.size; simp at this; omega
theorem keep2 {wx : World} {A : Nat} {p q : Int} (hs : A < wx.heap.size) (h : wx.cell? ⟨A, 0, none⟩ = some (.int .i64 p) ∧ wx.cell? ⟨A, 1, none⟩ = some (.int .i64 q)) :
    Hk (∀ X, Below wx.heap.size wx X → X.cell? ⟨A, 0, none⟩ = some (.int .i64 p) ∧ X.cell? ⟨A, 1, none⟩ = some (.int .i64 q) ∧ True ∧ True ∧ A < X.heap.size) :=
  ⟨fun X hX => ⟨(hX.cell (p := ⟨A, 0, none⟩) hs).trans h.1, (hX.cell (p := ⟨A, 1, none⟩) hs).trans h.2, trivial, trivial, Nat.lt_of_lt_of_le hs hX.size⟩⟩
end Go.Proofs.Ytjjodfdmbiebnaa
/- Layer 6: contracts by name for GroundBack. -/
namespace Go.Proofs.Ytjjodfdmbiebnaa
open Go.RowKit
set_option linter.unusedVariables false
/-- What In answers. -/
def inV (N : Int) (xs : List Int) : Int := if N ∈ xs then (xs.idxOf N : Nat) else -1
theorem inV_yes {N : Int} {xs : List Int} (h : N ∈ xs) : 0 ≤ inV N xs := by unfold inV; rw [if_pos h]; omega
theorem inV_no {N : Int} {xs : List Int} (h : N ∉ xs) : inV N xs = -1 := by unfold inV; rw [if_neg h]
theorem idxOf_at (N : Int) : ∀ (xs : List Int) (k : Nat) (hk : k < xs.length), xs.getD k 0 = N → N ∉ xs.take k → xs.idxOf N = k
  | [], k, hk, _, _ => absurd hk (by simp)
  | x :: xs, 0, _, e, _ => by simp at e; simp [e]
  | x :: xs, k + 1, hk, e, hn => by
    simp at e hn hk
    have hx : ¬ x = N := fun h => hn.1 h.symm
    have hb : (x == N) = false := by simp [hx]
    rw [List.idxOf_cons, hb, idxOf_at N xs k hk (by simpa using e) hn.2]; rfl
theorem of_near {W H X Y t px py : Int} (x0 : 0 ≤ X) (x1 : X < W) (y0 : 0 ≤ Y) (y1 : Y < H) (hx : X * 65536 ≤ px ∧ px < X * 65536 + 65536) (hy : Y * 65536 ≤ py ∧ py < Y * 65536 + 65536) (e : X + W * Y = t) :
    Hk ((0 ≤ px ∧ px < W * 65536 ∧ 0 ≤ py ∧ py < H * 65536) ∧ px / 65536 + W * (py / 65536) = t) :=
  ⟨⟨by omega, by omega, by omega, by omega⟩, by
    rw [show px / 65536 = X by omega, show py / 65536 = Y by omega]; exact e⟩
theorem nq_take {w : World} {B n : Nat} {a : Option Addr} {xs : List Int} (h : Nq w B a n xs) (j : Nat) (hj : j ≤ n) : Nq w B a j (xs.take j) := ⟨by simp [h.len]; omega, fun hn => by
  obtain ⟨b, off, e, hlt, hc⟩ := h.rd (by omega)
  exact ⟨b, off, e, hlt, fun k hk => by rw [hc k (by omega)]; simp [List.getD, hk]⟩⟩
end Go.Proofs.Ytjjodfdmbiebnaa
/- Layer 6, plain: how many neighbours all tiles have (for GroundCounts). -/
namespace Go.Proofs.Ytjjodfdmbiebnaa
open Go.RowKit
set_option linter.unusedVariables false
/-- Of the first j neighbours of a tile: how many there are. -/
def nbN (W H t : Int) : Nat → Nat
  | 0 => 0
  | j + 1 => nbN W H t j + if 0 ≤ nb W H t j then 1 else 0
/-- All neighbours of the first k tiles. -/
def nbT (W H : Int) : Nat → Nat
  | 0 => 0
  | k + 1 => nbT W H k + nbN W H k 8
theorem nbN_le (W H t : Int) : ∀ j, nbN W H t j ≤ j
  | 0 => Nat.le_refl _
  | j + 1 => by have := nbN_le W H t j; unfold nbN; split <;> omega
theorem nbT_le (W H : Int) : ∀ k, nbT W H k ≤ 8 * k
  | 0 => Nat.le_refl _
  | k + 1 => by have := nbT_le W H k; have := nbN_le W H k 8; unfold nbT; omega
theorem nbT_all : ∀ w h : Fin 4, (nbT (w.val + 1 : Nat) (h.val + 1 : Nat) ((w.val + 1) * (h.val + 1)) : Int) = 2 * ((w.val : Int) * (h.val + 1) + (w.val + 1) * (h.val : Int) + 2 * w.val * h.val) := by
  decide +kernel
theorem nbT_full {W H : Int} {n : Nat} (w1 : 1 ≤ W) (w2 : W ≤ 4) (h1 : 1 ≤ H) (h2 : H ≤ 4) (hn : W * H = n) : (nbT W H n : Int) = 2 * ((W - 1) * H + W * (H - 1) + 2 * (W - 1) * (H - 1)) := by
  obtain ⟨w, rfl⟩ : ∃ w : Nat, W = ((w + 1 : Nat) : Int) := ⟨(W - 1).toNat, by omega⟩
  obtain ⟨h, rfl⟩ : ∃ h : Nat, H = ((h + 1 : Nat) : Int) := ⟨(H - 1).toNat, by omega⟩
  have hn' : n = (w + 1) * (h + 1) := by
    have : ((n : Nat) : Int) = (((w + 1) * (h + 1) : Nat) : Int) := by rw [← hn]; simp
    omega
  subst hn'
  have := nbT_all ⟨w, by omega⟩ ⟨h, by omega⟩
  simp only at this
  rw [this]
  push_cast
  rw [show (w : Int) + 1 - 1 = w by omega, show (h : Int) + 1 - 1 = h by omega]
theorem ways_tab (j : Nat) (hj : j < 8) : (j < 4 ∧ ((dxL.getD j 0 = 0 ∧ dyL.getD j 0 = -1) ∨ (dxL.getD j 0 = 1 ∧ dyL.getD j 0 = 0) ∨ (dxL.getD j 0 = 0 ∧ dyL.getD j 0 = 1) ∨ (dxL.getD j 0 = -1 ∧ dyL.getD j 0 = 0))) ∨
    (4 ≤ j ∧ ((dxL.getD j 0 = 1 ∧ dyL.getD j 0 = -1) ∨ (dxL.getD j 0 = 1 ∧ dyL.getD j 0 = 1) ∨ (dxL.getD j 0 = -1 ∧ dyL.getD j 0 = 1) ∨ (dxL.getD j 0 = -1 ∧ dyL.getD j 0 = -1))) := by
  match j, hj with
  | 0, _ | 1, _ | 2, _ | 3, _ | 4, _ | 5, _ | 6, _ | 7, _ => decide
theorem zeros_ok (W H : Int) (n : Nat) (w1 : 1 ≤ W) (w2 : W ≤ 128) (h1 : 1 ≤ H) (h2 : H ≤ 128) (hn : W * H = n) : GOk W H n (List.replicate n 0) :=
  ⟨w1, w2, h1, h2, hn.symm, fun x hx => by rw [List.eq_of_mem_replicate hx]; omega⟩
theorem zeros_by {X : World} {g n B : Nat} {T : TypeId} (h : Arr X g n T (fun _ => .int .u8 0)) (hg : g < B) : By X B (some ⟨g, 0, none⟩) n (List.replicate n 0) :=
  ⟨by simp, fun b hb => by rw [List.eq_of_mem_replicate hb]; unfold Fn.Byt; omega, fun hn => ⟨g, 0, rfl, hg, fun k hk => by
    rw [Nat.zero_add, h.cell hk]
    show some (Value.int .u8 0) = some (Value.int .u8 ((List.replicate n (0 : Int)).getD k 0))
    rw [List.getD, List.getElem?_replicate, if_pos hk]; rfl⟩⟩
end Go.Proofs.Ytjjodfdmbiebnaa
/- Layer 8: what the statements call, and their argument. -/
namespace Go.Proofs.Ytjjodfdmbiebnaa
open Go.ChangeShapes Go.WideShapes Go.ChangeAt Go.RowKit Go.Deep
set_option linter.unusedVariables false
set_option linter.unusedSimpArgs false
theorem num8_any (x : Int) (w : World) : Calls Try.prog 19 #[.int .i64 x] w fun e w' => e = .returned (.int .i64 x) ∧ w = w' := by
  go_enter Try.func19, Try.ntmps19
  go_wp2
  go_ret
  exact ⟨rfl, rfl⟩
/-- Is it more than is played? -/
def gtA (n ln mn im : Nat) : Bool := decide (700 < n ∨ 30 < ln ∨ 60 < mn ∨ 60 < im)
set_option maxRecDepth 100000 in
theorem heavy8_as (r : Bool) (W H : Int) (a : Option Addr) (n c : Nat) (la : Option Addr) (ln lc : Nat) (ma : Option Addr) (mn mc : Nat) (ia : Option Addr) (im ic : Nat) (w : World) (hn : n ≤ 9223372036854775807) (hln : ln ≤ 9223372036854775807) (R : Hk (gtA n ln mn im = r)) :
    Calls Try.prog 14 #[.agg #[.int .i64 W, .int .i64 H, .slice a n c, .slice la ln lc, .slice ma mn mc, .slice ia im ic]] w fun e w' => e = .returned (.bool r) ∧ Below w.heap.size w w' := by
  have HWB : Hk (Below w.heap.size w (w.alloc (.cells #[.int .i64 W, .int .i64 H, .slice a n c, .slice la ln lc, .slice ma mn mc, .slice ia im ic] 28))) := ⟨(Below.refl _ _).alloc (Nat.le_refl _) _⟩
  have hNW : w.heap.size + 1 ≤ (w.alloc (.cells #[.int .i64 W, .int .i64 H, .slice a n c, .slice la ln lc, .slice ma mn mc, .slice ia im ic] 28)).heap.size := by simp
  have HB : Hk (Below (w.heap.size + 1) (w.alloc (.cells #[.int .i64 W, .int .i64 H, .slice a n c, .slice la ln lc, .slice ma mn mc, .slice ia im ic] 28)) (w.alloc (.cells #[.int .i64 W, .int .i64 H, .slice a n c, .slice la ln lc, .slice ma mn mc, .slice ia im ic] 28))) := ⟨Below.refl _ _⟩
  have HTR : Hk (∀ X, Below (w.heap.size + 1) (w.alloc (.cells #[.int .i64 W, .int .i64 H, .slice a n c, .slice la ln lc, .slice ma mn mc, .slice ia im ic] 28)) X → Below w.heap.size w X) := ⟨fun X hX => HWB.out.trans (hX.mono (by omega))⟩
  cases hg : gtP n ln
  case true =>
    have HV := Hk.mk hg
    obtain rfl : r = true := by rw [← R.out]; unfold gtA; unfold gtP at hg; simp at hg ⊢; omega
    clear hg
    obtain ⟨hc, hf, hl, hn', hm⟩ := kw_rules HB.out hNW
    go_enter Try.func14, Try.ntmps14
    go_wp2_with (go_at_call 54; (with_reducible refine (great_as true W H a n c la ln lc _ hn hln HV).mono ?_); rintro e z ⟨rfl, hb⟩; replace HB := Hk.mk (kw_step HB.out hNW hb); clear hb; clear hc hf hl hn' hm; obtain ⟨hc, hf, hl, hn', hm⟩ := kw_rules HB.out hNW)
    go_ret
    exact ⟨rfl, HTR.out _ HB.out⟩
  have HV := Hk.mk hg
  by_cases q1 : 60 < mn
  · have d1 : decide ((60 : Int) < mn) = true := by simp; omega
    obtain rfl : r = true := by rw [← R.out]; unfold gtA; simp; omega
    clear hg
    obtain ⟨hc, hf, hl, hn', hm⟩ := kw_rules HB.out hNW
    go_enter Try.func14, Try.ntmps14
    go_wp2_with (go_at_call 54; (with_reducible refine (great_as false W H a n c la ln lc _ hn hln HV).mono ?_); rintro e z ⟨rfl, hb⟩; replace HB := Hk.mk (kw_step HB.out hNW hb); clear hb; clear hc hf hl hn' hm; obtain ⟨hc, hf, hl, hn', hm⟩ := kw_rules HB.out hNW)
    go_ret
    exact ⟨rfl, HTR.out _ HB.out⟩
  have d1 : decide ((60 : Int) < mn) = false := by simp; omega
  by_cases q2 : 60 < im
  · have d2 : decide ((60 : Int) < im) = true := by simp; omega
    obtain rfl : r = true := by rw [← R.out]; unfold gtA; simp; omega
    clear hg
    obtain ⟨hc, hf, hl, hn', hm⟩ := kw_rules HB.out hNW
    go_enter Try.func14, Try.ntmps14
    go_wp2_with (go_at_call 54; (with_reducible refine (great_as false W H a n c la ln lc _ hn hln HV).mono ?_); rintro e z ⟨rfl, hb⟩; replace HB := Hk.mk (kw_step HB.out hNW hb); clear hb; clear hc hf hl hn' hm; obtain ⟨hc, hf, hl, hn', hm⟩ := kw_rules HB.out hNW)
    go_ret
    exact ⟨rfl, HTR.out _ HB.out⟩
  have d2 : decide ((60 : Int) < im) = false := by simp; omega
  obtain rfl : r = false := by rw [← R.out]; unfold gtA; unfold gtP at hg; simp at hg ⊢; omega
  clear hg
  obtain ⟨hc, hf, hl, hn', hm⟩ := kw_rules HB.out hNW
  go_enter Try.func14, Try.ntmps14
  go_wp2_with (go_at_call 54; (with_reducible refine (great_as false W H a n c la ln lc _ hn hln HV).mono ?_); rintro e z ⟨rfl, hb⟩; replace HB := Hk.mk (kw_step HB.out hNW hb); clear hb; clear hc hf hl hn' hm; obtain ⟨hc, hf, hl, hn', hm⟩ := kw_rules HB.out hNW)
  go_ret
  exact ⟨rfl, HTR.out _ HB.out⟩
open Classical in
noncomputable def ckE (W H : Int) (n : Nat) (xs : List Int) (bs : List Bd) : Int := if MOk W H n xs bs then 0 else 1
theorem check8_as (x : Int) (W H : Int) (a : Option Addr) (n c : Nat) (xs : List Int) (la : Option Addr) (ln lc : Nat) (bs : List Bd) (w : World) (h : By w w.heap.size a n xs) (hb0 : Bq w w.heap.size la ln bs) (hn : n ≤ 140737488355328) (hln : ln ≤ 1099511627776) (E : Hk (ckE W H n xs bs = x)) :
    Calls Try.prog 16 #[.agg #[.int .i64 W, .int .i64 H, .slice a n c], .slice la ln lc] w fun e w' => e = .returned (.int .i64 x) ∧ Below w.heap.size w w' := by
  have hbx := (Below.refl w.heap.size w).alloc (Nat.le_refl _) (.cells #[.int .i64 W, .int .i64 H, .slice a n c] 24)
  have HY := Hk.mk (h.below hbx (Nat.le_refl _))
  have HQ := Hk.mk (hb0.below hbx (Nat.le_refl _))
  have HX := Hk.mk hbx
  clear h hb0 hbx
  by_cases M : MOk W H n xs bs
  · have E1 : Hk (true = true ↔ MOk W H n xs bs) := ⟨fun _ => M, fun _ => rfl⟩
    obtain rfl : x = 0 := by rw [← E.out]; unfold ckE; rw [if_pos M]
    clear M E
    go_enter Try.func16, Try.ntmps16
    go_wp2_with (go_at_call 55; (with_reducible refine (may_as true W H a n c xs la ln lc bs _ ?_ ?_ hn hln E1).mono ?_); (exact HY.out.mono (by simp)); (exact HQ.out.mono (by simp)); rintro e z ⟨rfl, hb⟩)
    go_ret
    exact ⟨rfl, HX.out.trans (hb.mono (by simp))⟩
  · have E1 : Hk (false = true ↔ MOk W H n xs bs) := ⟨fun h => (by cases h), fun h => absurd h M⟩
    obtain rfl : x = 1 := by rw [← E.out]; unfold ckE; rw [if_neg M]
    clear M E
    go_enter Try.func16, Try.ntmps16
    go_wp2_with (go_at_call 55; (with_reducible refine (may_as false W H a n c xs la ln lc bs _ ?_ ?_ hn hln E1).mono ?_); (exact HY.out.mono (by simp)); (exact HQ.out.mono (by simp)); rintro e z ⟨rfl, hb⟩)
    go_ret
    exact ⟨rfl, HX.out.trans (hb.mono (by simp))⟩
/-- Add at an empty list. -/
theorem add_nil (W H : Int) (a : Option Addr) (n c B : Nat) (xs : List Int) (b : Bd) (w : World) (h : By w B a n xs) (hB : B ≤ w.heap.size) (hn : n ≤ 140737488355328) :
    Calls Try.prog 18 #[.agg #[.int .i64 W, .int .i64 H, .slice a n c], .slice none 0 0, .agg #[.int .i64 b.i, .int .i64 b.o, .int .i64 b.x, .int .i64 b.y, .int .i64 b.w, .int .i64 b.h]] w (AddR w W H n xs [] b) :=
  add_go W H a n c xs none 0 0 [] b w (h.mono hB) (Bq.nil _ _ _) hn (by omega) ⟨fun _ => ⟨rfl, rfl, rfl⟩⟩
theorem mok_nil {W H : Int} {n : Nat} {xs : List Int} (g : GOk W H n xs) : MOk W H n xs [] := ⟨g, by simp, fun k hk => by simp at hk, by simp, by simp, by simp, fun i j h1 h2 => by simp at h2⟩
def bd1 : Bd := ⟨1, 1, 0, 0, 2, 1⟩
def bd2 : Bd := ⟨2, 1, 1, 0, 2, 1⟩
theorem fmA : fmB bd1 = true := by decide
theorem fmA2 : fmB bd2 = true := by decide
theorem inA : inB 3 1 bd1 = true := by decide
theorem inA2 : inB 3 1 bd2 = true := by decide
theorem frA : frB 3 [0, 0, 0] bd1 = true := by decide
theorem mok_a : MOk 3 1 3 [0, 0, 0] [] := mok_nil ⟨by omega, by omega, by omega, by omega, by decide, by decide⟩
theorem mok_b : MOk 3 1 3 [0, 0, 0] [bd1] := ⟨mok_a.g, by simp, fun k hk => by simp at hk, by intro b hb; simp at hb; subst hb; exact fmB_iff.1 fmA, by intro b hb; simp at hb; subst hb; exact inB_iff.1 inA, by intro b hb; simp at hb; subst hb; exact frA, fun i j h1 h2 => by simp at h2; omega⟩
theorem addA : addE 3 1 3 [0, 0, 0] [] bd1 = 0 := by
  unfold addE
  rw [if_pos mok_a, if_neg (by rw [fmA]; decide), if_neg (by rw [inA]; decide), if_neg (by rintro (⟨k, hk, _⟩ | h); exact absurd hk (by simp); exact absurd h (by decide)), if_neg (by rw [frA]; decide), if_neg (by simp)]
theorem addA2 : addE 3 1 3 [0, 0, 0] [bd1] bd2 = 12 := by
  unfold addE
  rw [if_pos mok_b, if_neg (by rw [fmA2]; decide), if_neg (by rw [inA2]; decide), if_pos (Or.inr (by decide))]
theorem byt_zeros3 : ∀ b ∈ ([0, 0, 0] : List Int), Fn.Byt b := by
  intro b hb
  simp at hb
  subst hb
  unfold Fn.Byt; omega
set_option maxRecDepth 100000 in
theorem wakes8_any (w : World) : Calls Try.prog 23 #[] w fun e w' => e = .returned (.bool true) ∧ Below w.heap.size w w' := by
  have hby := By.lit w [0, 0, 0] 5 (0, 0) (w.heap.size + 1) 3 rfl byt_zeros3 (by omega)
  have hmk : ∀ w, (Instr.makeSlice 22 (.int .i64 3) (.int .i64 3)).run Try.prog w = .ok (.slice (some ⟨w.heap.size, 0, none⟩) 3 3) (w.alloc (.cells #[.int .u8 0, .int .u8 0, .int .u8 0] 5)) := fun _ => by kernel_rfl
  obtain ⟨W1, hW1⟩ : ∃ W1 : World, (w.alloc (.cells #[.int .u8 0, .int .u8 0, .int .u8 0] 5)).alloc (.cells #[.int .i64 3, .int .i64 1, .slice (some ⟨w.heap.size, 0, none⟩) 3 3] 24) = W1 := ⟨_, rfl⟩
  have hBW : Below w.heap.size w W1 := by rw [← hW1]; exact ((Below.refl _ _).alloc (Nat.le_refl _) _).alloc (by simp) _
  have hBY1 : By W1 (w.heap.size + 1) (some ⟨w.heap.size, 0, none⟩) 3 [0, 0, 0] := by rw [← hW1]; exact By.alloc hby (by simp) _
  have hsz : w.heap.size + 2 = W1.heap.size := by rw [← hW1]; simp
  have HBW := Hk.mk hBW
  have HBY1 := Hk.mk hBY1
  have HSZ := Hk.mk hsz
  clear hby hBW hBY1
  have hbk : Bk W1 (w.heap.size + 1) #[.int .i64 3, .int .i64 1, .slice (some ⟨w.heap.size, 0, none⟩) 3 3] := by
    rw [← hW1]
    have := Bk.new (w.alloc (.cells #[.int .u8 0, .int .u8 0, .int .u8 0] 5)) #[.int .i64 3, .int .i64 1, .slice (some ⟨w.heap.size, 0, none⟩) 3 3] 24
    rwa [show (w.alloc (.cells #[.int .u8 0, .int .u8 0, .int .u8 0] 5)).heap.size = w.heap.size + 1 by simp] at this
  have e0 : W1.cell? ⟨w.heap.size + 1, 0, none⟩ = some (.int .i64 3) := hbk.c 0
  have e1 : W1.cell? ⟨w.heap.size + 1, 1, none⟩ = some (.int .i64 1) := hbk.c 1
  have e2 : W1.cell? ⟨w.heap.size + 1, 2, none⟩ = some (.slice (some ⟨w.heap.size, 0, none⟩) 3 3) := hbk.c 2
  clear hbk
  clear hsz
  go_enter Try.func23, Try.ntmps23
  go_upto_region 2 with (fail)
  (try rw [hW1])
  clear hW1 hmk
  go_upto_region 3 with (go_at_call 18; refine (add_nil 3 1 (some ⟨w.heap.size, 0, none⟩) 3 3 (w.heap.size + 1) [0, 0, 0] bd1 _ HBY1.out (by have := HSZ.out; omega) (by omega)).mono ?_; rintro e z (⟨h0, _⟩ | ⟨h0, v, rfl, hv, hb⟩); (exact absurd addA h0))
  obtain ⟨va, vc, rfl, hvc, hvm, hvq, hvb⟩ := hv.bq
  have HB := Hk.mk hb
  have HVQ := Hk.mk hvq
  have f0 := (hb.cell (p := ⟨w.heap.size + 1, 0, none⟩) (by have := HSZ.out; show w.heap.size + 1 < _; omega)).trans e0
  have f1 := (hb.cell (p := ⟨w.heap.size + 1, 1, none⟩) (by have := HSZ.out; show w.heap.size + 1 < _; omega)).trans e1
  have f2 := (hb.cell (p := ⟨w.heap.size + 1, 2, none⟩) (by have := HSZ.out; show w.heap.size + 1 < _; omega)).trans e2
  have HBY2 := Hk.mk (HBY1.out.below hb (by have := HSZ.out; omega))
  have HZ : Hk (W1.heap.size ≤ z.heap.size) := ⟨hb.size⟩
  clear hv hvq hvb hb h0 hvm e0 e1 e2
  go_wp2_with (first
    | (go_at_call 18; refine (add_go 3 1 (some ⟨w.heap.size, 0, none⟩) 3 3 [0, 0, 0] va 1 vc [bd1] bd2 _ (HBY2.out.mono (by have := HSZ.out; have := HZ.out; omega)) HVQ.out (by omega) (by omega) ⟨fun h => absurd (addA2.symm.trans h) (by decide)⟩).mono ?_; rintro e z2 (⟨_, rfl, hb2⟩ | ⟨h0, _⟩); rotate_left; (exact absurd (addA2.symm.trans h0) (by decide)); rw [addA2])
    | (go_at_call 19; (with_reducible refine (num8_any _ _).mono ?_); rintro e w' ⟨rfl, rfl⟩))
  go_ret
  exact ⟨rfl, (HBW.out.trans (HB.out.mono (by have := HSZ.out; omega))).trans (hb2.mono (by have := HSZ.out; have := HZ.out; omega))⟩
/-- The argument: a ground, buildings, more of them, IDs. -/
def Asks8 (w : World) (v : Value) : Prop := ∃ (W H : Int) (a : Option Addr) (n c : Nat) (xs : List Int) (la : Option Addr) (ln lc : Nat) (bs : List Bd) (ma : Option Addr) (mn mc : Nat) (ms : List Bd) (ia : Option Addr) (im ic : Nat) (js : List Int),
  v = .agg #[.int .i64 W, .int .i64 H, .slice a n c, .slice la ln lc, .slice ma mn mc, .slice ia im ic] ∧ I64' W ∧ I64' H ∧ n ≤ 9223372036854775807 ∧ ln ≤ lc ∧ lc ≤ 9223372036854775807 ∧ By w w.heap.size a n xs ∧ Bq w w.heap.size la ln bs ∧ (∀ k, k < ln → ∀ i, I64' ((bs.getD k default).c i)) ∧
  mn ≤ mc ∧ mc ≤ 9223372036854775807 ∧ Bq w w.heap.size ma mn ms ∧ (∀ k, k < mn → ∀ i, I64' ((ms.getD k default).c i)) ∧ im ≤ 9223372036854775807 ∧ Nq w w.heap.size ia im js
set_option maxRecDepth 100000 in
theorem asks8_of {H : Type} {enc : TypeId × Value → H} {w : World} {base : Nat} {spare : Nat → Bool} {held : Bool} {fuel : Nat} {x : DataW H × List MemPlace} {cs : Array Value} (hcs : cs.size = Try.prog.cellsOf 28)
    (hf : DataW.trod enc Try.prog w base spare held fuel 28 cs.toList = some x) : Asks8 w (.agg cs) := by
  have hC : Try.prog.cellsOf 28 = 6 := by kernel_rfl
  have h1 : Try.prog.cellsOf 24 = 3 := by kernel_rfl
  have h2 : Try.prog.cellsOf 25 = 1 := by kernel_rfl
  have h3 : Try.prog.cellsOf 26 = 1 := by kernel_rfl
  rw [hC] at hcs
  obtain ⟨l⟩ := cs
  match l, hcs with
  | [c0, c1, c2, c3, c4, c5], _ =>
    obtain ⟨ys, n', _, _, _, hyl, hg⟩ := DataW.trod_struct Try.underlying28 hf
    match ys, hyl with
    | [y0, y1, y2, y3], _ =>
      have g0 := hg 0 _ rfl
      have g1 := hg 1 _ rfl
      have g2 := hg 2 _ rfl
      have g3 := hg 3 _ rfl
      simp [h1, h2, h3] at g0 g1 g2 g3
      obtain ⟨W, H, a, n, c, xs, rfl, rfl, rfl, hW, hH, hn, hby⟩ := op_ground g0
      obtain ⟨la, ln, lc, bs, rfl, hlc, hc, hbq, hi⟩ := op_bds g1
      obtain ⟨ma, mn, mc, ms, rfl, hmc, hc2, hmq, hj⟩ := op_bds g2
      obtain ⟨ia, im, ic, js, rfl, him, hnq⟩ := nq_of g3
      exact ⟨W, H, a, n, c, xs, la, ln, lc, bs, ma, mn, mc, ms, ia, im, ic, js, rfl, hW, hH, hn, hlc, hc, hby, hbq, hi, hmc, hc2, hmq, hj, him, hnq⟩
end Go.Proofs.Ytjjodfdmbiebnaa
