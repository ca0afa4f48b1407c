import Derived.Deep.QuietTactic
import Derived.BigQuiet
import Derived.Deep.RegionWith
import Derived.Deep.RegionHeld3
import Derived.Deep.DeepCutAuto
import Derived.Deep.DeepFit
import Derived.Outline
import Derived.Test.YtdpblimhfmfbnaaZtk
import Derived.BigGuardPart
import Derived.Test.YtdpblimhfmfbnaaZth
import Derived.Test.YtdpblimhfmfbnaaZti
import Derived.Test.YtdpblimhfmfbnaaZtc
import Derived.Test.YtdpblimhfmfbnaaZtd
import Derived.Test.YtdpblimhfmfbnaaZtf
/- Layer 9: the reference's Grid. -/
namespace Go.Proofs.Ytdpblimhfmfbnaa
open Go.RowKit
set_option linter.unusedVariables false
set_option linter.unusedSimpArgs false
theorem fr2_rules {P Q : Nat} {Z X : World} (h : Fr (fun j => j = P ∨ j = Q) Z X) :
    (∀ b o, b < Z.heap.size → ¬ b = P → ¬ b = Q → X.cell? ⟨b, o, none⟩ = Z.cell? ⟨b, o, none⟩) ∧ (∀ b, b < Z.heap.size → b < X.heap.size) ∧ (∀ b, b < Z.heap.size → ¬ b = X.heap.size) ∧ (∀ b, b < Z.heap.size → ¬ X.heap.size = b) := by
  have hs := h.size
  exact ⟨fun b o hb h1 h2 => h.cell hb (fun e => by rcases e with e | e; exact h1 e; exact h2 e), fun b hb => by omega, fun b hb => by omega, fun b hb => by omega⟩
end Go.Proofs.Ytdpblimhfmfbnaa
/- Layer 9: what the statements call, and their argument. -/
namespace Go.Proofs.Ytdpblimhfmfbnaa
open Go.ChangeShapes Go.WideShapes Go.ChangeAt Go.RowKit Go.Deep
set_option linter.unusedVariables false
set_option linter.unusedSimpArgs false
/-- Is it more than is played? -/
def gtP (n ln : Nat) : Bool := decide (700 < n ∨ 30 < ln)
theorem byt_zeros9 : ∀ b ∈ ([0, 0, 0, 0, 0, 0, 0, 0, 0] : List Int), Fn.Byt b := by
  intro b hb
  simp at hb
  subst hb
  unfold Fn.Byt; omega
theorem sC_330 : (List.range 9).map (fun k => ((sC 3 3 (opn 3 [0, 0, 0, 0, 0, 0, 0, 0, 0] [] 0) k : Nat) : Int)) = [1, 1, 1, 1, 2, 1, 1, 1, 1] := by decide
theorem arr_w {w w' : World} {g n : Nat} {T : TypeId} {f : Nat → Value} (h : Arr w g n T f) (hb : Below w.heap.size w w') : Arr w' g n T f := h.later hb
/-- The argument: a ground, buildings, a class. -/
def Asks9 (w : World) (v : Value) : Prop := ∃ (W H : Int) (a : Option Addr) (n c : Nat) (xs : List Int) (la : Option Addr) (ln lc : Nat) (bs : List Bd) (x : Int),
  v = .agg #[.int .i64 W, .int .i64 H, .slice a n c, .slice la ln lc, .int .i64 x] ∧ I64' W ∧ I64' H ∧ I64' x ∧ n ≤ 9223372036854775807 ∧ ln ≤ lc ∧ lc ≤ 9223372036854775807 ∧ By w w.heap.size a n xs ∧ Bq w w.heap.size la ln bs ∧ (∀ k, k < ln → ∀ i, I64' ((bs.getD k default).c i))
end Go.Proofs.Ytdpblimhfmfbnaa
/- Layer 6: tiles' places by name. -/
namespace Go.Proofs.Ytdpblimhfmfbnaa
open Go.ChangeShapes Go.WideShapes Go.ChangeAt Go.RowKit Go.Deep
set_option linter.unusedVariables false
theorem hsz_le {w X : World} {o : Obj} (h : Below (w.heap.size + 1) (w.alloc o) X) : w.heap.size ≤ X.heap.size := by have := h.size; simp at this; omega
theorem keep2 {wx : World} {A : Nat} {p q : Int} (hs : A < wx.heap.size) (h : wx.cell? ⟨A, 0, none⟩ = some (.int .i64 p) ∧ wx.cell? ⟨A, 1, none⟩ = some (.int .i64 q)) :
    Hk (∀ X, Below wx.heap.size wx X → X.cell? ⟨A, 0, none⟩ = some (.int .i64 p) ∧ X.cell? ⟨A, 1, none⟩ = some (.int .i64 q) ∧ True ∧ True ∧ A < X.heap.size) :=
  ⟨fun X hX => ⟨(hX.cell (p := ⟨A, 0, none⟩) hs).trans h.1, (hX.cell (p := ⟨A, 1, none⟩) hs).trans h.2, trivial, trivial, Nat.lt_of_lt_of_le hs hX.size⟩⟩
end Go.Proofs.Ytdpblimhfmfbnaa
/- Layer 6: contracts by name for GroundBack. -/
namespace Go.Proofs.Ytdpblimhfmfbnaa
open Go.RowKit
set_option linter.unusedVariables false
/-- What In answers. -/
def inV (N : Int) (xs : List Int) : Int := if N ∈ xs then (xs.idxOf N : Nat) else -1
theorem inV_yes {N : Int} {xs : List Int} (h : N ∈ xs) : 0 ≤ inV N xs := by unfold inV; rw [if_pos h]; omega
theorem inV_no {N : Int} {xs : List Int} (h : N ∉ xs) : inV N xs = -1 := by unfold inV; rw [if_neg h]
theorem idxOf_at (N : Int) : ∀ (xs : List Int) (k : Nat) (hk : k < xs.length), xs.getD k 0 = N → N ∉ xs.take k → xs.idxOf N = k
  | [], k, hk, _, _ => absurd hk (by simp)
  | x :: xs, 0, _, e, _ => by simp at e; simp [e]
  | x :: xs, k + 1, hk, e, hn => by
    simp at e hn hk
    have hx : ¬ x = N := fun h => hn.1 h.symm
    have hb : (x == N) = false := by simp [hx]
    rw [List.idxOf_cons, hb, idxOf_at N xs k hk (by simpa using e) hn.2]; rfl
theorem of_near {W H X Y t px py : Int} (x0 : 0 ≤ X) (x1 : X < W) (y0 : 0 ≤ Y) (y1 : Y < H) (hx : X * 65536 ≤ px ∧ px < X * 65536 + 65536) (hy : Y * 65536 ≤ py ∧ py < Y * 65536 + 65536) (e : X + W * Y = t) :
    Hk ((0 ≤ px ∧ px < W * 65536 ∧ 0 ≤ py ∧ py < H * 65536) ∧ px / 65536 + W * (py / 65536) = t) :=
  ⟨⟨by omega, by omega, by omega, by omega⟩, by
    rw [show px / 65536 = X by omega, show py / 65536 = Y by omega]; exact e⟩
theorem nq_take {w : World} {B n : Nat} {a : Option Addr} {xs : List Int} (h : Nq w B a n xs) (j : Nat) (hj : j ≤ n) : Nq w B a j (xs.take j) := ⟨by simp [h.len]; omega, fun hn => by
  obtain ⟨b, off, e, hlt, hc⟩ := h.rd (by omega)
  exact ⟨b, off, e, hlt, fun k hk => by rw [hc k (by omega)]; simp [List.getD, hk]⟩⟩
end Go.Proofs.Ytdpblimhfmfbnaa
/- Layer 6, plain: how many neighbours all tiles have (for GroundCounts). -/
namespace Go.Proofs.Ytdpblimhfmfbnaa
open Go.RowKit
set_option linter.unusedVariables false
/-- Of the first j neighbours of a tile: how many there are. -/
def nbN (W H t : Int) : Nat → Nat
  | 0 => 0
  | j + 1 => nbN W H t j + if 0 ≤ nb W H t j then 1 else 0
/-- All neighbours of the first k tiles. -/
def nbT (W H : Int) : Nat → Nat
  | 0 => 0
  | k + 1 => nbT W H k + nbN W H k 8
theorem nbN_le (W H t : Int) : ∀ j, nbN W H t j ≤ j
  | 0 => Nat.le_refl _
  | j + 1 => by have := nbN_le W H t j; unfold nbN; split <;> omega
theorem nbT_le (W H : Int) : ∀ k, nbT W H k ≤ 8 * k
  | 0 => Nat.le_refl _
  | k + 1 => by have := nbT_le W H k; have := nbN_le W H k 8; unfold nbT; omega
theorem nbT_all : ∀ w h : Fin 4, (nbT (w.val + 1 : Nat) (h.val + 1 : Nat) ((w.val + 1) * (h.val + 1)) : Int) = 2 * ((w.val : Int) * (h.val + 1) + (w.val + 1) * (h.val : Int) + 2 * w.val * h.val) := by
  decide +kernel
theorem nbT_full {W H : Int} {n : Nat} (w1 : 1 ≤ W) (w2 : W ≤ 4) (h1 : 1 ≤ H) (h2 : H ≤ 4) (hn : W * H = n) : (nbT W H n : Int) = 2 * ((W - 1) * H + W * (H - 1) + 2 * (W - 1) * (H - 1)) := by
  obtain ⟨w, rfl⟩ : ∃ w : Nat, W = ((w + 1 : Nat) : Int) := ⟨(W - 1).toNat, by omega⟩
  obtain ⟨h, rfl⟩ : ∃ h : Nat, H = ((h + 1 : Nat) : Int) := ⟨(H - 1).toNat, by omega⟩
  have hn' : n = (w + 1) * (h + 1) := by
    have : ((n : Nat) : Int) = (((w + 1) * (h + 1) : Nat) : Int) := by rw [← hn]; simp
    omega
  subst hn'
  have := nbT_all ⟨w, by omega⟩ ⟨h, by omega⟩
  simp only at this
  rw [this]
  push_cast
  rw [show (w : Int) + 1 - 1 = w by omega, show (h : Int) + 1 - 1 = h by omega]
theorem ways_tab (j : Nat) (hj : j < 8) : (j < 4 ∧ ((dxL.getD j 0 = 0 ∧ dyL.getD j 0 = -1) ∨ (dxL.getD j 0 = 1 ∧ dyL.getD j 0 = 0) ∨ (dxL.getD j 0 = 0 ∧ dyL.getD j 0 = 1) ∨ (dxL.getD j 0 = -1 ∧ dyL.getD j 0 = 0))) ∨
    (4 ≤ j ∧ ((dxL.getD j 0 = 1 ∧ dyL.getD j 0 = -1) ∨ (dxL.getD j 0 = 1 ∧ dyL.getD j 0 = 1) ∨ (dxL.getD j 0 = -1 ∧ dyL.getD j 0 = 1) ∨ (dxL.getD j 0 = -1 ∧ dyL.getD j 0 = -1))) := by
  match j, hj with
  | 0, _ | 1, _ | 2, _ | 3, _ | 4, _ | 5, _ | 6, _ | 7, _ => decide
theorem zeros_ok (W H : Int) (n : Nat) (w1 : 1 ≤ W) (w2 : W ≤ 128) (h1 : 1 ≤ H) (h2 : H ≤ 128) (hn : W * H = n) : GOk W H n (List.replicate n 0) :=
  ⟨w1, w2, h1, h2, hn.symm, fun x hx => by rw [List.eq_of_mem_replicate hx]; omega⟩
theorem zeros_by {X : World} {g n B : Nat} {T : TypeId} (h : Arr X g n T (fun _ => .int .u8 0)) (hg : g < B) : By X B (some ⟨g, 0, none⟩) n (List.replicate n 0) :=
  ⟨by simp, fun b hb => by rw [List.eq_of_mem_replicate hb]; unfold Fn.Byt; omega, fun hn => ⟨g, 0, rfl, hg, fun k hk => by
    rw [Nat.zero_add, h.cell hk]
    show some (Value.int .u8 0) = some (Value.int .u8 ((List.replicate n (0 : Int)).getD k 0))
    rw [List.getD, List.getElem?_replicate, if_pos hk]; rfl⟩⟩
end Go.Proofs.Ytdpblimhfmfbnaa
/- Layer 8: what the statements call, and their argument. -/
namespace Go.Proofs.Ytdpblimhfmfbnaa
open Go.ChangeShapes Go.WideShapes Go.ChangeAt Go.RowKit Go.Deep
set_option linter.unusedVariables false
set_option linter.unusedSimpArgs false
/-- Is it more than is played? -/
def gtA (n ln mn im : Nat) : Bool := decide (700 < n ∨ 30 < ln ∨ 60 < mn ∨ 60 < im)
open Classical in
noncomputable def ckE (W H : Int) (n : Nat) (xs : List Int) (bs : List Bd) : Int := if MOk W H n xs bs then 0 else 1
theorem mok_nil {W H : Int} {n : Nat} {xs : List Int} (g : GOk W H n xs) : MOk W H n xs [] := ⟨g, by simp, fun k hk => by simp at hk, by simp, by simp, by simp, fun i j h1 h2 => by simp at h2⟩
def bd1 : Bd := ⟨1, 1, 0, 0, 2, 1⟩
def bd2 : Bd := ⟨2, 1, 1, 0, 2, 1⟩
theorem fmA : fmB bd1 = true := by decide
theorem fmA2 : fmB bd2 = true := by decide
theorem inA : inB 3 1 bd1 = true := by decide
theorem inA2 : inB 3 1 bd2 = true := by decide
theorem frA : frB 3 [0, 0, 0] bd1 = true := by decide
theorem mok_a : MOk 3 1 3 [0, 0, 0] [] := mok_nil ⟨by omega, by omega, by omega, by omega, by decide, by decide⟩
theorem mok_b : MOk 3 1 3 [0, 0, 0] [bd1] := ⟨mok_a.g, by simp, fun k hk => by simp at hk, by intro b hb; simp at hb; subst hb; exact fmB_iff.1 fmA, by intro b hb; simp at hb; subst hb; exact inB_iff.1 inA, by intro b hb; simp at hb; subst hb; exact frA, fun i j h1 h2 => by simp at h2; omega⟩
theorem addA : addE 3 1 3 [0, 0, 0] [] bd1 = 0 := by
  unfold addE
  rw [if_pos mok_a, if_neg (by rw [fmA]; decide), if_neg (by rw [inA]; decide), if_neg (by rintro (⟨k, hk, _⟩ | h); exact absurd hk (by simp); exact absurd h (by decide)), if_neg (by rw [frA]; decide), if_neg (by simp)]
theorem addA2 : addE 3 1 3 [0, 0, 0] [bd1] bd2 = 12 := by
  unfold addE
  rw [if_pos mok_b, if_neg (by rw [fmA2]; decide), if_neg (by rw [inA2]; decide), if_pos (Or.inr (by decide))]
theorem byt_zeros3 : ∀ b ∈ ([0, 0, 0] : List Int), Fn.Byt b := by
  intro b hb
  simp at hb
  subst hb
  unfold Fn.Byt; omega
/-- The argument: a ground, buildings, more of them, IDs. -/
def Asks8 (w : World) (v : Value) : Prop := ∃ (W H : Int) (a : Option Addr) (n c : Nat) (xs : List Int) (la : Option Addr) (ln lc : Nat) (bs : List Bd) (ma : Option Addr) (mn mc : Nat) (ms : List Bd) (ia : Option Addr) (im ic : Nat) (js : List Int),
  v = .agg #[.int .i64 W, .int .i64 H, .slice a n c, .slice la ln lc, .slice ma mn mc, .slice ia im ic] ∧ I64' W ∧ I64' H ∧ n ≤ 9223372036854775807 ∧ ln ≤ lc ∧ lc ≤ 9223372036854775807 ∧ By w w.heap.size a n xs ∧ Bq w w.heap.size la ln bs ∧ (∀ k, k < ln → ∀ i, I64' ((bs.getD k default).c i)) ∧
  mn ≤ mc ∧ mc ≤ 9223372036854775807 ∧ Bq w w.heap.size ma mn ms ∧ (∀ k, k < mn → ∀ i, I64' ((ms.getD k default).c i)) ∧ im ≤ 9223372036854775807 ∧ Nq w w.heap.size ia im js
end Go.Proofs.Ytdpblimhfmfbnaa
