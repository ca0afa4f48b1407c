import Derived.Test.YthabjihpjdlmoaaDoorSkw
import Derived.Test.YthabjihpjdlmoaaDoorSks
import Derived.BigGuardPart
import Derived.Deep.QuietTactic
import Derived.BigQuiet
import Derived.Deep.RegionWith
import Derived.Deep.RegionHeld3
import Derived.Deep.DeepCutAuto
import Derived.Deep.DeepFit
import Derived.Outline
import Derived.Test.YthabjihpjdlmoaaDoorSkj
import Derived.SevenTiedAt
import Derived.ProofKit
import Derived.LaidMore
import Derived.OpenShut
import Derived.Stop.Joined
import Derived.Test.YthabjihpjdlmoaaDoorCards
import Derived.Test.YthabjihpjdlmoaaDoorTie
import Derived.Test.YthabjihpjdlmoaaDoorSkr
/- Openers: a number, a ground, buildings that came in. -/
namespace Go.Proofs.YthabjihpjdlmoaaDoor
open Go.ChangeShapes Go.WideShapes Go.ChangeAt Go.RowKit Go.Deep
set_option linter.unusedVariables false
theorem opi_wf {n : Int} (h : (Lit.int .i64 n).wf = true) : I64' n := by
  have := bounds_i64 h
  unfold I64'; omega
theorem op_int {H : Type} {enc : TypeId × Value → H} {w : World} {base : Nat} {spare : Nat → Bool} {held : Bool} {fuel : Nat} {x : DataW H × List MemPlace} {v : Value} (hf : DataW.trod enc Tryd.prog w base spare held fuel 3 [v] = some x) : ∃ z : Int, v = .int .i64 z ∧ I64' z := by
  obtain ⟨x0, e0, _, w0⟩ := DataW.trod_int Tryd.underlying3 hf
  simp at e0
  exact ⟨x0, e0, opi_wf w0⟩
theorem op_ground {H : Type} {enc : TypeId × Value → H} {w : World} {base : Nat} {spare : Nat → Bool} {held : Bool} {fuel : Nat} {x : DataW H × List MemPlace} {c0 c1 c2 : Value}
    (hf : DataW.trod enc Tryd.prog w base spare held fuel 24 [c0, c1, c2] = some x) : ∃ (W H : Int) (a : Option Addr) (n c : Nat) (xs : List Int), c0 = .int .i64 W ∧ c1 = .int .i64 H ∧ c2 = .slice a n c ∧ I64' W ∧ I64' H ∧ n ≤ 9223372036854775807 ∧ By w w.heap.size a n xs := by
  have h2 : Tryd.prog.cellsOf 3 = 1 := by kernel_rfl
  have h3 : Tryd.prog.cellsOf 22 = 1 := by kernel_rfl
  obtain ⟨ys, n', _, _, _, hyl, hg⟩ := DataW.trod_struct Tryd.underlying24 hf
  match ys, hyl with
  | [y0, y1, y2], _ =>
    have g0 := hg 0 _ rfl
    have g1 := hg 1 _ rfl
    have g2 := hg 2 _ rfl
    simp [h2, h3] at g0 g1 g2
    obtain ⟨x0, e0, w0⟩ := op_int g0
    obtain ⟨x1, e1, w1⟩ := op_int g1
    obtain ⟨a, n, c, xs, rfl, hn, hc, hby⟩ := by_of g2
    exact ⟨x0, x1, a, n, c, xs, e0, e1, rfl, w0, w1, by omega, hby⟩
theorem op_bd {H : Type} {enc : TypeId × Value → H} {w : World} {base : Nat} {spare : Nat → Bool} {held : Bool} {fuel : Nat} {x : DataW H × List MemPlace} {cs : List Value} (hl : cs.length = 6)
    (hf : DataW.trod enc Tryd.prog w base spare held fuel 121 cs = some x) : ∃ b : Bd, cs = [.int .i64 b.i, .int .i64 b.o, .int .i64 b.x, .int .i64 b.y, .int .i64 b.w, .int .i64 b.h] ∧ ∀ i, I64' (b.c i) := by
  have h2 : Tryd.prog.cellsOf 3 = 1 := by kernel_rfl
  match cs, hl with
  | [c0, c1, c2, c3, c4, c5], _ =>
    obtain ⟨ys, n', _, _, _, hyl, hg⟩ := DataW.trod_struct Tryd.underlying121 hf
    match ys, hyl with
    | [y0, y1, y2, y3, y4, y5], _ =>
      have g0 := hg 0 _ rfl
      have g1 := hg 1 _ rfl
      have g2 := hg 2 _ rfl
      have g3 := hg 3 _ rfl
      have g4 := hg 4 _ rfl
      have g5 := hg 5 _ rfl
      simp [h2] at g0 g1 g2 g3 g4 g5
      obtain ⟨x0, rfl, w0⟩ := op_int g0
      obtain ⟨x1, rfl, w1⟩ := op_int g1
      obtain ⟨x2, rfl, w2⟩ := op_int g2
      obtain ⟨x3, rfl, w3⟩ := op_int g3
      obtain ⟨x4, rfl, w4⟩ := op_int g4
      obtain ⟨x5, rfl, w5⟩ := op_int g5
      refine ⟨⟨x0, x1, x2, x3, x4, x5⟩, rfl, fun i => ?_⟩
      match i with
      | 0 => exact w0
      | 1 => exact w1
      | 2 => exact w2
      | 3 => exact w3
      | 4 => exact w4
      | _ + 5 => exact w5
theorem op_bds {H : Type} {enc : TypeId × Value → H} {w : World} {base : Nat} {spare : Nat → Bool} {held : Bool} {fuel : Nat} {x : DataW H × List MemPlace} {v : Value}
    (hf : DataW.trod enc Tryd.prog w base spare held fuel 25 [v] = some x) : ∃ a n c, ∃ bs : List Bd, v = .slice a n c ∧ n ≤ c ∧ c ≤ 9223372036854775807 ∧ Bq w w.heap.size a n bs ∧ ∀ k, k < n → ∀ i, I64' ((bs.getD k default).c i) := by
  obtain ⟨a, n, c, ys, rfl, hnc, hc, hl, hr⟩ := rows_of (default : Bd) Tryd.underlying25 6 (by kernel_rfl) (by omega) (fun cs b => cs = [.int .i64 b.i, .int .i64 b.o, .int .i64 b.x, .int .i64 b.y, .int .i64 b.w, .int .i64 b.h] ∧ ∀ i, I64' (b.c i)) (fun fuel x cs hl h => op_bd hl h) hf
  refine ⟨a, n, c, ys, rfl, hnc, hc, ⟨hl, fun hn => ?_⟩, fun k hk i => ?_⟩
  · obtain ⟨b, off, e, hb, hcells⟩ := hr hn
    refine ⟨b, off, e, hb, fun k hk i hi => ?_⟩
    obtain ⟨cs, hcl, ⟨hcs, _⟩, hat⟩ := hcells k hk
    rw [hat i hi, hcs]
    match i, hi with
    | 0, _ | 1, _ | 2, _ | 3, _ | 4, _ | 5, _ => rfl
  · obtain ⟨b, off, e, hb, hcells⟩ := hr (by omega)
    obtain ⟨cs, hcl, ⟨hcs, h64⟩, hat⟩ := hcells k hk
    exact h64 i
end Go.Proofs.YthabjihpjdlmoaaDoor
/- Layer 9: what the statements call, and their argument. -/
namespace Go.Proofs.YthabjihpjdlmoaaDoor
open Go.ChangeShapes Go.WideShapes Go.ChangeAt Go.RowKit Go.Deep
set_option linter.unusedVariables false
set_option linter.unusedSimpArgs false
/-- Is it more than is played? -/
def gtP (n ln : Nat) : Bool := decide (700 < n ∨ 30 < ln)
theorem great_any (W H : Int) (a : Option Addr) (n c : Nat) (la : Option Addr) (ln lc : Nat) (w : World) (hn : n ≤ 9223372036854775807) (hln : ln ≤ 9223372036854775807) :
    Calls Tryd.prog 52 #[.agg #[.int .i64 W, .int .i64 H, .slice a n c], .slice la ln lc] w fun e w' => e = .returned (.bool (gtP n ln)) ∧ Below w.heap.size w w' := by
  by_cases q1 : 700 < n
  · have R : Hk (gtP n ln = true) := ⟨by unfold gtP; simp; omega⟩
    have b1 : decide ((700 : Int) < n) = true := by simp; omega
    go_enter Tryd.func52, Tryd.ntmps52
    go_wp2
    go_ret
    exact ⟨rbo R.out.symm, (Below.refl _ _).alloc (Nat.le_refl _) _⟩
  have b1 : decide ((700 : Int) < n) = false := by simp; omega
  by_cases q2 : 30 < ln
  · have R : Hk (gtP n ln = true) := ⟨by unfold gtP; simp; omega⟩
    have b2 : decide ((30 : Int) < ln) = true := by simp; omega
    go_enter Tryd.func52, Tryd.ntmps52
    go_wp2
    go_ret
    exact ⟨rbo R.out.symm, (Below.refl _ _).alloc (Nat.le_refl _) _⟩
  · have R : Hk (gtP n ln = false) := ⟨by unfold gtP; simp; omega⟩
    have b2 : decide ((30 : Int) < ln) = false := by simp; omega
    go_enter Tryd.func52, Tryd.ntmps52
    go_wp2
    go_ret
    exact ⟨rbo R.out.symm, (Below.refl _ _).alloc (Nat.le_refl _) _⟩
theorem great_as (r : Bool) (W H : Int) (a : Option Addr) (n c : Nat) (la : Option Addr) (ln lc : Nat) (w : World) (hn : n ≤ 9223372036854775807) (hln : ln ≤ 9223372036854775807) (R : Hk (gtP n ln = r)) :
    Calls Tryd.prog 52 #[.agg #[.int .i64 W, .int .i64 H, .slice a n c], .slice la ln lc] w fun e w' => e = .returned (.bool r) ∧ Below w.heap.size w w' := by
  obtain ⟨rfl⟩ := R; exact great_any W H a n c la ln lc w hn hln
theorem byt_zeros9 : ∀ b ∈ ([0, 0, 0, 0, 0, 0, 0, 0, 0] : List Int), Fn.Byt b := by
  intro b hb
  simp at hb
  subst hb
  unfold Fn.Byt; omega
theorem sC_330 : (List.range 9).map (fun k => ((sC 3 3 (opn 3 [0, 0, 0, 0, 0, 0, 0, 0, 0] [] 0) k : Nat) : Int)) = [1, 1, 1, 1, 2, 1, 1, 1, 1] := by decide
theorem arr_w {w w' : World} {g n : Nat} {T : TypeId} {f : Nat → Value} (h : Arr w g n T f) (hb : Below w.heap.size w w') : Arr w' g n T f := h.later hb
/-- The argument: a ground, buildings, a class. -/
def Asks9 (w : World) (v : Value) : Prop := ∃ (W H : Int) (a : Option Addr) (n c : Nat) (xs : List Int) (la : Option Addr) (ln lc : Nat) (bs : List Bd) (x : Int),
  v = .agg #[.int .i64 W, .int .i64 H, .slice a n c, .slice la ln lc, .int .i64 x] ∧ I64' W ∧ I64' H ∧ I64' x ∧ n ≤ 9223372036854775807 ∧ ln ≤ lc ∧ lc ≤ 9223372036854775807 ∧ By w w.heap.size a n xs ∧ Bq w w.heap.size la ln bs ∧ (∀ k, k < ln → ∀ i, I64' ((bs.getD k default).c i))
end Go.Proofs.YthabjihpjdlmoaaDoor
/- Layer 9: is the whole square open? -/
namespace Go.Proofs.YthabjihpjdlmoaaDoor
open Go.RowKit
set_option linter.unusedVariables false
set_option linter.unusedSimpArgs false
theorem op_in {W H : Int} {f : Nat → Bool} {x y : Int} {k : Nat} (a : 0 ≤ x) (b : x < W) (c : 0 ≤ y) (d : y < H) (e : x + W * y = k) : opXY W H f x y = f k := by
  unfold opXY; rw [decide_eq_true ⟨a, b, c, d⟩, Bool.true_and, e]; simp
theorem at_lt {W H x y : Int} {n : Nat} (w1 : 1 ≤ W) (hn : (n : Int) = W * H) (a : 0 ≤ x) (b : x < W) (c : 0 ≤ y) (d : y < H) : 0 ≤ x + W * y ∧ x + W * y < n := by
  have h0 := Int.mul_nonneg (show 0 ≤ W by omega) c
  have h1 := Int.mul_le_mul_of_nonneg_left (show y + 1 ≤ H by omega) (show 0 ≤ W by omega)
  rw [Int.mul_add, Int.mul_one] at h1
  omega
end Go.Proofs.YthabjihpjdlmoaaDoor
/- Layer 17: tiles.Free. -/
namespace Go.Proofs.YthabjihpjdlmoaaDoor
open Go.RowKit Go.Deep
set_option linter.unusedVariables false
set_option linter.unusedSimpArgs false
/-- The disc lies on the ground. -/
def inD (W H px py r : Int) : Bool := decide (r ≤ px ∧ px ≤ W * 65536 - r ∧ r ≤ py ∧ py ≤ H * 65536 - r)
/-- It meets no tile that isn't open. -/
def cfB (W : Int) (F : Nat → Bool) (n : Nat) (px py r : Int) : Bool := (List.range n).all fun t => F t || !meetsS W t px py r
def frS (W H : Int) (F : Nat → Bool) (n : Nat) (px py r : Int) : Bool := inD W H px py r && cfB W F n px py r
theorem frS_out {W H px py r : Int} {F : Nat → Bool} {n : Nat} (h : ¬ (r ≤ px ∧ px ≤ W * 65536 - r ∧ r ≤ py ∧ py ≤ H * 65536 - r)) : frS W H F n px py r = false := by
  unfold frS inD; rw [decide_eq_false h]; rfl
theorem frS_hit {W H px py r : Int} {F : Nat → Bool} {n t : Nat} (ht : t < n) (hF : F t = false) (hm : meetsS W t px py r = true) : frS W H F n px py r = false := by
  unfold frS
  rw [Bool.and_eq_false_iff]
  right
  cases q : cfB W F n px py r
  · rfl
  · unfold cfB at q
    have := List.all_eq_true.1 q t (List.mem_range.2 ht)
    rw [hF, hm] at this
    cases this
theorem frS_yes {W H px py r : Int} {F : Nat → Bool} {n : Nat} (h : r ≤ px ∧ px ≤ W * 65536 - r ∧ r ≤ py ∧ py ≤ H * 65536 - r) (ha : ∀ t, t < n → F t = true ∨ meetsS W t px py r = false) : frS W H F n px py r = true := by
  unfold frS inD
  rw [decide_eq_true h, Bool.true_and]
  unfold cfB
  refine List.all_eq_true.2 fun t ht => ?_
  rcases ha t (List.mem_range.1 ht) with e | e <;> rw [e] <;> simp
/-- A tile that the disc meets lies between the columns of its edges. -/
theorem meets_cols {W px py r : Int} {t : Nat} (h : meetsS W t px py r = true) : (px - r) / 65536 ≤ (t : Int) % W ∧ (t : Int) % W ≤ (px + r) / 65536 ∧ (py - r) / 65536 ≤ (t : Int) / W ∧ (t : Int) / W ≤ (py + r) / 65536 := by
  unfold meetsS at h
  rw [Bool.and_eq_true, Bool.and_eq_true, decide_eq_true_iff, decide_eq_true_iff] at h
  obtain ⟨h1, h2, -⟩ := h
  unfold bsS at h1 h2
  revert h1 h2
  generalize (t : Int) % W = x
  generalize (t : Int) / W = y
  intro h1 h2
  refine ⟨?_, ?_, ?_, ?_⟩
  · split at h1
    · omega
    · split at h1 <;> omega
  · split at h1
    · omega
    · split at h1 <;> omega
  · split at h2
    · omega
    · split at h2 <;> omega
  · split at h2
    · omega
    · split at h2 <;> omega
end Go.Proofs.YthabjihpjdlmoaaDoor
/- Layer 17: disc.Free and the reference's Free. -/
namespace Go.Proofs.YthabjihpjdlmoaaDoor
open Go.RowKit Go.Deep
set_option linter.unusedVariables false
set_option linter.unusedSimpArgs false
theorem fmD_bd {px py r : Int} (h : fmD px py r = true) : (-1099511627776 ≤ px ∧ px ≤ 1099511627776) ∧ (-1099511627776 ≤ py ∧ py ≤ 1099511627776) ∧ 0 ≤ r ∧ r ≤ 262144 := by
  unfold fmD at h; simp at h; omega
end Go.Proofs.YthabjihpjdlmoaaDoor
/- Slices of ways: what it means that one reads as two rows of numbers. -/
namespace Go.Proofs.YthabjihpjdlmoaaDoor
open Go.ChangeShapes Go.WideShapes Go.ChangeAt Go.RowKit Go.Deep
set_option linter.unusedVariables false
/-- The slice's n elements are the ways (f k, g k). -/
structure Vs (w : World) (B : Nat) (a : Option Addr) (n : Nat) (f g : Nat → Int) : Prop where
  num : ∀ k, k < n → Fx.I64 (f k) ∧ Fx.I64 (g k)
  rd : 0 < n → ∃ b off, a = some ⟨b, off, none⟩ ∧ b < B ∧ ∀ k, k < n → w.cell? ⟨b, off + k * 2, none⟩ = some (.int .i64 (f k)) ∧ w.cell? ⟨b, off + k * 2 + 1, none⟩ = some (.int .i64 (g k))
theorem Vs.nil (w : World) (B : Nat) (a : Option Addr) (f g : Nat → Int) : Vs w B a 0 f g := ⟨fun k h => absurd h (by omega), fun h => absurd h (by omega)⟩
theorem Vs.below {w w' : World} {B B' n : Nat} {a : Option Addr} {f g : Nat → Int} (h : Vs w B a n f g) (hb : Below B' w w') (hB : B ≤ B') : Vs w' B a n f g := ⟨h.num, fun hn => by
  obtain ⟨b, off, e, hlt, hc⟩ := h.rd hn
  exact ⟨b, off, e, hlt, fun k hk => ⟨(hb.cell (p := ⟨b, off + k * 2, none⟩) (Nat.lt_of_lt_of_le hlt hB)).trans (hc k hk).1, (hb.cell (p := ⟨b, off + k * 2 + 1, none⟩) (Nat.lt_of_lt_of_le hlt hB)).trans (hc k hk).2⟩⟩⟩
theorem Vs.mono {w : World} {B B' n : Nat} {a : Option Addr} {f g : Nat → Int} (h : Vs w B a n f g) (hB : B ≤ B') : Vs w B' a n f g := ⟨h.num, fun hn => by
  obtain ⟨b, off, e, hlt, hc⟩ := h.rd hn
  exact ⟨b, off, e, by omega, hc⟩⟩
end Go.Proofs.YthabjihpjdlmoaaDoor
