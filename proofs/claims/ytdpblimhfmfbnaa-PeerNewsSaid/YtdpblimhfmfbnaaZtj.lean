import Derived.Test.YtdpblimhfmfbnaaZti
import Derived.WalkLawsBesides
import Derived.BigGuardPart
import Derived.Deep.QuietTactic
import Derived.BigQuiet
import Derived.Deep.RegionWith
import Derived.Deep.RegionHeld3
import Derived.Deep.DeepCutAuto
import Derived.Deep.DeepFit
import Derived.Outline
import Derived.Test.YtdpblimhfmfbnaaZth
import Derived.Test.YtdpblimhfmfbnaaZta
/- Layer 9, plain: how much room there is, as a number. -/
namespace Go.Proofs.Ytdpblimhfmfbnaa
set_option linter.unusedVariables false
/-- The greatest r up to k with q r. -/
def grt (q : Nat → Bool) : Nat → Nat
  | 0 => 0
  | k + 1 => if q (k + 1) then k + 1 else grt q k
theorem grt_iff {q : Nat → Bool} (h0 : q 0 = true) (ha : ∀ r, q (r + 1) = true → q r = true) : ∀ (k r : Nat), r ≤ grt q k ↔ r ≤ k ∧ q r = true
  | 0, r => by
    unfold grt
    constructor
    · intro h; obtain rfl : r = 0 := by omega
      exact ⟨by omega, h0⟩
    · exact fun h => h.1
  | k + 1, r => by
    have hd : ∀ d r : Nat, q (r + d) = true → q r = true := by
      intro d
      induction d with
      | zero => intro r h; exact h
      | succ d ih => intro r h; exact ih r (ha (r + d) h)
    unfold grt
    split
    · rename_i hq
      constructor
      · intro h
        refine ⟨h, ?_⟩
        obtain ⟨d, e⟩ : ∃ d, k + 1 = r + d := ⟨k + 1 - r, by omega⟩
        rw [e] at hq
        exact hd d r hq
      · exact fun h => h.1
    · rename_i hq
      rw [grt_iff h0 ha k r]
      constructor
      · exact fun h => ⟨by omega, h.2⟩
      · rintro ⟨h1, h2⟩
        refine ⟨?_, h2⟩
        rcases Nat.lt_or_ge r (k + 1) with h | h
        · omega
        · obtain rfl : r = k + 1 := by omega
          exact absurd h2 hq
theorem fq_anti {op : Int → Int → Bool} : ∀ (r : Nat) (x y : Int), fqB op (r + 1) x y = true → fqB op r x y = true
  | 0, _, _, _ => rfl
  | r + 1, x, y, h => by
    rw [fqB] at h ⊢
    simp only [Bool.and_eq_true] at h ⊢
    obtain ⟨⟨⟨⟨h0, h1⟩, h2⟩, h3⟩, h4⟩ := h
    exact ⟨⟨⟨⟨h0, fq_anti r _ _ h1⟩, fq_anti r _ _ h2⟩, fq_anti r _ _ h3⟩, fq_anti r _ _ h4⟩
theorem sq_anti {op : Int → Int → Bool} (r : Nat) (x y : Int) (h : sqB op (r + 1) x y = true) : sqB op r x y = true := by
  match r, h with
  | 0, _ => rfl
  | r + 1, h =>
    rw [sq_iff] at h ⊢
    exact fun i j a b c d => h i j (by push_cast; omega) (by push_cast; omega) (by push_cast; omega) (by push_cast; omega)
/-- The tiles of a ground as a plane: nothing beside it. -/
def opXY (W H : Int) (f : Nat → Bool) (x y : Int) : Bool := decide (0 ≤ x ∧ x < W ∧ 0 ≤ y ∧ y < H) && f (x + W * y).toNat
theorem opXY_in {W H : Int} {f : Nat → Bool} {x y : Int} (h : opXY W H f x y = true) : 0 ≤ x ∧ x < W ∧ 0 ≤ y ∧ y < H := by
  unfold opXY at h; simp at h; exact ⟨h.1.1, h.1.2.1, h.1.2.2.1, h.1.2.2.2⟩
theorem fq_bd {W H : Int} {f : Nat → Bool} (hW : W ≤ 128) {r : Nat} {x y : Int} (h : fqB (opXY W H f) r x y = true) : r ≤ 128 := by
  match r, h with
  | 0, _ => omega
  | r + 1, h =>
    have a := opXY_in (fq_op r x y h 0 0 (by omega) (by omega) (by omega) (by omega))
    have b := opXY_in (fq_op r x y h (-(r : Int)) 0 (by omega) (by omega) (by omega) (by omega))
    omega
/-- Room above and left; room at all sides. -/
def fV (W H : Int) (f : Nat → Bool) (x y : Int) : Nat := grt (fun r => fqB (opXY W H f) r x y) 128
def sV (W H : Int) (f : Nat → Bool) (x y : Int) : Nat := grt (fun r => sqB (opXY W H f) r x y) 128
theorem fV_iff {W H : Int} {f : Nat → Bool} (hW : W ≤ 128) (x y : Int) (r : Nat) : r ≤ fV W H f x y ↔ fqB (opXY W H f) r x y = true := by
  unfold fV
  rw [grt_iff rfl (fun r h => fq_anti r x y h)]
  exact ⟨fun h => h.2, fun h => ⟨fq_bd hW h, h⟩⟩
theorem sV_iff {W H : Int} {f : Nat → Bool} (hW : W ≤ 128) (x y : Int) (r : Nat) : r ≤ sV W H f x y ↔ sqB (opXY W H f) r x y = true := by
  unfold sV
  rw [grt_iff rfl (fun r h => sq_anti r x y h)]
  exact ⟨fun h => h.2, fun h => ⟨fq_bd hW (sq_fq r x y h), h⟩⟩
theorem nat_eq {a b : Nat} (h : ∀ r, r ≤ a ↔ r ≤ b) : a = b := Nat.le_antisymm ((h a).1 (Nat.le_refl _)) ((h b).2 (Nat.le_refl _))
theorem fV_no {W H : Int} {f : Nat → Bool} (hW : W ≤ 128) {x y : Int} (h : opXY W H f x y = false) : fV W H f x y = 0 := by
  have := (fV_iff (f := f) hW (H := H) x y 1)
  rw [fqB, h] at this
  simp at this
  omega
theorem sV_no {W H : Int} {f : Nat → Bool} (hW : W ≤ 128) {x y : Int} (h : opXY W H f x y = false) : sV W H f x y = 0 := by
  have := (sV_iff (f := f) hW (H := H) x y 1)
  rw [sqB, h] at this
  simp at this
  omega
theorem fV_rec {W H : Int} {f : Nat → Bool} (hW : W ≤ 128) {x y : Int} (h : opXY W H f x y = true) :
    fV W H f x y = 1 + min (min (min (fV W H f (x - 1) y) (fV W H f (x - 1) (y - 1))) (fV W H f x (y - 1))) (fV W H f (x + 1) (y - 1)) := by
  refine nat_eq fun r => ?_
  rw [fV_iff hW]
  match r with
  | 0 => simp [fqB]
  | r + 1 =>
    rw [fqB, h]
    simp only [Bool.true_and, Bool.and_eq_true, ← fV_iff hW]
    omega
theorem sV_rec {W H : Int} {f : Nat → Bool} (hW : W ≤ 128) {x y : Int} (h : opXY W H f x y = true) :
    sV W H f x y = min (fV W H f x y) (1 + min (min (min (sV W H f (x + 1) y) (sV W H f (x - 1) (y + 1))) (sV W H f x (y + 1))) (sV W H f (x + 1) (y + 1))) := by
  refine nat_eq fun r => ?_
  rw [sV_iff hW, ← bq_sq]
  match r with
  | 0 => simp [bqB]
  | r + 1 =>
    rw [bqB]
    simp only [bq_sq, Bool.and_eq_true, ← fV_iff hW, ← sV_iff hW]
    omega
theorem fV_le {W H : Int} {f : Nat → Bool} (x y : Int) : fV W H f x y ≤ 128 := by
  unfold fV
  have : ∀ (q : Nat → Bool) k, grt q k ≤ k := by
    intro q k
    induction k with
    | zero => exact Nat.le_refl _
    | succ k ih => unfold grt; split <;> omega
  exact this _ _
theorem sV_le {W H : Int} {f : Nat → Bool} (x y : Int) : sV W H f x y ≤ 128 := by
  unfold sV
  have : ∀ (q : Nat → Bool) k, grt q k ≤ k := by
    intro q k
    induction k with
    | zero => exact Nat.le_refl _
    | succ k ih => unfold grt; split <;> omega
  exact this _ _
end Go.Proofs.Ytdpblimhfmfbnaa
/- Layer 9: the least number on one side of a tile. -/
namespace Go.Proofs.Ytdpblimhfmfbnaa
open Go.RowKit
set_option linter.unusedVariables false
set_option linter.unusedSimpArgs false
theorem min2_if (x y : Int) : (if y < x then y else x) = min x y := by
  rw [Int.min_def]; split <;> split <;> omega
theorem run_min4 (P : Program) (ts : Array TypeId) (t : TypeId) (w : World) (x y z u : Int) : (Builtin.min_ ts t #[.int .i64 x, .int .i64 y, .int .i64 z, .int .i64 u]).run P w = .ok (.int .i64 (min (min (min x y) z) u)) w := by
  simp [Builtin.min_, Builtin.min2]
  rw [min2_if x y, min2_if (min x y) z, min2_if (min (min x y) z) u]
  simp only [Int.min_def]; split <;> split <;> split <;> (try split) <;> (try split) <;> omega
theorem run_min2 (P : Program) (ts : Array TypeId) (t : TypeId) (w : World) (x y : Int) : (Builtin.min_ ts t #[.int .i64 x, .int .i64 y]).run P w = .ok (.int .i64 (min x y)) w := by
  simp [Builtin.min_, Builtin.min2]
  try rw [min2_if x y]
end Go.Proofs.Ytdpblimhfmfbnaa
/- Layer 9: clear.Grid. -/
namespace Go.Proofs.Ytdpblimhfmfbnaa
open Go.RowKit
set_option linter.unusedVariables false
set_option linter.unusedSimpArgs false
/-- Room above and left of a tile; room at all sides of it. -/
def fC (W H : Int) (f : Nat → Bool) (k : Nat) : Nat := fV W H f ((k : Int) % W) ((k : Int) / W)
def sC (W H : Int) (f : Nat → Bool) (k : Nat) : Nat := sV W H f ((k : Int) % W) ((k : Int) / W)
theorem xy_at' {W x y : Int} {j : Nat} (h : (j : Int) = x + W * y) (x0 : 0 ≤ x) (x1 : x < W) : (j : Int) % W = x ∧ (j : Int) / W = y := by
  rw [h, Int.add_mul_emod_self_left, Int.add_mul_ediv_left _ _ (by omega), Int.emod_eq_of_lt x0 x1, Int.ediv_eq_zero_of_lt x0 x1]
  exact ⟨rfl, by omega⟩
theorem fC_at {W H : Int} {f : Nat → Bool} {x y : Int} {j : Nat} (h : (j : Int) = x + W * y) (x0 : 0 ≤ x) (x1 : x < W) : fC W H f j = fV W H f x y := by
  obtain ⟨h1, h2⟩ := xy_at' h x0 x1
  unfold fC; rw [h1, h2]
theorem sC_at {W H : Int} {f : Nat → Bool} {x y : Int} {j : Nat} (h : (j : Int) = x + W * y) (x0 : 0 ≤ x) (x1 : x < W) : sC W H f j = sV W H f x y := by
  obtain ⟨h1, h2⟩ := xy_at' h x0 x1
  unfold sC; rw [h1, h2]
/-- What a tile's place says. -/
structure At (W H : Int) (n k : Nat) (x y : Int) : Prop where
  e : (k : Int) = x + W * y
  x0 : 0 ≤ x
  x1 : x < W
  y0 : 0 ≤ y
  y1 : y < H
  m : (k : Int) % W = x
  d : (k : Int) / W = y
theorem at_of {W H : Int} {n k : Nat} (w1 : 1 ≤ W) (hn : (n : Int) = W * H) (hk : k < n) : At W H n k ((k : Int) % W) ((k : Int) / W) := by
  have em := Int.emod_add_mul_ediv (k : Int) W
  exact ⟨by omega, Int.emod_nonneg _ (by omega), Int.emod_lt_of_pos _ (by omega), Int.ediv_nonneg (by omega) (by omega), Int.ediv_lt_of_lt_mul (by omega) (by rw [Int.mul_comm]; omega), rfl, rfl⟩
theorem op_at {W H : Int} {n k : Nat} {x y : Int} {f : Nat → Bool} (h : At W H n k x y) : opXY W H f x y = f k := by
  unfold opXY
  rw [decide_eq_true (show 0 ≤ x ∧ x < W ∧ 0 ≤ y ∧ y < H from ⟨h.x0, h.x1, h.y0, h.y1⟩), ← h.e]
  simp
theorem op_out {W H x y : Int} {f : Nat → Bool} (h : ¬ (0 ≤ x ∧ x < W ∧ 0 ≤ y ∧ y < H)) : opXY W H f x y = false := by
  unfold opXY; rw [decide_eq_false h]; rfl
/-- The least of the four above and left; below and right. -/
def uL (W H : Int) (f : Nat → Bool) (x y : Int) : Nat := min (min (min (fV W H f (x - 1) y) (fV W H f (x - 1) (y - 1))) (fV W H f x (y - 1))) (fV W H f (x + 1) (y - 1))
def dL (W H : Int) (f : Nat → Bool) (x y : Int) : Nat := min (min (min (sV W H f (x + 1) y) (sV W H f (x - 1) (y + 1))) (sV W H f x (y + 1))) (sV W H f (x + 1) (y + 1))
theorem uL_edge {W H : Int} {f : Nat → Bool} (hW : W ≤ 128) {x y : Int} (x0 : 0 ≤ x) (h : x = 0 ∨ x = W - 1 ∨ y = 0) : uL W H f x y = 0 := by
  unfold uL
  rcases h with h | h | h
  · rw [fV_no hW (x := x - 1) (y := y) (op_out (by omega))]; simp
  · rw [fV_no hW (x := x + 1) (y := y - 1) (op_out (by omega))]; simp
  · rw [fV_no hW (x := x) (y := y - 1) (op_out (by omega))]; simp
theorem dL_edge {W H : Int} {f : Nat → Bool} (hW : W ≤ 128) {x y : Int} (x0 : 0 ≤ x) (h : x = 0 ∨ x = W - 1 ∨ y = H - 1) : dL W H f x y = 0 := by
  unfold dL
  rcases h with h | h | h
  · rw [sV_no hW (x := x - 1) (y := y + 1) (op_out (by omega))]; simp
  · rw [sV_no hW (x := x + 1) (y := y) (op_out (by omega))]; simp
  · rw [sV_no hW (x := x) (y := y + 1) (op_out (by omega))]; simp
end Go.Proofs.Ytdpblimhfmfbnaa
/- Layer 9: clear.Grid, walked. -/
namespace Go.Proofs.Ytdpblimhfmfbnaa
open Go.RowKit
set_option linter.unusedVariables false
set_option linter.unusedSimpArgs false
end Go.Proofs.Ytdpblimhfmfbnaa
/- Arguments that hold slices of numbers, of ways, of bytes: what is known of them. -/
namespace Go.Proofs.Ytdpblimhfmfbnaa
open Go.ChangeShapes Go.WideShapes Go.ChangeAt Go.RowKit Go.Deep
set_option linter.unusedVariables false
theorem i64q_of_wf {n : Int} (h : (Lit.int .i64 n).wf = true) : I64' n := by
  have := bounds_i64 h
  unfold I64'; omega
theorem vecq_of {H : Type} {enc : TypeId × Value → H} {w : World} {base : Nat} {spare : Nat → Bool} {held : Bool} {fuel : Nat} {x : DataW H × List MemPlace} {c0 c1 : Value}
    (hf : DataW.trod enc Try.prog w base spare held fuel 48 [c0, c1] = some x) : ∃ x y : Int, c0 = .int .i64 x ∧ c1 = .int .i64 y ∧ I64' x ∧ I64' y := by
  have h2 : Try.prog.cellsOf 2 = 1 := by kernel_rfl
  obtain ⟨ys, n', _, _, _, hyl, hg⟩ := DataW.trod_struct Try.underlying48 hf
  match ys, hyl with
  | [y0, y1], _ =>
    have g0 := hg 0 _ rfl
    have g1 := hg 1 _ rfl
    simp [h2] at g0 g1
    obtain ⟨x0, e0, _, w0⟩ := DataW.trod_int Try.underlying2 g0
    obtain ⟨x1, e1, _, w1⟩ := DataW.trod_int Try.underlying2 g1
    simp at e0 e1
    exact ⟨x0, x1, e0, e1, i64q_of_wf w0, i64q_of_wf w1⟩

/-- The slice's n elements are the ways (f k, g k). -/
structure Vq (w : World) (B : Nat) (a : Option Addr) (n : Nat) (f g : Nat → Int) : Prop where
  num : ∀ k, k < n → I64' (f k) ∧ I64' (g k)
  rd : 0 < n → ∃ b off, a = some ⟨b, off, none⟩ ∧ b < B ∧ ∀ k, k < n → w.cell? ⟨b, off + k * 2, none⟩ = some (.int .i64 (f k)) ∧ w.cell? ⟨b, off + k * 2 + 1, none⟩ = some (.int .i64 (g k))
theorem Vq.nil (w : World) (B : Nat) (a : Option Addr) (f g : Nat → Int) : Vq w B a 0 f g := ⟨fun k h => absurd h (by omega), fun h => absurd h (by omega)⟩
theorem Vq.below {w w' : World} {B B' n : Nat} {a : Option Addr} {f g : Nat → Int} (h : Vq w B a n f g) (hb : Below B' w w') (hB : B ≤ B') : Vq w' B a n f g := ⟨h.num, fun hn => by
  obtain ⟨b, off, e, hlt, hc⟩ := h.rd hn
  exact ⟨b, off, e, hlt, fun k hk => ⟨(hb.cell (p := ⟨b, off + k * 2, none⟩) (Nat.lt_of_lt_of_le hlt hB)).trans (hc k hk).1, (hb.cell (p := ⟨b, off + k * 2 + 1, none⟩) (Nat.lt_of_lt_of_le hlt hB)).trans (hc k hk).2⟩⟩⟩
theorem Vq.mono {w : World} {B B' n : Nat} {a : Option Addr} {f g : Nat → Int} (h : Vq w B a n f g) (hB : B ≤ B') : Vq w B' a n f g := ⟨h.num, fun hn => by
  obtain ⟨b, off, e, hlt, hc⟩ := h.rd hn
  exact ⟨b, off, e, by omega, hc⟩⟩
end Go.Proofs.Ytdpblimhfmfbnaa
/- The argument of the statements of layer 6: a ground, tiles, places. -/
namespace Go.Proofs.Ytdpblimhfmfbnaa
open Go.ChangeShapes Go.WideShapes Go.ChangeAt Go.RowKit Go.Deep
set_option linter.unusedVariables false
def Asks6 (w : World) (v : Value) : Prop := ∃ (W H : Int) (a : Option Addr) (n c : Nat) (xs : List Int) (ta : Option Addr) (tn tc : Nat) (ts : List Int) (pa : Option Addr) (pn pc : Nat) (f g : Nat → Int),
  v = .agg #[.int .i64 W, .int .i64 H, .slice a n c, .slice ta tn tc, .slice pa pn pc] ∧ I64' W ∧ I64' H ∧ n ≤ 9223372036854775807 ∧ tn ≤ 9223372036854775807 ∧ pn ≤ 9223372036854775807 ∧ By w w.heap.size a n xs ∧ Nq w w.heap.size ta tn ts ∧ Vq w w.heap.size pa pn f g
theorem hsz_of {w X : World} {o : Obj} (h : Below (w.heap.size + 1) (w.alloc o) X) : w.heap.size + 1 ≤ X.heap.size := by simpa using h.size
def heavyB (n tn pn : Nat) : Bool := decide (20000 < n ∨ 60 < tn ∨ 60 < pn)
end Go.Proofs.Ytdpblimhfmfbnaa
