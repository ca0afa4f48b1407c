import Derived.Test.YtdpblimhfmfbnaaZts
import Derived.Test.YtdpblimhfmfbnaaZtp
import Derived.Test.YtdpblimhfmfbnaaZtq
import Derived.Test.YtdpblimhfmfbnaaZtd
import Derived.Test.YtdpblimhfmfbnaaZtk
import Derived.Test.YtdpblimhfmfbnaaZta
import Derived.IntWalk
import Derived.Deep.RegionHeld3
import Derived.Deep.QuietTactic
import Derived.BigQuiet
import Derived.Deep.RegionWith
import Derived.Deep.DeepCutAuto
import Derived.Deep.DeepFit
import Derived.Outline
import Derived.Test.YtdpblimhfmfbnaaZtf
/- The contracts of nearness of package vec and of the reference. -/
namespace Go.Proofs.Ytdpblimhfmfbnaa
open Go.RowKit
set_option linter.unusedVariables false
end Go.Proofs.Ytdpblimhfmfbnaa
/- Contracts of layer 17: discs. -/
namespace Go.Proofs.Ytdpblimhfmfbnaa
open Go.RowKit
set_option linter.unusedVariables false
theorem rad_cases (r : Int) : (¬ 0 < r ∧ r < 262144 ∧ Fx.radS r = 0) ∨ (0 < r ∧ 262144 < r ∧ Fx.radS r = 262144) ∨ (0 < r ∧ r < 262144 ∧ Fx.radS r = r) ∨ (r = 262144 ∧ Fx.radS r = 262144) := by
  unfold Fx.radS; (repeat' split) <;> omega
end Go.Proofs.Ytdpblimhfmfbnaa
/- Contracts of layer 17: what a disc meets. -/
namespace Go.Proofs.Ytdpblimhfmfbnaa
open Go.RowKit
set_option linter.unusedVariables false
theorem bsS_bd {x c : Int} (hx : -1099511627776 ≤ x ∧ x ≤ 1099511627776) (hc : 0 ≤ c ∧ c ≤ 16384) : 0 ≤ bsS x c ∧ bsS x c ≤ 1200000000000 := by
  unfold bsS; (repeat' split) <;> omega
theorem bcellg' {W w1 : World} (hb : Below W.heap.size W w1) : (∀ b o, b < W.heap.size → w1.cell? ⟨b, o, none⟩ = W.cell? ⟨b, o, none⟩) ∧ (∀ b o, b < W.heap.size → w1.frozen? ⟨b, o, none⟩ = W.frozen? ⟨b, o, none⟩) :=
  ⟨fun b o h => hb.cell (p := ⟨b, o, none⟩) h, fun b o h => hb.frozen (p := ⟨b, o, none⟩) h⟩
theorem m_wakes : meetsS 1 0 32768 32768 1 = true := by decide
end Go.Proofs.Ytdpblimhfmfbnaa
/- The contracts of package sector that make no list, and of its reference. -/
namespace Go.Proofs.Ytdpblimhfmfbnaa
open Go.RowKit
set_option linter.unusedVariables false
def Fx.szB (W H : Int) : Bool := decide (1 ≤ W ∧ W ≤ 128 ∧ 1 ≤ H ∧ H ≤ 128)
def Fx.acS (n : Int) : Int := (n + 8 - 1) / 8
def Fx.ofS (W t : Int) : Int := t % W / 8 + Fx.acS W * (t / W / 8)
theorem Fx.acS_bd {n : Int} (a : 1 ≤ n) (b : n ≤ 128) : 1 ≤ Fx.acS n ∧ Fx.acS n ≤ 16 := by unfold Fx.acS; omega
theorem hold0 {P : Program} {F : FuncId} {args : Array Value} {w w0 : World} {r : Ending} {B : Nat} (h : Calls P F args w fun e w' => e = r ∧ Below w.heap.size w w') (hB : Below B w0 w) (hs : B ≤ w.heap.size) : Calls P F args w fun e w' => e = r ∧ Below B w0 w' := h.mono fun e w' ⟨h1, h2⟩ => ⟨h1, hB.trans (h2.mono hs)⟩
theorem wr_in' {x : Int} (h : -9223372036854775808 ≤ x ∧ x ≤ 9223372036854775807) : IntKind.i64.wrap x = x := IntWalk.i64_in _ ⟨h.1, h.2⟩
end Go.Proofs.Ytdpblimhfmfbnaa
/- The contracts of package sector: Count and Of. -/
namespace Go.Proofs.Ytdpblimhfmfbnaa
open Go.RowKit
set_option linter.unusedVariables false
end Go.Proofs.Ytdpblimhfmfbnaa
/- Plain words of layer 20: the places about a goal, ring by ring. -/
namespace Go.Proofs.Ytdpblimhfmfbnaa
open Go.RowKit
set_option linter.unusedVariables false
set_option linter.unusedSimpArgs false
/-- Is t on the ring d about g, its column and row by multiples of gap? -/
def slX (gap d : Int) (x y a b : Int) : Bool := decide (max (max (x - a) (-(x - a))) (max (y - b) (-(y - b))) = d ∧ (x - a) % gap = 0 ∧ (y - b) % gap = 0)
def slP (W : Int) (g : Nat) (gap d : Int) (t : Nat) : Bool := slX gap d ((t : Int) % W) ((t : Int) / W) ((g : Int) % W) ((g : Int) / W)
def ringL (W : Int) (g n : Nat) (gap d : Int) : List Nat := (List.range n).filter (slP W g gap d)
def slF (W : Int) (g n : Nat) (gd : Nat → Bool) (gap d : Int) : List Nat := (ringL W g n gap d).filter gd
/-- All of the first f rings. -/
def slL (W : Int) (g n : Nat) (gd : Nat → Bool) (gap : Int) : Nat → List Nat
  | 0 => []
  | f + 1 => slL W g n gd gap f ++ slF W g n gd gap f
theorem filter_range_step {n : Nat} {p q : Nat → Bool} {k : Nat} (hk : k < n) (h1 : ∀ t, t < n → q t = (p t || decide (t = k))) (h2 : ∀ t, t < n → p t = true → t < k) : (List.range n).filter q = (List.range n).filter p ++ [k] := by
  obtain ⟨m, rfl⟩ : ∃ m, n = k + 1 + m := ⟨n - (k + 1), by omega⟩
  rw [List.range_add, List.range_succ]
  simp only [List.filter_append]
  have e1 : (List.range k).filter q = (List.range k).filter p := List.filter_congr fun t ht => by
    have := List.mem_range.1 ht
    rw [h1 t (by omega)]
    have : decide (t = k) = false := decide_eq_false (by omega)
    rw [this, Bool.or_false]
  have e2 : (List.map (fun x => k + 1 + x) (List.range m)).filter q = [] := by
    rw [List.filter_eq_nil_iff]
    intro t ht
    obtain ⟨j, hj, rfl⟩ := List.mem_map.1 ht
    have hj := List.mem_range.1 hj
    rw [h1 _ (by omega)]
    intro hh
    rw [Bool.or_eq_true] at hh
    rcases hh with hh | hh
    · have := h2 _ (by omega) hh; omega
    · have := of_decide_eq_true hh; omega
  have e3 : (List.map (fun x => k + 1 + x) (List.range m)).filter p = [] := by
    rw [List.filter_eq_nil_iff]
    intro t ht
    obtain ⟨j, hj, rfl⟩ := List.mem_map.1 ht
    have hj := List.mem_range.1 hj
    intro hh
    have := h2 _ (by omega) hh
    omega
  have e4 : [k].filter q = [k] := by
    rw [List.filter_cons_of_pos]
    · rfl
    · rw [h1 k (by omega)]; simp
  have e5 : [k].filter p = [] := by
    rw [List.filter_cons_of_neg]
    · rfl
    · intro hh
      have := h2 k (by omega) hh
      omega
  rw [e1, e2, e3, e4, e5]
  simp
theorem filter_range_same {n : Nat} {p q : Nat → Bool} (h : ∀ t, t < n → q t = p t) : (List.range n).filter q = (List.range n).filter p :=
  List.filter_congr fun t ht => h t (List.mem_range.1 ht)
/-- Before a row, and in it before a column. -/
def befP (W : Int) (g : Nat) (gap d row col : Int) (t : Nat) : Bool := slP W g gap d t && decide ((t : Int) / W < row ∨ ((t : Int) / W = row ∧ (t : Int) % W < col))
def befL (W : Int) (g n : Nat) (gap d row col : Int) : List Nat := (List.range n).filter (befP W g gap d row col)
structure SlOk (W H : Int) (n g : Nat) (gap d : Int) : Prop where
  w1 : 1 ≤ W
  w2 : W ≤ 128
  h1 : 1 ≤ H
  h2 : H ≤ 128
  nn : (n : Int) = W * H
  gn : g < n
  gp : gap = 1 ∨ gap = 3 ∨ gap = 5 ∨ gap = 7
  d0 : 0 ≤ d
  d1 : d % gap = 0
  d2 : d ≤ 300
section
variable {W H : Int} {n g : Nat} {gap d row col nx : Int}
theorem SlOk.xy (h : SlOk W H n g gap d) {t : Nat} (ht : t < n) : 0 ≤ (t : Int) % W ∧ (t : Int) % W < W ∧ 0 ≤ (t : Int) / W ∧ (t : Int) / W < H ∧ (t : Int) % W + W * ((t : Int) / W) = t := by
  have := h.w1
  have := h.nn
  exact ⟨Int.emod_nonneg _ (by omega), Int.emod_lt_of_pos _ (by omega), Int.ediv_nonneg (by omega) (by omega), Int.ediv_lt_of_lt_mul (by omega) (by rw [Int.mul_comm]; omega), Int.emod_add_mul_ediv _ _⟩
theorem slX_iff (x y a b : Int) : slX gap d x y a b = true ↔ max (max (x - a) (-(x - a))) (max (y - b) (-(y - b))) = d ∧ (x - a) % gap = 0 ∧ (y - b) % gap = 0 := by unfold slX; rw [decide_eq_true_iff]
/-- Nothing lies before the first row. -/
theorem bef_start (h : SlOk W H n g gap d) : befL W g n gap d ((g : Int) / W - d) ((g : Int) % W - d) = [] := by
  unfold befL
  rw [List.filter_eq_nil_iff]
  intro t ht hh
  have ht := List.mem_range.1 ht
  unfold befP at hh
  rw [Bool.and_eq_true] at hh
  obtain ⟨h1, h2⟩ := hh
  have h2 := of_decide_eq_true h2
  have h1 := (slX_iff _ _ _ _).1 h1
  omega
/-- A row's end is the next one's beginning. -/
theorem bef_row (h : SlOk W H n g gap d) {c c' : Int} (hr : (row - (g : Int) / W) % gap = 0) (hc : (g : Int) % W + d < c) (hc' : c' = (g : Int) % W - d) : befL W g n gap d (row + gap) c' = befL W g n gap d row c := by
  unfold befL
  refine filter_range_same fun t ht => ?_
  unfold befP
  by_cases hs : slP W g gap d t = true
  · rw [hs]
    have h1 := (slX_iff _ _ _ _).1 hs
    obtain ⟨a, b, e⟩ := h1
    congr 1
    have hd := h.d1
    have : ((t : Int) / W < row + gap ∨ (t : Int) / W = row + gap ∧ (t : Int) % W < c') ↔ ((t : Int) / W < row ∨ (t : Int) / W = row ∧ (t : Int) % W < c) := by
      rcases h.gp with q | q | q | q <;> subst q <;> omega
    exact decide_eq_decide.2 this
  · rw [Bool.not_eq_true] at hs
    rw [hs]
    rfl
/-- All is before a row behind the last one. -/
theorem bef_end (h : SlOk W H n g gap d) (hr : (g : Int) / W + d < row) : befL W g n gap d row col = ringL W g n gap d := by
  unfold befL ringL
  refine filter_range_same fun t ht => ?_
  unfold befP
  by_cases hs : slP W g gap d t = true
  · rw [hs]
    have h1 := (slX_iff _ _ _ _).1 hs
    have : decide ((t : Int) / W < row ∨ ((t : Int) / W = row ∧ (t : Int) % W < col)) = true := decide_eq_true (by omega)
    rw [this]
    rfl
  · rw [Bool.not_eq_true] at hs
    rw [hs]
    rfl
/-- What is known of a place in the loops. -/
structure SlAt (gx gy gap d row col nx : Int) : Prop where
  r0 : gy - d ≤ row
  r1 : row ≤ gy + d
  rm : (row - gy) % gap = 0
  c0 : gx - d ≤ col
  c1 : col ≤ gx + d
  cm : (col - gx) % gap = 0
  nx : ((row = gy - d ∨ row = gy + d) ∧ nx = gap) ∨ (gy - d < row ∧ row < gy + d ∧ nx = 2 * d ∧ (col = gx - d ∨ col = gx + d))
theorem SlAt.on (q : SlAt ((g : Int) % W) ((g : Int) / W) gap d row col nx) : slX gap d col row ((g : Int) % W) ((g : Int) / W) = true := by
  rw [slX_iff]
  obtain ⟨a, b, c, d, e, f, i⟩ := q
  exact ⟨by omega, f, c⟩
theorem bef_in (h : SlOk W H n g gap d) (q : SlAt ((g : Int) % W) ((g : Int) / W) gap d row col nx) (k : Nat) (hk : (k : Int) = col + W * row) (x0 : 0 ≤ col) (x1 : col < W) (y0 : 0 ≤ row) (y1 : row < H) : k < n ∧ befL W g n gap d row (col + nx) = befL W g n gap d row col ++ [k] := by
  have w1 := h.w1
  have hn := h.nn
  have hkn : k < n := by
    have q : W * (row + 1) ≤ W * H := Int.mul_le_mul_of_nonneg_left (by omega) (by omega)
    rw [Int.mul_add] at q
    omega
  have kx : (k : Int) % W = col := by rw [hk, Int.add_mul_emod_self_left, Int.emod_eq_of_lt x0 x1]
  have ky : (k : Int) / W = row := by rw [hk, Int.add_mul_ediv_left _ _ (by omega), Int.ediv_eq_zero_of_lt x0 x1]; omega
  refine ⟨hkn, ?_⟩
  have hon := q.on
  unfold befL
  refine filter_range_step hkn (fun t ht => ?_) (fun t ht hp => ?_)
  · obtain ⟨t0, t1, t2, t3, te⟩ := h.xy ht
    by_cases e : t = k
    · subst e
      unfold befP slP
      rw [kx, ky, hon]
      have hd := h.d0
      have hg := h.gp
      have hnx : 0 < nx := by have := q.nx; omega
      have : decide (row < row ∨ row = row ∧ col < col + nx) = true := decide_eq_true (by omega)
      rw [this]
      simp
    · have e' : decide (t = k) = false := decide_eq_false e
      rw [e', Bool.or_false]
      unfold befP
      by_cases hs : slP W g gap d t = true
      · rw [hs]
        obtain ⟨s1, s2, s3⟩ := (slX_iff _ _ _ _).1 hs
        have hne : ¬ ((t : Int) / W = row ∧ (t : Int) % W = col) := by
          rintro ⟨e1, e2⟩
          rw [e1, e2] at te
          omega
        congr 1
        have hd0 := h.d0
        have hd1 := h.d1
        obtain ⟨a, b, c, d', e', f, i⟩ := q
        refine decide_eq_decide.2 ?_
        generalize (t : Int) / W = ty at *
        generalize (t : Int) % W = tx at *
        generalize (g : Int) / W = gy at *
        generalize (g : Int) % W = gx at *
        rcases h.gp with q | q | q | q <;> subst q <;> omega
      · rw [Bool.not_eq_true] at hs
        rw [hs]
        rfl
  · obtain ⟨t0, t1, t2, t3, te⟩ := h.xy ht
    unfold befP at hp
    rw [Bool.and_eq_true] at hp
    have hp := of_decide_eq_true hp.2
    rcases hp with hp | ⟨hp, hp2⟩
    · have q : W * ((t : Int) / W + 1) ≤ W * row := Int.mul_le_mul_of_nonneg_left (by omega) (by omega)
      rw [Int.mul_add] at q
      omega
    · rw [hp] at te
      omega
theorem bef_out (h : SlOk W H n g gap d) (q : SlAt ((g : Int) % W) ((g : Int) / W) gap d row col nx) (ho : ¬ (0 ≤ col ∧ col < W ∧ 0 ≤ row ∧ row < H)) : befL W g n gap d row (col + nx) = befL W g n gap d row col := by
  unfold befL
  refine filter_range_same fun t ht => ?_
  obtain ⟨t0, t1, t2, t3, te⟩ := h.xy ht
  unfold befP
  by_cases hs : slP W g gap d t = true
  · rw [hs]
    obtain ⟨s1, s2, s3⟩ := (slX_iff _ _ _ _).1 hs
    congr 1
    have hd0 := h.d0
    have hd1 := h.d1
    obtain ⟨a, b, c, d', e', f, i⟩ := q
    refine decide_eq_decide.2 ?_
    generalize (t : Int) / W = ty at *
    generalize (t : Int) % W = tx at *
    generalize (g : Int) / W = gy at *
    generalize (g : Int) % W = gx at *
    rcases h.gp with q | q | q | q <;> subst q <;> omega
  · rw [Bool.not_eq_true] at hs
    rw [hs]
    rfl
/-- No ring that is no multiple of the gap has a place. -/
theorem ring_none (h : gap = 1 ∨ gap = 3 ∨ gap = 5 ∨ gap = 7) {f : Int} (hf : f % gap ≠ 0) : ringL W g n gap f = [] := by
  unfold ringL
  rw [List.filter_eq_nil_iff]
  intro t ht hh
  obtain ⟨s1, s2, s3⟩ := (slX_iff _ _ _ _).1 hh
  generalize (t : Int) / W = ty at *
  generalize (t : Int) % W = tx at *
  generalize (g : Int) / W = gy at *
  generalize (g : Int) % W = gx at *
  rcases h with q | q | q | q <;> subst q <;> omega
end
theorem slL_skip (W : Int) (g n : Nat) (gd : Nat → Bool) {gap : Int} (h : gap = 1 ∨ gap = 3 ∨ gap = 5 ∨ gap = 7) {f : Nat} (hf : (f : Int) % gap = 0) : ∀ k : Nat, (k : Int) < gap → slL W g n gd gap (f + 1 + k) = slL W g n gd gap (f + 1)
  | 0, _ => rfl
  | k + 1, hk => by
    show slL W g n gd gap (f + 1 + k) ++ slF W g n gd gap (f + 1 + k : Nat) = _
    rw [slL_skip W g n gd h hf k (by omega)]
    unfold slF
    rw [ring_none h (by rcases h with q | q | q | q <;> subst q <;> omega)]
    simp
end Go.Proofs.Ytdpblimhfmfbnaa
