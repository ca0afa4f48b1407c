import Derived.Test.YtifnmgbeepgfiaaDg
import Derived.Test.YtifnmgbeepgfiaaDf
import Derived.Deep.QuietTactic
import Derived.BigQuiet
/- Arguments that hold slices of numbers, of ways, grounds: what is known of them. -/
namespace Go.Proofs.Ytifnmgbeepgfiaa
open Go.ChangeShapes Go.WideShapes Go.ChangeAt Go.RowKit Go.Deep
set_option linter.unusedVariables false
end Go.Proofs.Ytifnmgbeepgfiaa
/- Layer 10: numbers compared; wakes. -/
namespace Go.Proofs.Ytifnmgbeepgfiaa
open Go.RowKit
set_option linter.unusedVariables false
theorem eqn_yes (a a' : Option Addr) (n c c' B B' : Nat) (xs : List Int) (w : World) (h : Nq w B a n xs) (h' : Nq w B' a' n xs) (hn : n ≤ 1099511627776) :
    Calls Try.prog 12 #[.slice a n c, .slice a' n c'] w fun e w' => e = .returned (.bool true) ∧ ∃ m, w' = w.drewN m := by
  have H := Hk.mk h
  have H' := Hk.mk h'
  clear h h'
  go_enter Try.func12, Try.ntmps12
  go_wp2
  go_loopw [5] (fun i wr => ∃ k : Nat, k ≤ n ∧ i = .int .i64 k ∧ Hk (∃ m, wr = w.drewN m)) (fun i _ => n - (intOf i).toNat)
  case atStart => exact ⟨0, Nat.zero_le _, rfl, ⟨0, rfl⟩⟩
  case round =>
    obtain ⟨k, hk, rfl, HB⟩ := hrel
    by_cases hlt : k < n
    · obtain ⟨b, off, rfl, hbl, hc⟩ := H.out.rd (by omega)
      obtain ⟨b', off', rfl, hbl', hc'⟩ := H'.out.rd (by omega)
      have hcx : wr.cell? ⟨b, off + k, none⟩ = some (.int .i64 (xs.getD k 0)) := by obtain ⟨m, rfl⟩ := HB.out; exact hc k hlt
      have hcy : wr.cell? ⟨b', off' + k, none⟩ = some (.int .i64 (xs.getD k 0)) := by obtain ⟨m, rfl⟩ := HB.out; exact hc' k hlt
      clear hc hc'
      generalize xs.getD k 0 = x at *
      have i1 : (0 : Int) ≤ (k : Int) := by omega
      have i2 : (k : Int) < (n : Int) := by omega
      go_wp2
      go_quiet (fail)
      go_wp2
      go_roundw
      case rel => exact ⟨k + 1, by omega, by go_num, ⟨by obtain ⟨m, rfl⟩ := HB.out; exact ⟨_, by rw [World.drewN_drewN]⟩⟩⟩
      case measure => simp [intOf]; omega
    · have hkn : k = n := by omega
      subst hkn
      go_wp2
      go_ret
      exact ⟨rfl, HB.out⟩
theorem num10_any (x : Int) (w : World) : Calls Try.prog 11 #[.int .i64 x] w fun e w' => e = .returned (.int .i64 x) ∧ w = w' := by
  go_enter Try.func11, Try.ntmps11
  go_wp2
  go_ret
  exact ⟨rfl, rfl⟩
theorem nq_two (w : World) (G : Nat) (B : Nat) (hG : G < B) (g0 : w.cell? ⟨G, 0, none⟩ = some (.int .i64 0)) (g1 : w.cell? ⟨G, 1, none⟩ = some (.int .i64 0)) : Nq w B (some ⟨G, 0, none⟩) 2 [0, 0] := ⟨rfl, fun _ => ⟨G, 0, rfl, hG, fun k hk => by
  match k, hk with
  | 0, _ => exact g0
  | 1, _ => exact g1⟩⟩
set_option maxHeartbeats 1600000 in
theorem wakes10_any (w : World) : Calls Try.prog 15 #[] w fun e w' => e = .returned (.bool true) ∧ Below w.heap.size w w' := by
  have hb0 : Below w.heap.size w (w.alloc (.cells #[.bool true, .bool true] 4)) := (Below.refl _ _).alloc (Nat.le_refl _) _
  have f0 : (w.alloc (.cells #[.bool true, .bool true] 4)).cell? ⟨w.heap.size, 0, none⟩ = some (.bool true) := by go_simp
  have f1 : (w.alloc (.cells #[.bool true, .bool true] 4)).cell? ⟨w.heap.size, 1, none⟩ = some (.bool true) := by go_simp
  go_enter Try.func15, Try.ntmps15
  go_wp2_with (first | (go_at_call 10; (with_reducible refine (parts10 w.heap.size _ f0 f1).mono ?_); rintro e w1 ⟨G, rfl, g0, g1, hb1⟩; have HB1 := Hk.mk (hb0.trans (hb1.mono (by simp))); clear hb1 hb0 f0 f1; have hG : G < w1.heap.size := World.block_lt_of_cell? _ _ g0) | (go_at_call 11; (with_reducible refine (num10_any _ _).mono ?_); rintro e w' ⟨rfl, rfl⟩) | (go_at_call 12; go_must (refine (eqn_yes (some ⟨G, 0, none⟩) (some ⟨w1.heap.size, 0, none⟩) 2 2 2 (w1.heap.size + 1) (w1.heap.size + 1) [0, 0] _ (nq_two _ G _ (by omega) ?_ ?_) (nq_two _ _ _ (by omega) (by go_simp) (by go_simp)) (by omega)).mono ?_); (exact ((((Below.refl _ _).alloc (Nat.le_refl _) _).cell (p := ⟨G, 0, none⟩) hG).trans g0)); (exact ((((Below.refl _ _).alloc (Nat.le_refl _) _).cell (p := ⟨G, 1, none⟩) hG).trans g1)); rintro e w4 ⟨rfl, m4, rfl⟩))
  go_ret
  exact ⟨rfl, below_drewN (HB1.out.alloc HB1.out.size _) _⟩
end Go.Proofs.Ytifnmgbeepgfiaa
/- The argument of the statements of layer 17. -/
namespace Go.Proofs.Ytifnmgbeepgfiaa
open Go.ChangeShapes Go.WideShapes Go.ChangeAt Go.RowKit Go.Deep
set_option linter.unusedVariables false
/-- The slice reads as these numbers of 64 bits. -/
structure N64 (w : World) (B : Nat) (a : Option Addr) (n : Nat) (f : Nat → Int) : Prop where
  num : ∀ k, k < n → Fx.I64 (f k)
  rd : 0 < n → ∃ b off, a = some ⟨b, off, none⟩ ∧ b < B ∧ ∀ k, k < n → w.cell? ⟨b, off + k, none⟩ = some (.int .i64 (f k))
theorem N64.below {w w' : World} {B B' n : Nat} {a : Option Addr} {f : Nat → Int} (h : N64 w B a n f) (hb : Below B' w w') (hB : B ≤ B') : N64 w' B a n f := ⟨h.num, fun hn => by
  obtain ⟨b, off, e, hlt, hc⟩ := h.rd hn
  exact ⟨b, off, e, hlt, fun k hk => (hb.cell (p := ⟨b, off + k, none⟩) (Nat.lt_of_lt_of_le hlt hB)).trans (hc k hk)⟩⟩
def Asks17 (w : World) (v : Value) : Prop := ∃ (W H : Int) (a : Option Addr) (n c : Nat) (xs : List Int) (la : Option Addr) (ln lc : Nat) (cl : Int) (ta : Option Addr) (tn tc : Nat) (ts : List Int) (pa : Option Addr) (pn pc : Nat) (f g : Nat → Int) (ra : Option Addr) (rn rc : Nat) (q : Nat → Int),
  v = .agg #[.int .i64 W, .int .i64 H, .slice a n c, .slice la ln lc, .int .i64 cl, .slice ta tn tc, .slice pa pn pc, .slice ra rn rc] ∧ n ≤ 9223372036854775807 ∧ ln ≤ 9223372036854775807 ∧ tn ≤ 9223372036854775807 ∧ pn ≤ 9223372036854775807 ∧ rn ≤ 9223372036854775807 ∧
  By w w.heap.size a n xs ∧ Nq w w.heap.size ta tn ts ∧ Vs w w.heap.size pa pn f g ∧ N64 w w.heap.size ra rn q
def hv17 (n ln tn pn rn : Nat) : Bool := decide (700 < n ∨ 30 < ln ∨ 30 < tn ∨ 20 < pn ∨ 20 < rn)
def gr17 (n ln : Nat) : Bool := decide (700 < n ∨ 30 < ln)
end Go.Proofs.Ytifnmgbeepgfiaa
/- The argument of the statements of layer 10. -/
namespace Go.Proofs.Ytifnmgbeepgfiaa
open Go.ChangeShapes Go.WideShapes Go.ChangeAt Go.RowKit Go.Deep
set_option linter.unusedVariables false
theorem bools_of {H : Type} {enc : TypeId × Value → H} {w : World} {base : Nat} {spare : Nat → Bool} {held : Bool} {fuel : Nat} {x : DataW H × List MemPlace} {v : Value}
    (hf : DataW.trod enc Try.prog w base spare held fuel 22 [v] = some x) : ∃ a n c, v = .slice a n c ∧ n ≤ 9223372036854775807 := by
  rcases open_slice Try.underlying22 hf with ⟨hcs, _⟩ | ⟨a', l, c, m, n, D, Pl, hcs, _, hl, hm, hmm, _, hi⟩
  · simp at hcs; exact ⟨none, 0, 0, hcs, by omega⟩
  · simp at hcs; exact ⟨_, _, _, hcs, by unfold maxLen at hm; omega⟩
def Asks10 (w : World) (v : Value) : Prop := ∃ (W H : Int) (fa : Option Addr) (fn fc : Nat) (ta : Option Addr) (tn tc : Nat) (ts : List Int) (pa : Option Addr) (pn pc : Nat) (ps : List Int),
  v = .agg #[.int .i64 W, .int .i64 H, .slice fa fn fc, .slice ta tn tc, .slice pa pn pc] ∧ fn ≤ 9223372036854775807 ∧ tn ≤ 9223372036854775807 ∧ pn ≤ 9223372036854775807 ∧ Nq w w.heap.size ta tn ts ∧ Nq w w.heap.size pa pn ps
set_option maxRecDepth 100000 in
theorem asks10_of {H : Type} {enc : TypeId × Value → H} {w : World} {base : Nat} {spare : Nat → Bool} {held : Bool} {fuel : Nat} {x : DataW H × List MemPlace} {cs : Array Value} (hcs : cs.size = Try.prog.cellsOf 25)
    (hf : DataW.trod enc Try.prog w base spare held fuel 25 cs.toList = some x) : Asks10 w (.agg cs) := by
  have hC : Try.prog.cellsOf 25 = 5 := by kernel_rfl
  have h2 : Try.prog.cellsOf 23 = 1 := by kernel_rfl
  have h4 : Try.prog.cellsOf 22 = 1 := by kernel_rfl
  have h5 : Try.prog.cellsOf 3 = 1 := by kernel_rfl
  rw [hC] at hcs
  obtain ⟨l⟩ := cs
  match l, hcs with
  | [c0, c1, c2, c3, c4], _ =>
    obtain ⟨ys, n', _, _, _, hyl, hg⟩ := DataW.trod_struct Try.underlying25 hf
    match ys, hyl with
    | [y0, y1, y2, y3, y4], _ =>
      have g0 := hg 0 _ rfl
      have g1 := hg 1 _ rfl
      have g2 := hg 2 _ rfl
      have g3 := hg 3 _ rfl
      have g4 := hg 4 _ rfl
      simp [h2, h4, h5] at g0 g1 g2 g3 g4
      obtain ⟨W, e0, _, _⟩ := DataW.trod_int Try.underlying3 g0
      simp at e0
      subst e0
      obtain ⟨H, e1, _, _⟩ := DataW.trod_int Try.underlying3 g1
      simp at e1
      subst e1
      obtain ⟨fa, fn, fc, rfl, hfn⟩ := bools_of g2
      obtain ⟨ta, tn, tc, ts, rfl, htn, hnq⟩ := nq_of g3
      obtain ⟨pa, pn, pc, ps, rfl, hpn, hpq⟩ := nq_of g4
      exact ⟨W, H, fa, fn, fc, ta, tn, tc, ts, pa, pn, pc, ps, rfl, hfn, htn, hpn, hnq, hpq⟩
end Go.Proofs.Ytifnmgbeepgfiaa
/- Layer 10: what SectorNumbers calls. -/
namespace Go.Proofs.Ytifnmgbeepgfiaa
open Go.RowKit
set_option linter.unusedVariables false
def heavyS (n tn pn : Nat) : Bool := decide (900 < n ∨ 60 < tn ∨ 2000 < pn)
theorem heavy10_any (W H : Int) (a ta pa : Option Addr) (n c tn tc pn pc : Nat) (w : World) (hn : n ≤ 9223372036854775807) (htn : tn ≤ 9223372036854775807) (hpn : pn ≤ 9223372036854775807) :
    Calls Try.prog 6 #[.agg #[.int .i64 W, .int .i64 H, .slice a n c, .slice ta tn tc, .slice pa pn pc]] w fun e w' => e = .returned (.bool (heavyS n tn pn)) ∧ Below w.heap.size w w' := by
  by_cases q1 : 900 < n
  · have b1 : decide ((900 : Int) < n) = true := by simp; omega
    have R : Hk (heavyS n tn pn = true) := ⟨by unfold heavyS; simp; omega⟩
    go_enter Try.func6, Try.ntmps6
    go_wp2
    go_ret
    exact ⟨rbo R.out.symm, (Below.refl _ _).alloc (Nat.le_refl _) _⟩
  have b1 : decide ((900 : Int) < n) = false := by simp; omega
  by_cases q2 : 60 < tn
  · have b2 : decide ((60 : Int) < tn) = true := by simp; omega
    have R : Hk (heavyS n tn pn = true) := ⟨by unfold heavyS; simp; omega⟩
    go_enter Try.func6, Try.ntmps6
    go_wp2
    go_ret
    exact ⟨rbo R.out.symm, (Below.refl _ _).alloc (Nat.le_refl _) _⟩
  have b2 : decide ((60 : Int) < tn) = false := by simp; omega
  by_cases q3 : 2000 < pn
  · have b3 : decide ((2000 : Int) < pn) = true := by simp; omega
    have R : Hk (heavyS n tn pn = true) := ⟨by unfold heavyS; simp; omega⟩
    go_enter Try.func6, Try.ntmps6
    go_wp2
    go_ret
    exact ⟨rbo R.out.symm, (Below.refl _ _).alloc (Nat.le_refl _) _⟩
  · have b3 : decide ((2000 : Int) < pn) = false := by simp; omega
    have R : Hk (heavyS n tn pn = false) := ⟨by unfold heavyS; simp; omega⟩
    go_enter Try.func6, Try.ntmps6
    go_wp2
    go_ret
    exact ⟨rbo R.out.symm, (Below.refl _ _).alloc (Nat.le_refl _) _⟩
theorem heavy10_as (r : Bool) (W H : Int) (a ta pa : Option Addr) (n c tn tc pn pc : Nat) (w : World) (hn : n ≤ 9223372036854775807) (htn : tn ≤ 9223372036854775807) (hpn : pn ≤ 9223372036854775807) (R : Hk (heavyS n tn pn = r)) :
    Calls Try.prog 6 #[.agg #[.int .i64 W, .int .i64 H, .slice a n c, .slice ta tn tc, .slice pa pn pc]] w fun e w' => e = .returned (.bool r) ∧ Below w.heap.size w w' := by
  obtain ⟨rfl⟩ := R; exact heavy10_any W H a ta pa n c tn tc pn pc w hn htn hpn
theorem rof10_as (W t z : Int) (w : World) (w1 : 1 ≤ W) (w2 : W ≤ 128) (t0 : 0 ≤ t) (t1 : t ≤ 16384) (EZ : Hk (Fx.ofS W t = z)) : Calls Try.prog 23 #[.int .i64 W, .int .i64 t] w fun e w' => e = .returned (.int .i64 z) ∧ Below w.heap.size w w' := by
  obtain ⟨rfl⟩ := EZ; exact rsof_any W t w w1 w2 t0 t1
theorem racross_as (n z : Int) (w : World) (a : 1 ≤ n) (b : n ≤ 128) (EZ : Hk (Fx.acS n = z)) : Calls Try.prog 28 #[.int .i64 n] w fun e w' => e = .returned (.int .i64 z) ∧ Below w.heap.size w w' := by
  obtain ⟨rfl⟩ := EZ; exact racross_any n w a b
end Go.Proofs.Ytifnmgbeepgfiaa
/- Layer 10: Count and Of with a letter for the answer. -/
namespace Go.Proofs.Ytifnmgbeepgfiaa
open Go.RowKit
set_option linter.unusedVariables false
theorem sofl_as (W H t z : Int) (w : World) (E : Hk (Fx.szB W H = true)) (t0 : 0 ≤ t) (t1 : t < W * H) (EZ : Hk (Fx.ofS W t = z)) : Calls Try.prog 19 #[.int .i64 W, .int .i64 H, .int .i64 t] w fun e w' => e = .returned (.tuple #[.int .i64 z, .int .i64 0]) ∧ Below w.heap.size w w' := by
  obtain ⟨rfl⟩ := EZ; exact of_yes10 W H t w E t0 t1
theorem sofn_as (W H t : Int) (w : World) (E : Hk (Fx.szB W H = true)) (q : ¬ (0 ≤ t ∧ t < W * H)) : Calls Try.prog 19 #[.int .i64 W, .int .i64 H, .int .i64 t] w fun e w' => e = .returned (.tuple #[.int .i64 0, .int .i64 3]) ∧ Below w.heap.size w w' := by
  by_cases h : t < 0
  · exact of_neg10 W H t w E h
  · exact of_far10 W H t w E (by omega) (by omega)
end Go.Proofs.Ytifnmgbeepgfiaa
