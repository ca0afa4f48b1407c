import Derived.Test.YtcgilmjhbdehpaaZbm
import Derived.Test.YtcgilmjhbdehpaaZbi
import Derived.Test.YtcgilmjhbdehpaaZbd
import Derived.Deep.QuietTactic
import Derived.BigQuiet
import Derived.Test.YtcgilmjhbdehpaaZbj
/- Package sector: the parts of two tiles. -/
namespace Go.Proofs.Ytcgilmjhbdehpaa
open Go.RowKit
set_option linter.unusedVariables false
set_option maxHeartbeats 1600000 in
theorem parts10 (F : Nat) (w : World) (f0 : w.cell? ⟨F, 0, none⟩ = some (.bool true)) (f1 : w.cell? ⟨F, 1, none⟩ = some (.bool true)) :
    Calls Try.prog 19 #[.int .i64 2, .int .i64 1, .slice (some ⟨F, 0, none⟩) 2 2] w fun e w' => ∃ G, e = .returned (.tuple #[.slice (some ⟨G, 0, none⟩) 2 2, .int .i64 0]) ∧ w'.cell? ⟨G, 0, none⟩ = some (.int .i64 0) ∧ w'.cell? ⟨G, 1, none⟩ = some (.int .i64 0) ∧ Below w.heap.size w w' := by
  have ES : Hk (Fx.szB 2 1 = true) := ⟨by decide⟩
  have hmk : ∀ w, (Instr.makeSlice 23 (.int .i64 2) (.int .i64 2)).run Try.prog w = .ok (.slice (some ⟨w.heap.size, 0, none⟩) 2 2) (w.alloc (.cells #[.int .i64 0, .int .i64 0] 3)) := fun _ => by kernel_rfl
  have hF : F < w.heap.size := World.block_lt_of_cell? _ _ f0
  have HF0 : Hk (∀ X, Below w.heap.size w X → X.cell? ⟨F, 0, none⟩ = some (.bool true) ∧ X.cell? ⟨F, 1, none⟩ = some (.bool true)) := ⟨fun X hX => ⟨(hX.cell (p := ⟨F, 0, none⟩) hF).trans f0, (hX.cell (p := ⟨F, 1, none⟩) hF).trans f1⟩⟩
  go_enter Try.func19, Try.ntmps19
  go_wp2_with (go_at_call 35; (with_reducible refine (sized_as true 2 1 _ ES).mono ?_); rintro e w1 ⟨rfl, hb1⟩)
  refine wp_loop_rounds 3 ?_
  rw [rounds_succ]
  go_wp2
  rw [rounds_succ]
  go_wp2
  rw [rounds_succ]
  go_wp2
  have hbw : Below w.heap.size w (w1.alloc (.cells #[.int .i64 (-1), .int .i64 (-1)] 3)) := hb1.alloc hb1.size _
  have g0 : (w1.alloc (.cells #[.int .i64 (-1), .int .i64 (-1)] 3)).cell? ⟨w1.heap.size, 0, none⟩ = some (.int .i64 (-1)) := by go_simp
  have g1 : (w1.alloc (.cells #[.int .i64 (-1), .int .i64 (-1)] 3)).cell? ⟨w1.heap.size, 1, none⟩ = some (.int .i64 (-1)) := by go_simp
  have z0 : (w1.alloc (.cells #[.int .i64 (-1), .int .i64 (-1)] 3)).frozen? ⟨w1.heap.size, 0, none⟩ = false := by go_simp
  have z1 : (w1.alloc (.cells #[.int .i64 (-1), .int .i64 (-1)] 3)).frozen? ⟨w1.heap.size, 1, none⟩ = false := by go_simp
  obtain ⟨k0, k1⟩ := HF0.out _ hbw
  have hs1 := hb1.size
  have hs2 := hbw.size
  clear hb1
  generalize (w1.alloc (.cells #[.int .i64 (-1), .int .i64 (-1)] 3)) = W2 at *
  generalize w1.heap.size = G at *
  have hGW : G < W2.heap.size := World.block_lt_of_cell? _ _ g0
  refine wp_loop_rounds 3 ?_
  rw [rounds_succ]
  go_wp2_with (go_at_call 36; (with_reducible refine (fill10_0 F G _ k0 k1 g0 g1 z0 z1 ?_).mono ?_); (omega); rintro e w3 ⟨rfl, g0', g1', hb3⟩; have HB3 := Hk.mk (hbw.trans (hb3.mono (by omega))); clear hb3 g0 g1 z0 z1 k0 k1)
  obtain ⟨k0, k1⟩ := HF0.out _ HB3.out
  have hs3 := HB3.out.size
  rw [rounds_succ]
  go_wp2_with (go_at_call 36; (with_reducible refine (fill10_1 F G _ k0 k1 g0' g1').mono ?_); rintro e w4 ⟨rfl, hb4⟩; have hG4 : G < w3.heap.size := World.block_lt_of_cell? _ _ g0'; have m0 := (hb4.cell (p := ⟨G, 0, none⟩) hG4).trans g0'; have m1 := (hb4.cell (p := ⟨G, 1, none⟩) hG4).trans g1')
  rw [rounds_succ]
  go_wp2
  refine bodyPost_ret (v := .tuple #[.slice (some ⟨G, 0, none⟩) 2 2, .int .i64 0]) (by simp [results, Try.results19, go_sem]) rfl ⟨G, rfl, m0, m1, HB3.out.trans (hb4.mono (by omega))⟩
end Go.Proofs.Ytcgilmjhbdehpaa
/- Slices of ways: what it means that one reads as two rows of numbers. -/
namespace Go.Proofs.Ytcgilmjhbdehpaa
open Go.ChangeShapes Go.WideShapes Go.ChangeAt Go.RowKit Go.Deep
set_option linter.unusedVariables false
/-- The slice's n elements are the ways (f k, g k). -/
structure Vs (w : World) (B : Nat) (a : Option Addr) (n : Nat) (f g : Nat → Int) : Prop where
  num : ∀ k, k < n → Fx.I64 (f k) ∧ Fx.I64 (g k)
  rd : 0 < n → ∃ b off, a = some ⟨b, off, none⟩ ∧ b < B ∧ ∀ k, k < n → w.cell? ⟨b, off + k * 2, none⟩ = some (.int .i64 (f k)) ∧ w.cell? ⟨b, off + k * 2 + 1, none⟩ = some (.int .i64 (g k))
theorem Vs.nil (w : World) (B : Nat) (a : Option Addr) (f g : Nat → Int) : Vs w B a 0 f g := ⟨fun k h => absurd h (by omega), fun h => absurd h (by omega)⟩
theorem Vs.below {w w' : World} {B B' n : Nat} {a : Option Addr} {f g : Nat → Int} (h : Vs w B a n f g) (hb : Below B' w w') (hB : B ≤ B') : Vs w' B a n f g := ⟨h.num, fun hn => by
  obtain ⟨b, off, e, hlt, hc⟩ := h.rd hn
  exact ⟨b, off, e, hlt, fun k hk => ⟨(hb.cell (p := ⟨b, off + k * 2, none⟩) (Nat.lt_of_lt_of_le hlt hB)).trans (hc k hk).1, (hb.cell (p := ⟨b, off + k * 2 + 1, none⟩) (Nat.lt_of_lt_of_le hlt hB)).trans (hc k hk).2⟩⟩⟩
theorem Vs.mono {w : World} {B B' n : Nat} {a : Option Addr} {f g : Nat → Int} (h : Vs w B a n f g) (hB : B ≤ B') : Vs w B' a n f g := ⟨h.num, fun hn => by
  obtain ⟨b, off, e, hlt, hc⟩ := h.rd hn
  exact ⟨b, off, e, by omega, hc⟩⟩
end Go.Proofs.Ytcgilmjhbdehpaa
/- Arguments that hold slices of numbers, of ways, grounds: what is known of them. -/
namespace Go.Proofs.Ytcgilmjhbdehpaa
open Go.ChangeShapes Go.WideShapes Go.ChangeAt Go.RowKit Go.Deep
set_option linter.unusedVariables false
end Go.Proofs.Ytcgilmjhbdehpaa
/- Layer 10: numbers compared; wakes. -/
namespace Go.Proofs.Ytcgilmjhbdehpaa
open Go.RowKit
set_option linter.unusedVariables false
theorem nq_two (w : World) (G : Nat) (B : Nat) (hG : G < B) (g0 : w.cell? ⟨G, 0, none⟩ = some (.int .i64 0)) (g1 : w.cell? ⟨G, 1, none⟩ = some (.int .i64 0)) : Nq w B (some ⟨G, 0, none⟩) 2 [0, 0] := ⟨rfl, fun _ => ⟨G, 0, rfl, hG, fun k hk => by
  match k, hk with
  | 0, _ => exact g0
  | 1, _ => exact g1⟩⟩
end Go.Proofs.Ytcgilmjhbdehpaa
/- The argument of the statements of layer 17. -/
namespace Go.Proofs.Ytcgilmjhbdehpaa
open Go.ChangeShapes Go.WideShapes Go.ChangeAt Go.RowKit Go.Deep
set_option linter.unusedVariables false
/-- The slice reads as these numbers of 64 bits. -/
structure N64 (w : World) (B : Nat) (a : Option Addr) (n : Nat) (f : Nat → Int) : Prop where
  num : ∀ k, k < n → Fx.I64 (f k)
  rd : 0 < n → ∃ b off, a = some ⟨b, off, none⟩ ∧ b < B ∧ ∀ k, k < n → w.cell? ⟨b, off + k, none⟩ = some (.int .i64 (f k))
theorem N64.below {w w' : World} {B B' n : Nat} {a : Option Addr} {f : Nat → Int} (h : N64 w B a n f) (hb : Below B' w w') (hB : B ≤ B') : N64 w' B a n f := ⟨h.num, fun hn => by
  obtain ⟨b, off, e, hlt, hc⟩ := h.rd hn
  exact ⟨b, off, e, hlt, fun k hk => (hb.cell (p := ⟨b, off + k, none⟩) (Nat.lt_of_lt_of_le hlt hB)).trans (hc k hk)⟩⟩
def Asks17 (w : World) (v : Value) : Prop := ∃ (W H : Int) (a : Option Addr) (n c : Nat) (xs : List Int) (la : Option Addr) (ln lc : Nat) (cl : Int) (ta : Option Addr) (tn tc : Nat) (ts : List Int) (pa : Option Addr) (pn pc : Nat) (f g : Nat → Int) (ra : Option Addr) (rn rc : Nat) (q : Nat → Int),
  v = .agg #[.int .i64 W, .int .i64 H, .slice a n c, .slice la ln lc, .int .i64 cl, .slice ta tn tc, .slice pa pn pc, .slice ra rn rc] ∧ n ≤ 9223372036854775807 ∧ ln ≤ 9223372036854775807 ∧ tn ≤ 9223372036854775807 ∧ pn ≤ 9223372036854775807 ∧ rn ≤ 9223372036854775807 ∧
  By w w.heap.size a n xs ∧ Nq w w.heap.size ta tn ts ∧ Vs w w.heap.size pa pn f g ∧ N64 w w.heap.size ra rn q
def hv17 (n ln tn pn rn : Nat) : Bool := decide (700 < n ∨ 30 < ln ∨ 30 < tn ∨ 20 < pn ∨ 20 < rn)
def gr17 (n ln : Nat) : Bool := decide (700 < n ∨ 30 < ln)
end Go.Proofs.Ytcgilmjhbdehpaa
/- The argument of the statements of layer 10. -/
namespace Go.Proofs.Ytcgilmjhbdehpaa
open Go.ChangeShapes Go.WideShapes Go.ChangeAt Go.RowKit Go.Deep
set_option linter.unusedVariables false
theorem bools_of {H : Type} {enc : TypeId × Value → H} {w : World} {base : Nat} {spare : Nat → Bool} {held : Bool} {fuel : Nat} {x : DataW H × List MemPlace} {v : Value}
    (hf : DataW.trod enc Try.prog w base spare held fuel 22 [v] = some x) : ∃ a n c, v = .slice a n c ∧ n ≤ 9223372036854775807 := by
  rcases open_slice Try.underlying22 hf with ⟨hcs, _⟩ | ⟨a', l, c, m, n, D, Pl, hcs, _, hl, hm, hmm, _, hi⟩
  · simp at hcs; exact ⟨none, 0, 0, hcs, by omega⟩
  · simp at hcs; exact ⟨_, _, _, hcs, by unfold maxLen at hm; omega⟩
def Asks10 (w : World) (v : Value) : Prop := ∃ (W H : Int) (fa : Option Addr) (fn fc : Nat) (ta : Option Addr) (tn tc : Nat) (ts : List Int) (pa : Option Addr) (pn pc : Nat) (ps : List Int),
  v = .agg #[.int .i64 W, .int .i64 H, .slice fa fn fc, .slice ta tn tc, .slice pa pn pc] ∧ fn ≤ 9223372036854775807 ∧ tn ≤ 9223372036854775807 ∧ pn ≤ 9223372036854775807 ∧ Nq w w.heap.size ta tn ts ∧ Nq w w.heap.size pa pn ps
set_option maxRecDepth 100000 in
theorem asks10_of {H : Type} {enc : TypeId × Value → H} {w : World} {base : Nat} {spare : Nat → Bool} {held : Bool} {fuel : Nat} {x : DataW H × List MemPlace} {cs : Array Value} (hcs : cs.size = Try.prog.cellsOf 25)
    (hf : DataW.trod enc Try.prog w base spare held fuel 25 cs.toList = some x) : Asks10 w (.agg cs) := by
  have hC : Try.prog.cellsOf 25 = 5 := by kernel_rfl
  have h2 : Try.prog.cellsOf 23 = 1 := by kernel_rfl
  have h4 : Try.prog.cellsOf 22 = 1 := by kernel_rfl
  have h5 : Try.prog.cellsOf 3 = 1 := by kernel_rfl
  rw [hC] at hcs
  obtain ⟨l⟩ := cs
  match l, hcs with
  | [c0, c1, c2, c3, c4], _ =>
    obtain ⟨ys, n', _, _, _, hyl, hg⟩ := DataW.trod_struct Try.underlying25 hf
    match ys, hyl with
    | [y0, y1, y2, y3, y4], _ =>
      have g0 := hg 0 _ rfl
      have g1 := hg 1 _ rfl
      have g2 := hg 2 _ rfl
      have g3 := hg 3 _ rfl
      have g4 := hg 4 _ rfl
      simp [h2, h4, h5] at g0 g1 g2 g3 g4
      obtain ⟨W, e0, _, _⟩ := DataW.trod_int Try.underlying3 g0
      simp at e0
      subst e0
      obtain ⟨H, e1, _, _⟩ := DataW.trod_int Try.underlying3 g1
      simp at e1
      subst e1
      obtain ⟨fa, fn, fc, rfl, hfn⟩ := bools_of g2
      obtain ⟨ta, tn, tc, ts, rfl, htn, hnq⟩ := nq_of g3
      obtain ⟨pa, pn, pc, ps, rfl, hpn, hpq⟩ := nq_of g4
      exact ⟨W, H, fa, fn, fc, ta, tn, tc, ts, pa, pn, pc, ps, rfl, hfn, htn, hpn, hnq, hpq⟩
end Go.Proofs.Ytcgilmjhbdehpaa
