/- Layer 5: rows of numbers, and what is refused. -/
import Derived.Test.YtdammgpflfoppacDoorKnb
import Derived.Below
import Derived.Maps.AppendAt
import Derived.Deep.Slices
import Derived.Deep.Fields
namespace Go.Proofs.YtdammgpflfoppacDoor
open Go.ChangeShapes Go.WideShapes Go.ChangeAt Go.RowKit Go.Deep
set_option linter.unusedVariables false
/-- The slice reads as these numbers. -/
structure Nu (w : World) (a : Option Addr) (n : Nat) (xs : List Int) : Prop where
  len : xs.length = n
  rd : 0 < n → ∃ b off, a = some ⟨b, off, none⟩ ∧ b < w.heap.size ∧ ∀ k, k < n → w.cell? ⟨b, off + k, none⟩ = some (.int .i64 (xs.getD k 0))
theorem nadd_plus {b off : Nat} (j : Nat) : (⟨b, off, none⟩ : Addr).add j = ⟨b, off + j, none⟩ := by
  unfold Addr.add; split <;> simp_all
theorem nu_of {H : Type} {enc : TypeId × Value → H} {w : World} {base : Nat} {spare : Nat → Bool} {held : Bool} {fuel : Nat} {x : DataW H × List MemPlace} {a0 : Option Addr} {len0 cap0 : Nat}
    (hf : DataW.trod enc Tryd.prog w base spare held fuel 22 [.slice a0 len0 cap0] = some x) : ∃ xs, len0 ≤ 9223372036854775807 ∧ Nu w a0 len0 xs := by
  rcases open_ints Tryd.underlying22 Tryd.underlying3 (by kernel_rfl) hf with ⟨hcs, _⟩ | ⟨a, l, c, zs, hcs, _, hl, hm, hz, _, hc, hwf⟩
  · simp at hcs
    obtain ⟨rfl, rfl, rfl⟩ := hcs
    exact ⟨[], by omega, rfl, fun h => absurd h (by omega)⟩
  · simp at hcs
    obtain ⟨rfl, rfl, rfl⟩ := hcs
    have hzl : len0 ≤ zs.length := by rw [hz]; split <;> omega
    refine ⟨zs.take len0, by unfold maxLen at hm; omega, by simp; omega, fun hn => ?_⟩
    obtain ⟨b, off, spot⟩ := a
    have hs : spot = none := by
      have h0 := World.cell?_spot (hc 0 (by omega))
      simpa [Addr.add] using h0
    subst hs
    refine ⟨b, off, rfl, ?_, fun k hk => ?_⟩
    · have := hc 0 (by omega); rw [nadd_plus] at this; exact World.block_lt_of_cell? _ _ this
    · have := hc k (by omega)
      rw [nadd_plus] at this
      rw [this]
      simp [List.getD, hk]
def RowsN (w : World) (a : Option Addr) (len cap : Nat) : Prop := ∃ xs, len ≤ 9223372036854775807 ∧ Nu w a len xs
theorem rows_n {H : Type} {enc : TypeId × Value → H} {w : World} {base : Nat} {spare : Nat → Bool} {held : Bool} {fuel : Nat} {x : DataW H × List MemPlace} {a0 : Option Addr} {len0 cap0 : Nat}
    (hf : DataW.trod enc Tryd.prog w base spare held fuel 22 [.slice a0 len0 cap0] = some x) : RowsN w a0 len0 cap0 := nu_of hf
theorem own_nums {w : World} {base n : Nat} {v : Value} {xs : List Int} (h : w.ownsRow base 3 1 v n (xs.map (Value.int .i64))) : ∃ a c, v = .slice a n c ∧ n ≤ c ∧ Nu w a n xs := by
  have h' := h
  have hl : xs.length = n := by have := h.1; simpa using this
  rcases h.2 with ⟨rfl, rfl⟩ | ⟨g, cap, cur, rfl, hg, hh, hc, hm, hs, ht⟩
  · exact ⟨none, 0, rfl, by omega, hl, fun h => absurd h (by omega)⟩
  · refine ⟨_, _, rfl, hc, hl, fun hn => ⟨g, 0, rfl, lt_of_block hh, fun k hk => ?_⟩⟩
    have := h'.cellAt k (by omega)
    rw [Nat.zero_add, this]
    simp [List.getElem?_map, List.getD, List.getElem?_eq_getElem (show k < xs.length by omega)]
theorem own_lit (w : World) (xs : List Int) (n : Nat) (hn : xs.length = n) (hm : n ≤ 64) : (w.alloc (.cells (xs.map (Value.int .i64)).toArray 3)).ownsRow w.heap.size 3 1 (.slice (some ⟨w.heap.size, 0, none⟩) n n) n (xs.map (Value.int .i64)) := by
  refine ⟨by simp [hn], .inr ⟨w.heap.size, n, (xs.map (Value.int .i64)).toArray, rfl, Nat.le_refl _, ?_, Nat.le_refl _, by unfold maxLen; omega, by simp [hn], ?_⟩⟩
  · unfold World.alloc; simp only [Array.getElem?_push_size]
  · rw [Nat.mul_one]; exact List.take_of_length_le (by simp [hn])
theorem info_i64 : (Tryd.prog.info? 3).map (fun i => (i.zero, i.size, i.bytes)) = some (some (.int .i64 0), 1, 8) := by kernel_rfl
theorem of_no (n : Int) (hn : n < 0 ∨ 3 < n) (w : World) : Calls Tryd.prog 6 #[.int .i64 n] w fun e w' => e = .returned (.tuple #[.agg #[.int .i64 0, .int .i64 0, .int .i64 0, .int .i64 0, .int .i64 0], .int .i64 1]) ∧ Below w.heap.size w w' := by
  rcases hn with hn | hn
  · have g1 : decide (n < 0) = true := by simp; omega
    go_enter Tryd.func6, Tryd.ntmps6
    go_wp2
    refine bodyPost_ret (v := .tuple #[.agg #[.int .i64 0, .int .i64 0, .int .i64 0, .int .i64 0, .int .i64 0], .int .i64 1]) (by simp [results, Tryd.results6, go_sem]) rfl ⟨rfl, ?_⟩
    exact (Below.refl _ _).alloc (Nat.le_refl _) _
  · have g1 : decide (n < 0) = false := by simp; omega
    have g2 : decide (4 ≤ n) = true := by simp; omega
    go_enter Tryd.func6, Tryd.ntmps6
    go_wp2
    refine bodyPost_ret (v := .tuple #[.agg #[.int .i64 0, .int .i64 0, .int .i64 0, .int .i64 0, .int .i64 0], .int .i64 1]) (by simp [results, Tryd.results6, go_sem]) rfl ⟨rfl, ?_⟩
    exact (Below.refl _ _).alloc (Nat.le_refl _) _
theorem rof_no (n : Int) (hn : n < 0 ∨ 3 < n) (w : World) : Calls Tryd.prog 7 #[.int .i64 n] w fun e w' => e = .returned (.tuple #[.agg #[.int .i64 0, .int .i64 0, .int .i64 0, .int .i64 0, .int .i64 0], .bool false]) ∧ Below w.heap.size w w' := by
  have g1 : ¬ n = 0 := by omega
  have g2 : ¬ n = 1 := by omega
  have g3 : ¬ n = 2 := by omega
  have g4 : ¬ n = 3 := by omega
  clear hn
  go_enter Tryd.func7, Tryd.ntmps7
  go_wp2
  refine bodyPost_ret (v := .tuple #[.agg #[.int .i64 0, .int .i64 0, .int .i64 0, .int .i64 0, .int .i64 0], .bool false]) (by simp [results, Tryd.results7, go_sem]) rfl ⟨rfl, ?_⟩
  first | exact Below.refl _ _ | exact (Below.refl _ _).alloc (Nat.le_refl _) _
theorem rclass_yes (c : Int) (h0 : 0 ≤ c) (h1 : c ≤ 2) (w : World) : Calls Tryd.prog 10 #[.int .i64 c] w fun e w' => e = .returned (.bool true) ∧ w = w' := by
  have g1 : decide (0 ≤ c) = true := by simp; omega
  have g2 : decide (c ≤ 2) = true := by simp; omega
  go_enter Tryd.func10, Tryd.ntmps10
  go_wp2
  go_ret
  exact ⟨rfl, rfl⟩
theorem rclass_no (c : Int) (h : c < 0 ∨ 2 < c) (w : World) : Calls Tryd.prog 10 #[.int .i64 c] w fun e w' => e = .returned (.bool false) ∧ w = w' := by
  rcases h with h | h
  · have g1 : decide (0 ≤ c) = false := by simp; omega
    go_enter Tryd.func10, Tryd.ntmps10
    go_wp2
    go_ret
    exact ⟨rfl, rfl⟩
  · have g1 : decide (0 ≤ c) = true := by simp; omega
    have g2 : decide (c ≤ 2) = false := by simp; omega
    go_enter Tryd.func10, Tryd.ntmps10
    go_wp2
    go_ret
    exact ⟨rfl, rfl⟩
theorem cost_no (c : Int) (t : Int) (h : c < 0 ∨ 2 < c ∨ 5 < t) (w : World) : Calls Tryd.prog 9 #[.int .i64 c, .int .u8 t] w fun e w' => e = .returned (.tuple #[.int .i64 0, .int .i64 1]) ∧ w = w' := by
  by_cases h1 : c < 0
  · have g1 : decide (c < 0) = true := by simp; omega
    go_enter Tryd.func9, Tryd.ntmps9
    go_wp2
    go_ret2
    exact ⟨rfl, rfl⟩
  · have g1 : decide (c < 0) = false := by simp; omega
    by_cases h2 : 2 < c
    · have g2 : decide (2 < c) = true := by simp; omega
      go_enter Tryd.func9, Tryd.ntmps9
      go_wp2
      go_ret2
      exact ⟨rfl, rfl⟩
    · have g2 : decide (2 < c) = false := by simp; omega
      have g3 : decide (5 < t) = true := by simp; omega
      go_enter Tryd.func9, Tryd.ntmps9
      go_wp2
      go_ret2
      exact ⟨rfl, rfl⟩
end Go.Proofs.YtdammgpflfoppacDoor
