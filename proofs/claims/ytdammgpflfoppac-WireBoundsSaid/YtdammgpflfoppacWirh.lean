/- Layer 4: numbers there and back; the bounds. -/
import Derived.Test.YtdammgpflfoppacWirg
namespace Go.Proofs.Ytdammgpflfoppac
open Go.RowKit
set_option linter.unusedVariables false
theorem num_len (x : Int) (z L : Nat) (w : World) (hx : Hk (x = z)) (hz : Hk (z ≤ 9223372036854775807)) (hL : Hk ((Wr.numL z).length = L)) :
    Calls Try.prog 7 #[.int .i64 x] w fun e w' => ∃ v, e = .returned (.tuple #[v, .int .i64 0]) ∧ OwnB w' w.heap.size v L (Wr.numL z) ∧ Below w.heap.size w w' := by
  rw [← hL.out]; exact num_at x z w hx hz
theorem getint_back (s : Int) (a : Option Addr) (n c L : Nat) (ys : List Int) (w : World) (hs : I62 s) (h : By w w.heap.size a n (Wr.numL (Wr.zig s) ++ ys)) (hn : n ≤ 1099511627776) (hL : Hk ((Wr.numL (Wr.zig s)).length = L)) :
    Calls Try.prog 12 #[.slice a n c] w fun e w' => e = .returned (.tuple #[.int .i64 s, .int .i64 L, .int .i64 0]) ∧ w = w' := by
  have h1 := getint_any a n c _ w h hn
  rw [Wr.getS_num (by have := zig_bd hs; omega) ys] at h1
  simp only [Wr.unzig_zig, hL.out] at h1
  exact h1
theorem getnum_back (z : Nat) (a : Option Addr) (n c L : Nat) (ys : List Int) (w : World) (hs : Hk (z ≤ 9223372036854775807)) (h : By w w.heap.size a n (Wr.numL z ++ ys)) (hn : n ≤ 1099511627776) (hL : Hk ((Wr.numL z).length = L)) :
    Calls Try.prog 9 #[.slice a n c] w fun e w' => e = .returned (.tuple #[.int .i64 z, .int .i64 L, .int .i64 0]) ∧ w = w' := by
  have h1 := getnum_any a n c _ w h hn
  rw [Wr.getS_num (by have := hs.out; omega) ys] at h1
  simp only [hL.out] at h1
  exact h1
theorem getnum_as (a : Option Addr) (n c : Nat) (xs : List Int) (w : World) (x y z : Int) (h : By w w.heap.size a n xs) (hn : n ≤ 1099511627776) (hr : Hk (Wr.getS xs = (x, y, z))) :
    Calls Try.prog 9 #[.slice a n c] w fun e w' => e = .returned (.tuple #[.int .i64 x, .int .i64 y, .int .i64 z]) ∧ w = w' := by
  have h1 := getnum_any a n c xs w h hn
  rw [hr.out] at h1
  exact h1
theorem two_lens {k : Nat} (hk : k < 63) : ∃ L1 L2 : Nat, Hk ((Wr.numL (2 ^ k - 1)).length = L1) ∧ Hk ((Wr.numL (2 ^ k)).length = L2) ∧ (if (1 : Int) < ((k : Int) + 6) / 7 then ((k : Int) + 6) / 7 else 1) = (L1 : Int) ∧ (k : Int) / 7 + 1 = (L2 : Int) := by
  have p7 : ∀ j : Nat, 128 ^ j = 2 ^ (7 * j) := fun j => by rw [Nat.pow_mul]
  have h2 : (Wr.numL (2 ^ k)).length = k / 7 + 1 := by
    refine Wr.numL_len_eq (k := k / 7) ?_ (.inr ?_)
    · rw [p7]; exact Nat.pow_lt_pow_right (by omega) (by omega)
    · rw [p7]; exact Nat.pow_le_pow_right (by omega) (by omega)
  have h1 : (Wr.numL (2 ^ k - 1)).length = (k - 1) / 7 + 1 := by
    have hp : 0 < 2 ^ k := Nat.pow_pos (by omega)
    refine Wr.numL_len_eq (k := (k - 1) / 7) ?_ ?_
    · rw [p7]
      have : 2 ^ k ≤ 2 ^ (7 * ((k - 1) / 7 + 1)) := Nat.pow_le_pow_right (by omega) (by omega)
      omega
    · by_cases h7 : (k - 1) / 7 = 0
      · exact .inl h7
      · right
        rw [p7]
        have h8 : 2 ^ (7 * ((k - 1) / 7)) ≤ 2 ^ (k - 1) := Nat.pow_le_pow_right (by omega) (by omega)
        have h9 : 2 ^ k = 2 * 2 ^ (k - 1) := by rw [show k = (k - 1) + 1 by omega, Nat.pow_succ, Nat.add_sub_cancel]; omega
        have h10 : 0 < 2 ^ (k - 1) := Nat.pow_pos (by omega)
        omega
  refine ⟨_, _, ⟨rfl⟩, ⟨rfl⟩, ?_, ?_⟩
  · rw [h1]; split <;> omega
  · rw [h2]; omega
def lowL : List Int := [-4611686018427387904, 4611686018427387903, -1, 0, 1, 1099511627776, -1099511627776]
theorem low62 {j : Nat} (h : j < 7) : I62 (lowL.getD j 0) := by
  unfold I62
  match j, h with
  | 0, _ => decide
  | 1, _ => decide
  | 2, _ => decide
  | 3, _ => decide
  | 4, _ => decide
  | 5, _ => decide
  | 6, _ => decide
theorem low_cell (w : World) (t : TypeId) {j : Nat} (h : j < 7) : (w.alloc (.cells #[.int .i64 (-4611686018427387904), .int .i64 4611686018427387903, .int .i64 (-1), .int .i64 0, .int .i64 1, .int .i64 1099511627776, .int .i64 (-1099511627776)] t)).cell? ⟨w.heap.size, j, none⟩ = some (.int .i64 (lowL.getD j 0)) := by
  rw [cell_of_row _ _ j _ t (0, 0) (heap_alloc_new w _)]
  match j, h with
  | 0, _ => rfl
  | 1, _ => rfl
  | 2, _ => rfl
  | 3, _ => rfl
  | 4, _ => rfl
  | 5, _ => rfl
  | 6, _ => rfl
theorem By.litAt (w : World) (xs : List Int) (t : TypeId) (fr : Nat × Nat) (H n : Nat) (hH : H = w.heap.size) (hl : xs.length = n) (hx : ∀ b ∈ xs, Fn.Byt b) : By (w.alloc (.cells (xs.map (Value.int .u8)).toArray t fr)) (w.alloc (.cells (xs.map (Value.int .u8)).toArray t fr)).heap.size (some ⟨H, 0, none⟩) n xs := by
  subst hH; exact By.lit w xs t fr _ n hl hx (by simp)
theorem big_raw : rawErr (Wr.numL 1048577) = 1 := by
  unfold rawErr
  have := Wr.getS_num (n := 1048577) (by omega) []
  rw [List.append_nil] at this
  rw [this]; rfl
end Go.Proofs.Ytdammgpflfoppac
