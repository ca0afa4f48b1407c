/- Layer 7: the eight bytes of a sum; a map's bytes. No program in it. -/
import Derived.Test.YtmkehmeoglpkeaaPw2
namespace Go.Proofs.Ytmkehmeoglpkeaa
namespace Mp
open Go
/-- The k-th byte of a number. -/
def dig (s : Int) (k : Nat) : Int := s / 256 ^ k % 256
def eight (s : Int) : List Int := (List.range 8).map (dig s)
theorem dig_byt (s : Int) (k : Nat) : Fn.Byt (dig s k) := by
  unfold dig Fn.Byt
  generalize s / 256 ^ k = z
  omega
theorem eight_len (s : Int) : (eight s).length = 8 := by simp [eight]
theorem eight_byt (s : Int) : ∀ b ∈ eight s, Fn.Byt b := by
  intro b hb
  obtain ⟨k, _, rfl⟩ := List.mem_map.1 hb
  exact dig_byt s k
theorem eight_get (s : Int) {k : Nat} (h : k < 8) : (eight s).getD k 0 = dig s k := by
  simp [eight, List.getD, List.getElem?_map, List.getElem?_range h]
theorem eight_take (s : Int) {k : Nat} (h : k < 8) : (eight s).take (k + 1) = (eight s).take k ++ [dig s k] := by
  have hl : k < (eight s).length := by rw [eight_len]; exact h
  rw [List.take_succ_eq_append_getElem hl]
  simp [eight]
theorem dig_next (s : Int) (k : Nat) : s / 256 ^ k / 256 = s / 256 ^ (k + 1) := by
  rw [Int.pow_succ, Int.ediv_ediv_of_nonneg (Int.pow_nonneg (by omega))]
theorem dig_u64 {s : Int} (h : Fn.U64 s) (k : Nat) : Fn.U64 (s / 256 ^ k) := by
  unfold Fn.U64 at *
  have hp : (0 : Int) < 256 ^ k := Int.pow_pos (by omega)
  have h1 : 0 ≤ s / 256 ^ k := Int.ediv_nonneg h.1 (Int.le_of_lt hp)
  have h2 : s / 256 ^ k ≤ s := Int.ediv_le_self _ h.1
  omega
/-- The sum of bytes. -/
def hash (xs : List Int) : Int := Fn.sumS 14695981039346656037 xs
theorem start_u64 : Fn.U64 14695981039346656037 := by unfold Fn.U64; omega
theorem hash_u64 (xs : List Int) : Fn.U64 (hash xs) := Fn.sum_bd start_u64 xs
/-- A map's bytes. -/
def mapB (W H : Int) (xs : List Int) : List Int := [84, 71] ++ Wr.numL W.toNat ++ Wr.numL H.toNat ++ xs
def mapL (W H : Int) (xs : List Int) : List Int := mapB W H xs ++ eight (hash (mapB W H xs))
end Mp
end Go.Proofs.Ytmkehmeoglpkeaa
