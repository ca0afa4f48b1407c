/- Plain arithmetic for layer 4 (wire): the bytes of a number, there and back. No program in it. -/
import Derived.Test.YtmkehmeoglpkeaaPn
import Derived.Laws.BitsLemmas
import Derived.RowKit
namespace Go.Proofs.Ytmkehmeoglpkeaa.Wr
open Go
/-- The bytes of a number. -/
def numL (n : Nat) : List Int := if n < 128 then [(n : Int)] else ((n % 128 + 128 : Nat) : Int) :: numL (n / 128)
termination_by n
decreasing_by omega
theorem numL_low {n : Nat} (h : n < 128) : numL n = [(n : Int)] := by rw [numL, if_pos h]
theorem numL_high {n : Nat} (h : 128 ≤ n) : numL n = ((n % 128 + 128 : Nat) : Int) :: numL (n / 128) := by rw [numL, if_neg (by omega)]
theorem numL_byt (n : Nat) : ∀ b ∈ numL n, Fn.Byt b := by
  induction n using Nat.strongRecOn with
  | _ n ih =>
    rcases Nat.lt_or_ge n 128 with h | h
    · rw [numL_low h]; intro b hb; simp at hb; subst hb; unfold Fn.Byt; omega
    · rw [numL_high h]; intro b hb
      rcases List.mem_cons.1 hb with rfl | hb
      · unfold Fn.Byt; omega
      · exact ih (n / 128) (by omega) b hb
theorem numL_pos (n : Nat) : 1 ≤ (numL n).length := by
  rcases Nat.lt_or_ge n 128 with h | h
  · rw [numL_low h]; simp
  · rw [numL_high h]; simp
theorem numL_len {n k : Nat} (h : n < 128 ^ k) (hk : 1 ≤ k) : (numL n).length ≤ k := by
  induction k generalizing n with
  | zero => omega
  | succ k ih =>
    rcases Nat.lt_or_ge n 128 with h1 | h1
    · rw [numL_low h1]; simp
    · rw [numL_high h1]
      simp only [List.length_cons]
      rcases Nat.eq_zero_or_pos k with rfl | hk
      · simp at h; omega
      · have := ih (n := n / 128) (by rw [Nat.pow_succ] at h; omega) hk
        omega
/-- What bytes begin with, from the i-th on: the number, how many bytes, the error. -/
def getG (xs : List Int) : Nat → Nat → Int → Int × Int × Int
  | 0, _, _ => (0, 0, if 9 ≤ xs.length then 1 else 11)
  | fuel + 1, i, acc =>
    if i < xs.length then
      if xs.getD i 0 < 128 then (if xs.getD i 0 = 0 ∧ 0 < i then (0, 0, 1) else (acc + xs.getD i 0 % 128 * 2 ^ (7 * i), i + 1, 0))
      else getG xs fuel (i + 1) (acc + xs.getD i 0 % 128 * 2 ^ (7 * i))
    else (0, 0, if 9 ≤ xs.length then 1 else 11)
def getS (xs : List Int) : Int × Int × Int := getG xs 9 0 0
def GetAt (xs : List Int) (i : Nat) (acc : Int) : Prop := i ≤ 9 ∧ i ≤ xs.length ∧ 0 ≤ acc ∧ acc < 2 ^ (7 * i) ∧ getG xs (9 - i) i acc = getS xs
theorem getAt_start (xs : List Int) : GetAt xs 0 0 := ⟨by omega, by omega, by omega, by simp, rfl⟩
theorem getG_step {xs : List Int} {i : Nat} {acc : Int} (h : i < 9) (hl : i < xs.length) : getG xs (9 - i) i acc =
    if xs.getD i 0 < 128 then (if xs.getD i 0 = 0 ∧ 0 < i then (0, 0, 1) else (acc + xs.getD i 0 % 128 * 2 ^ (7 * i), (i : Int) + 1, 0))
      else getG xs (9 - (i + 1)) (i + 1) (acc + xs.getD i 0 % 128 * 2 ^ (7 * i)) := by
  rw [show 9 - i = (9 - (i + 1)) + 1 by omega, getG, if_pos hl]
theorem pow_pos7 (i : Nat) : (0 : Int) < 2 ^ i := Int.pow_pos (by omega)
theorem getAt_next {xs : List Int} {i : Nat} {acc : Int} (h : GetAt xs i acc) (h9 : i < 9) (hl : i < xs.length) (hx : 128 ≤ xs.getD i 0) :
    GetAt xs (i + 1) (acc + xs.getD i 0 % 128 * 2 ^ (7 * i)) := by
  obtain ⟨h1, h2, h3, h4, h5⟩ := h
  have hp := pow_pos7 (7 * i)
  rw [getG_step h9 hl, if_neg (by omega)] at h5
  refine ⟨by omega, by omega, ?_, ?_, h5⟩
  · have := Int.mul_nonneg (show 0 ≤ xs.getD i 0 % 128 by omega) (Int.le_of_lt hp); omega
  · have e : (2 : Int) ^ (7 * (i + 1)) = 128 * 2 ^ (7 * i) := by rw [show 7 * (i + 1) = 7 + 7 * i by omega, Int.pow_add]; rfl
    rw [e]
    have : xs.getD i 0 % 128 * 2 ^ (7 * i) ≤ 127 * 2 ^ (7 * i) := Int.mul_le_mul_of_nonneg_right (by omega) (Int.le_of_lt hp)
    omega
theorem getAt_form {xs : List Int} {i : Nat} {acc : Int} (h : GetAt xs i acc) (h9 : i < 9) (hl : i < xs.length) (hx : xs.getD i 0 = 0) (h0 : 0 < i) : getS xs = (0, 0, 1) := by
  rw [← h.2.2.2.2, getG_step h9 hl, if_pos (by omega), if_pos ⟨hx, h0⟩]
theorem getAt_done {xs : List Int} {i : Nat} {acc : Int} (h : GetAt xs i acc) (h9 : i < 9) (hl : i < xs.length) (hx : xs.getD i 0 < 128) (h0 : ¬ (xs.getD i 0 = 0 ∧ 0 < i)) : getS xs = (acc + xs.getD i 0 % 128 * 2 ^ (7 * i), (i : Int) + 1, 0) := by
  rw [← h.2.2.2.2, getG_step h9 hl, if_pos hx, if_neg h0]
theorem getAt_end {xs : List Int} {i : Nat} {acc : Int} (h : GetAt xs i acc) (he : i = 9 ∨ i = xs.length) : getS xs = (0, 0, if 9 ≤ xs.length then 1 else 11) := by
  rw [← h.2.2.2.2]
  rcases he with rfl | rfl
  · rfl
  · rcases Nat.lt_or_ge xs.length 9 with h9 | h9
    · rw [show 9 - xs.length = (9 - (xs.length + 1)) + 1 by omega, getG, if_neg (by omega)]
    · rw [show 9 - xs.length = 0 by omega, getG]
/-- The sum of a number and a shifted one is their bits together. -/
theorem or_shift {acc d : Int} {i : Nat} (hi : i ≤ 8) (h0 : 0 ≤ acc) (h1 : acc < 2 ^ (7 * i)) (hd : 0 ≤ d) (hd1 : d ≤ 127) :
    bits BinOp.or IntKind.i64 acc (d * 2 ^ (7 * i)) = acc + d * 2 ^ (7 * i) ∧ 0 ≤ d * 2 ^ (7 * i) ∧ acc + d * 2 ^ (7 * i) ≤ 9223372036854775807 ∧ d * 2 ^ (7 * i) ≤ 9223372036854775807 ∧ 0 ≤ acc + d * 2 ^ (7 * i) := by
  have hp := pow_pos7 (7 * i)
  have hm : d * 2 ^ (7 * i) ≤ 127 * 2 ^ (7 * i) := Int.mul_le_mul_of_nonneg_right hd1 (Int.le_of_lt hp)
  have hn : 0 ≤ d * 2 ^ (7 * i) := Int.mul_nonneg hd (Int.le_of_lt hp)
  have hpm : (2 : Int) ^ (7 * i) ≤ 72057594037927936 := by
    have h : 2 ^ (7 * i) ≤ 2 ^ 56 := Nat.pow_le_pow_right (by omega) (by omega)
    have : ((2 ^ (7 * i) : Nat) : Int) ≤ ((2 ^ 56 : Nat) : Int) := Int.ofNat_le.2 h
    rw [Int.natCast_pow] at this
    simpa using this
  obtain ⟨p, hpp⟩ : ∃ p : Nat, p = 2 ^ (7 * i) := ⟨_, rfl⟩
  have hpc : (2 : Int) ^ (7 * i) = (p : Int) := by rw [hpp, Int.natCast_pow]; rfl
  refine ⟨?_, hn, by omega, by omega, by omega⟩
  obtain ⟨a, rfl⟩ := Int.eq_ofNat_of_zero_le h0
  obtain ⟨e, rfl⟩ := Int.eq_ofNat_of_zero_le hd
  rw [hpc] at *
  have hx : a ||| (e * p) = a + e * p := by
    have := Nat.two_pow_add_eq_or_of_lt (i := 7 * i) (b := a) (by rw [← hpp]; omega) e
    rw [← hpp, Nat.mul_comm p e] at this
    rw [Nat.or_comm, ← this, Nat.add_comm]
  have hep : ((e * p : Nat) : Int) = (e : Int) * (p : Int) := Int.natCast_mul e p
  rw [← hep] at *
  have hp56 : p ≤ 72057594037927936 := by
    have h : 2 ^ (7 * i) ≤ 2 ^ 56 := Nat.pow_le_pow_right (by omega) (by omega)
    rw [hpp]; simpa using h
  have hep2 : e * p ≤ 127 * p := Nat.mul_le_mul_right p (by omega)
  have ha : a < 9223372036854775808 := by omega
  have hb : e * p < 9223372036854775808 := by omega
  have o1 : (BitVec.ofInt 64 (a : Int)).toNat = a := by
    rw [BitVec.ofInt_natCast, BitVec.toNat_ofNat]; exact Nat.mod_eq_of_lt (by omega)
  have o2 : (BitVec.ofInt 64 ((e * p : Nat) : Int)).toNat = e * p := by
    rw [BitVec.ofInt_natCast, BitVec.toNat_ofNat]; exact Nat.mod_eq_of_lt (by omega)
  show IntKind.i64.wrap ((BitVec.ofInt 64 (a : Int) ||| BitVec.ofInt 64 ((e * p : Nat) : Int)).toNat : Int) = _
  rw [BitVec.toNat_or, o1, o2, hx, IntKind.wrap_i64]
  omega
theorem getAt_or {xs : List Int} {i : Nat} {acc : Int} (h : GetAt xs i acc) (h9 : i < 9) :
    bits BinOp.or IntKind.i64 acc (xs.getD i 0 % 128 * 2 ^ (7 * i)) = acc + xs.getD i 0 % 128 * 2 ^ (7 * i) ∧ 0 ≤ xs.getD i 0 % 128 * 2 ^ (7 * i) ∧ acc + xs.getD i 0 % 128 * 2 ^ (7 * i) ≤ 9223372036854775807 ∧ xs.getD i 0 % 128 * 2 ^ (7 * i) ≤ 9223372036854775807 ∧ 0 ≤ acc + xs.getD i 0 % 128 * 2 ^ (7 * i) :=
  or_shift (by omega) h.2.2.1 h.2.2.2.1 (by omega) (by omega)
/-- What was written is read. -/
theorem get_num {m i n : Nat} {pre ys : List Int} (hp : pre.length = i) {acc : Int} (hn : acc + (m : Int) * 2 ^ (7 * i) = n) (hlt : m * 2 ^ (7 * i) < 2 ^ 63) (hm : 0 < i → 0 < m) (hi : i < 9) :
    getG (pre ++ (numL m ++ ys)) (9 - i) i acc = ((n : Int), (i : Int) + (numL m).length, 0) := by
  induction m using Nat.strongRecOn generalizing i pre acc with
  | _ m ih =>
    have hlen : i < (pre ++ (numL m ++ ys)).length := by have := numL_pos m; simp; omega
    have hget : (pre ++ (numL m ++ ys)).getD i 0 = (numL m ++ ys).getD 0 0 := by
      simp [List.getD, List.getElem?_append_right (show pre.length ≤ i by omega), hp]
    rw [getG_step hi hlen, hget]
    rcases Nat.lt_or_ge m 128 with h | h
    · rw [numL_low h]
      simp only [List.cons_append, List.nil_append, List.getD_cons_zero, List.length_cons, List.length_nil]
      rw [if_pos (by omega), if_neg (by omega), show (m : Int) % 128 = m by omega, hn]
      simp
    · rw [numL_high h]
      simp only [List.cons_append, List.getD_cons_zero, List.length_cons]
      rw [if_neg (by omega)]
      have h2 : 2 ^ (7 * (i + 1)) = 128 * 2 ^ (7 * i) := by rw [show 7 * (i + 1) = 7 + 7 * i by omega, Nat.pow_add]
      have h2i : (2 : Int) ^ (7 * (i + 1)) = 128 * 2 ^ (7 * i) := by rw [show 7 * (i + 1) = 7 + 7 * i by omega, Int.pow_add]; rfl
      have hi9 : i + 1 < 9 := by
        rcases Nat.lt_or_ge (i + 1) 9 with h9 | h9
        · exact h9
        · have : 2 ^ 56 ≤ 2 ^ (7 * i) := Nat.pow_le_pow_right (by omega) (by omega)
          have : 128 * 2 ^ 56 ≤ m * 2 ^ (7 * i) := Nat.mul_le_mul h this
          simp at this hlt; omega
      have hd : m / 128 * (128 * 2 ^ (7 * i)) ≤ m * 2 ^ (7 * i) := by
        rw [← Nat.mul_assoc]; exact Nat.mul_le_mul_right _ (by omega)
      have := ih (m / 128) (by omega) (i := i + 1) (pre := pre ++ [((m % 128 + 128 : Nat) : Int)]) (acc := acc + ((m % 128 + 128 : Nat) : Int) % 128 * 2 ^ (7 * i)) (by simp [hp]) (by
          rw [h2i, ← hn]
          have e : (m : Int) = ((m / 128 : Nat) : Int) * 128 + ((m % 128 + 128 : Nat) : Int) % 128 := by omega
          generalize ((m % 128 + 128 : Nat) : Int) % 128 = r at *
          rw [e, Int.add_mul, Int.mul_assoc]; omega) (by rw [h2]; omega) (by omega) hi9
      rw [show pre ++ [((m % 128 + 128 : Nat) : Int)] ++ (numL (m / 128) ++ ys) = pre ++ (((m % 128 + 128 : Nat) : Int) :: (numL (m / 128) ++ ys)) by simp] at this
      rw [this]
      refine Prod.ext rfl (Prod.ext ?_ rfl)
      simp; omega
theorem getS_num {n : Nat} (h : n < 9223372036854775808) (ys : List Int) : getS (numL n ++ ys) = ((n : Int), ((numL n).length : Int), 0) := by
  have := get_num (m := n) (i := 0) (n := n) (pre := []) (ys := ys) rfl (acc := 0) (by simp) (by simpa using h) (by omega) (by omega)
  simpa [getS] using this
theorem get_high {xs : List Int} (hl : xs.length < 9) (h : ∀ b ∈ xs, 128 ≤ b) {i : Nat} (hi : i ≤ xs.length) (acc : Int) : getG xs (9 - i) i acc = (0, 0, 11) := by
  generalize hk : xs.length - i = k
  induction k generalizing i acc with
  | zero => rw [show 9 - i = (9 - (i + 1)) + 1 by omega, getG, if_neg (by omega), if_neg (by omega)]
  | succ k ih =>
    rw [getG_step (by omega) (by omega)]
    have hm : xs.getD i 0 ∈ xs := by
      have : xs.getD i 0 = xs[i] := by simp [List.getD, List.getElem?_eq_getElem (show i < xs.length by omega)]
      rw [this]; exact List.getElem_mem _
    rw [if_neg (by have := h _ hm; omega)]
    exact ih (by omega) _ (by omega)
theorem numL_take {n j : Nat} (hj : j < (numL n).length) : ∀ b ∈ (numL n).take j, 128 ≤ b := by
  induction n using Nat.strongRecOn generalizing j with
  | _ n ih =>
    rcases Nat.lt_or_ge n 128 with h | h
    · rw [numL_low h] at hj ⊢
      simp at hj; subst hj; simp
    · rw [numL_high h] at hj ⊢
      intro b hb
      cases j with
      | zero => simp at hb
      | succ j =>
        simp only [List.take_succ_cons, List.mem_cons] at hb
        rcases hb with rfl | hb
        · omega
        · exact ih (n / 128) (by omega) (by simpa using hj) b hb
theorem numL_nine {n : Nat} (h : n < 9223372036854775808) : (numL n).length ≤ 9 := numL_len (k := 9) (by simpa using h) (by omega)
theorem getS_cut {n j : Nat} (h : n < 9223372036854775808) (hj : j < (numL n).length) : getS ((numL n).take j) = (0, 0, 11) :=
  get_high (i := 0) (by have := numL_nine h; simp; omega) (numL_take hj) (by omega) 0
/-- What is read lies within bounds. -/
def GetOk (xs : List Int) (n k e : Int) : Prop :=
  0 ≤ n ∧ n ≤ 9223372036854775807 ∧ 0 ≤ k ∧ k ≤ xs.length ∧ k ≤ 9 ∧ ((e = 0 ∧ 1 ≤ k) ∨ ((e = 1 ∨ e = 11) ∧ n = 0 ∧ k = 0))
theorem getG_ok {xs : List Int} (hx : ∀ b ∈ xs, Fn.Byt b) {i : Nat} {acc : Int} (h : GetAt xs i acc) : GetOk xs (getS xs).1 (getS xs).2.1 (getS xs).2.2 := by
  generalize hk : 9 - i = k
  have hend : GetOk xs 0 0 (if 9 ≤ xs.length then 1 else 11) := by
    unfold GetOk; refine ⟨by omega, by omega, by omega, by omega, by omega, .inr ⟨?_, rfl, rfl⟩⟩
    split
    · exact .inl rfl
    · exact .inr rfl
  induction k generalizing i acc with
  | zero =>
    have := h.1
    rw [getAt_end h (.inl (by omega))]
    exact hend
  | succ k ih =>
    by_cases hl : i < xs.length
    · have hb := hx _ (show xs.getD i 0 ∈ xs by
        have : xs.getD i 0 = xs[i] := by simp [List.getD, List.getElem?_eq_getElem hl]
        rw [this]; exact List.getElem_mem _)
      unfold Fn.Byt at hb
      by_cases h1 : 128 ≤ xs.getD i 0
      · exact ih (getAt_next h (by omega) hl h1) (by omega)
      · by_cases h2 : xs.getD i 0 = 0 ∧ 0 < i
        · rw [getAt_form h (by omega) hl h2.1 h2.2]
          show GetOk xs 0 0 1
          exact ⟨by omega, by omega, by omega, by omega, by omega, .inr ⟨.inl rfl, rfl, rfl⟩⟩
        · rw [getAt_done h (by omega) hl (by omega) h2]
          have := getAt_or h (by omega)
          show GetOk xs (acc + xs.getD i 0 % 128 * 2 ^ (7 * i)) ((i : Int) + 1) 0
          exact ⟨this.2.2.2.2, this.2.2.1, by omega, by omega, by omega, .inl ⟨rfl, by omega⟩⟩
    · have := h.2.1
      rw [getAt_end h (.inr (by omega))]
      exact hend
theorem getS_bd {xs : List Int} (hx : ∀ b ∈ xs, Fn.Byt b) : GetOk xs (getS xs).1 (getS xs).2.1 (getS xs).2.2 := getG_ok hx (getAt_start xs)
/-- Numbers that may be below 0, as others. -/
def zig (n : Int) : Nat := if n < 0 then (-2 * n - 1).toNat else (2 * n).toNat
def unzig (n : Int) : Int := if n % 2 = 1 then -(n / 2) - 1 else n / 2
theorem unzig_zig (n : Int) : unzig (zig n) = n := by unfold unzig zig; split <;> split <;> omega
theorem zig_inj {m n : Int} (h : zig m = zig n) : m = n := by rw [← unzig_zig m, ← unzig_zig n, h]
theorem zig_odd (n : Int) : zig n % 2 = 1 ↔ n < 0 := by unfold zig; split <;> omega
theorem numL_inj {m n : Nat} (hm : m < 9223372036854775808) (hn : n < 9223372036854775808) (h : numL m = numL n) : m = n := by
  have a := getS_num hm []
  have b := getS_num hn []
  rw [h, b] at a
  have := congrArg Prod.fst a
  simp at this; omega
theorem numL_mod (n : Nat) : (numL n).getD 0 0 % 2 = (n : Int) % 2 := by
  rcases Nat.lt_or_ge n 128 with h | h
  · rw [numL_low h]; rfl
  · rw [numL_high h]; simp only [List.getD_cons_zero]; omega
end Go.Proofs.Ytmkehmeoglpkeaa.Wr
