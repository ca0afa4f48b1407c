import Derived.Laws.BitsAllLaws
import Derived.RowKit
import Derived.Laws.BitsLemmas
import Derived.WalkKit
import Derived.WalkLawsBesides
import Derived.WalkSpells
import Derived.Outline
import Derived.Deep.QuietTactic
import Derived.BigQuiet
import Derived.Deep.RegionHeld3
import Derived.Deep.RegionWith
import Derived.Maps.AppendAt
import Derived.Lib.SlBytesConst
import Derived.Test.YtdpblimhfmfbnaaProg
import Derived.ProofKit
import Derived.OpenShut
import Derived.ShutString
import Derived.ChangeOld
import Derived.Below
import Derived.Deep.Slices
import Derived.Deep.Fields
import Derived.ChangeSame
import Derived.Test.YtdpblimhfmfbnaaRows
import Derived.Test.YtdpblimhfmfbnaaChecked
/- Plain arithmetic for layer 3 (fnv): a byte's step can be told apart. No program in it. -/
namespace Go.Proofs.Ytdpblimhfmfbnaa.Fn
open Go
/-- One byte's step. -/
def stepS (s b : Int) : Int := IntKind.u64.wrap (bits BinOp.xor IntKind.u64 s b * 1099511628211)
def sumS (s : Int) (l : List Int) : Int := l.foldl stepS s
def U64 (s : Int) : Prop := 0 ≤ s ∧ s ≤ 18446744073709551615
def Byt (b : Int) : Prop := 0 ≤ b ∧ b ≤ 255
theorem wrapu (x : Int) : IntKind.u64.wrap x = x % 18446744073709551616 := by simp [IntKind.wrap, IntKind.bits, IntKind.signed]
theorem step_bd (s b : Int) : U64 (stepS s b) := by unfold stepS U64; rw [wrapu]; omega
theorem xor_eq {s b : Int} (hs : U64 s) (hb : Byt b) : bits BinOp.xor IntKind.u64 s b = ((s.toNat ^^^ b.toNat : Nat) : Int) := by
  unfold U64 at hs; unfold Byt at hb
  exact u64_xor s b (by omega) (by omega) (by omega) (by omega)
theorem xor_lt {s b : Int} (hs : U64 s) (hb : Byt b) : s.toNat ^^^ b.toNat < 18446744073709551616 := by
  unfold U64 at hs; unfold Byt at hb
  exact Nat.xor_lt_two_pow (n := 64) (by omega) (by omega)
/-- The factor is odd: what it has multiplied can be told. -/
theorem unit_mod (z : Int) : (z * 1099511628211 % 18446744073709551616) * 14886173955864302971 % 18446744073709551616 = z % 18446744073709551616 := by
  rw [Int.mul_emod, Int.emod_emod, ← Int.mul_emod, Int.mul_assoc, Int.mul_emod]
  have e : (1099511628211 * 14886173955864302971 : Int) % 18446744073709551616 = 1 := by decide +kernel
  rw [e, Int.mul_one, Int.emod_emod]
theorem prime_inj {x y : Nat} (hx : x < 18446744073709551616) (hy : y < 18446744073709551616) (h : ((x : Int) * 1099511628211) % 18446744073709551616 = ((y : Int) * 1099511628211) % 18446744073709551616) : x = y := by
  have a := unit_mod x
  have b := unit_mod y
  rw [h, b] at a
  clear b h
  omega
theorem step_inj {s t b c : Int} (hs : U64 s) (ht : U64 t) (hb : Byt b) (hc : Byt c) (h : stepS s b = stepS t c) : s.toNat ^^^ b.toNat = t.toNat ^^^ c.toNat := by
  unfold stepS at h
  rw [wrapu, wrapu, xor_eq hs hb, xor_eq ht hc] at h
  exact prime_inj (xor_lt hs hb) (xor_lt ht hc) h
theorem step_inj_s {s t b : Int} (hs : U64 s) (ht : U64 t) (hb : Byt b) (h : stepS s b = stepS t b) : s = t := by
  have e := step_inj hs ht hb hb h
  have e2 := congrArg (· ^^^ b.toNat) e
  simp only [Nat.xor_assoc, Nat.xor_self, Nat.xor_zero] at e2
  unfold U64 at hs ht; omega
theorem step_inj_b {s b c : Int} (hs : U64 s) (hb : Byt b) (hc : Byt c) (h : stepS s b = stepS s c) : b = c := by
  have e := step_inj hs hs hb hc h
  have e2 := congrArg (s.toNat ^^^ ·) e
  simp only [← Nat.xor_assoc, Nat.xor_self, Nat.zero_xor] at e2
  unfold Byt at hb hc; omega
theorem sum_bd {s : Int} (hs : U64 s) (l : List Int) : U64 (sumS s l) := by
  unfold sumS
  induction l generalizing s with
  | nil => exact hs
  | cons b l ih => exact ih (step_bd s b)
theorem sum_inj {s t : Int} (hs : U64 s) (ht : U64 t) {l : List Int} (hl : ∀ b ∈ l, Byt b) (h : sumS s l = sumS t l) : s = t := by
  unfold sumS at h
  induction l generalizing s t with
  | nil => exact h
  | cons b l ih =>
    have := ih (step_bd s b) (step_bd t b) (fun x hx => hl x (List.mem_cons_of_mem _ hx)) h
    exact step_inj_s hs ht (hl b (List.mem_cons_self ..)) this
theorem sum_append (s : Int) (l m : List Int) : sumS s (l ++ m) = sumS (sumS s l) m := by unfold sumS; exact List.foldl_append
theorem sum_snoc (s : Int) (l : List Int) (b : Int) : sumS s (l ++ [b]) = stepS (sumS s l) b := by rw [sum_append]; rfl
theorem sum_take {s : Int} {l : List Int} {k : Nat} (h : k < l.length) : sumS s (l.take (k + 1)) = stepS (sumS s (l.take k)) (l.getD k 0) := by
  rw [List.take_succ_eq_append_getElem h, sum_snoc]
  simp [List.getD, List.getElem?_eq_getElem h]
theorem sum_changed {s : Int} (hs : U64 s) {l : List Int} (hl : ∀ b ∈ l, Byt b) {k : Nat} (hk : k < l.length) {c : Int} (hc : Byt c) (hne : c ≠ l.getD k 0) : sumS s (l.set k c) ≠ sumS s l := by
  intro h
  have e1 : l = l.take k ++ (l.getD k 0 :: l.drop (k + 1)) := by
    have : l.getD k 0 = l[k] := by simp [List.getD, List.getElem?_eq_getElem hk]
    rw [this, List.getElem_cons_drop, List.take_append_drop]
  have e2 : l.set k c = l.take k ++ (c :: l.drop (k + 1)) := List.set_eq_take_append_cons_drop.trans (by rw [if_pos hk])
  have hb : Byt (l.getD k 0) := by
    have : l.getD k 0 = l[k] := by simp [List.getD, List.getElem?_eq_getElem hk]
    rw [this]; exact hl _ (List.getElem_mem hk)
  rw [e2] at h
  have h' : sumS s (l.take k ++ (c :: l.drop (k + 1))) = sumS s (l.take k ++ (l.getD k 0 :: l.drop (k + 1))) := h.trans (congrArg _ e1)
  rw [sum_append, sum_append] at h'
  have h2 : sumS (stepS (sumS s (l.take k)) c) (l.drop (k + 1)) = sumS (stepS (sumS s (l.take k)) (l.getD k 0)) (l.drop (k + 1)) := h'
  have h3 := sum_inj (step_bd _ _) (step_bd _ _) (fun x hx => hl x (List.mem_of_mem_drop hx)) h2
  exact hne (step_inj_b (sum_bd hs _) hc hb h3)
/-- A number brought from 0 below n. -/
def wiS (i n : Int) : Int := i % 18446744073709551616 % n
theorem wi_bd (i : Int) {n : Int} (h : 1 ≤ n) : 0 ≤ wiS i n ∧ wiS i n < n := by
  unfold wiS
  exact ⟨Int.emod_nonneg _ (by omega), Int.emod_lt_of_pos _ (by omega)⟩
theorem xor8 {x d : Int} (hx : Byt x) (hd : 1 ≤ d ∧ d ≤ 255) : Byt (bits BinOp.xor IntKind.u8 x d) ∧ bits BinOp.xor IntKind.u8 x d ≠ x := by
  unfold Byt at hx
  rw [u8_xor x d (by omega) (by omega) (by omega) (by omega)]
  have hl : x.toNat ^^^ d.toNat < 256 := Nat.xor_lt_two_pow (n := 8) (by omega) (by omega)
  refine ⟨by unfold Byt; omega, fun h => ?_⟩
  have e : x.toNat ^^^ d.toNat = x.toNat := by omega
  have e2 := congrArg (x.toNat ^^^ ·) e
  simp only [← Nat.xor_assoc, Nat.xor_self, Nat.zero_xor] at e2
  omega
end Go.Proofs.Ytdpblimhfmfbnaa.Fn
/- Plain arithmetic for layer 4 (wire): the bytes of a number, there and back. No program in it. -/
namespace Go.Proofs.Ytdpblimhfmfbnaa.Wr
open Go
/-- The bytes of a number. -/
def numL (n : Nat) : List Int := if n < 128 then [(n : Int)] else ((n % 128 + 128 : Nat) : Int) :: numL (n / 128)
termination_by n
decreasing_by omega
theorem numL_low {n : Nat} (h : n < 128) : numL n = [(n : Int)] := by rw [numL, if_pos h]
theorem numL_high {n : Nat} (h : 128 ≤ n) : numL n = ((n % 128 + 128 : Nat) : Int) :: numL (n / 128) := by rw [numL, if_neg (by omega)]
theorem numL_byt (n : Nat) : ∀ b ∈ numL n, Fn.Byt b := by
  induction n using Nat.strongRecOn with
  | _ n ih =>
    rcases Nat.lt_or_ge n 128 with h | h
    · rw [numL_low h]; intro b hb; simp at hb; subst hb; unfold Fn.Byt; omega
    · rw [numL_high h]; intro b hb
      rcases List.mem_cons.1 hb with rfl | hb
      · unfold Fn.Byt; omega
      · exact ih (n / 128) (by omega) b hb
theorem numL_pos (n : Nat) : 1 ≤ (numL n).length := by
  rcases Nat.lt_or_ge n 128 with h | h
  · rw [numL_low h]; simp
  · rw [numL_high h]; simp
theorem numL_len {n k : Nat} (h : n < 128 ^ k) (hk : 1 ≤ k) : (numL n).length ≤ k := by
  induction k generalizing n with
  | zero => omega
  | succ k ih =>
    rcases Nat.lt_or_ge n 128 with h1 | h1
    · rw [numL_low h1]; simp
    · rw [numL_high h1]
      simp only [List.length_cons]
      rcases Nat.eq_zero_or_pos k with rfl | hk
      · simp at h; omega
      · have := ih (n := n / 128) (by rw [Nat.pow_succ] at h; omega) hk
        omega
/-- What bytes begin with, from the i-th on: the number, how many bytes, the error. -/
def getG (xs : List Int) : Nat → Nat → Int → Int × Int × Int
  | 0, _, _ => (0, 0, if 9 ≤ xs.length then 1 else 11)
  | fuel + 1, i, acc =>
    if i < xs.length then
      if xs.getD i 0 < 128 then (if xs.getD i 0 = 0 ∧ 0 < i then (0, 0, 1) else (acc + xs.getD i 0 % 128 * 2 ^ (7 * i), i + 1, 0))
      else getG xs fuel (i + 1) (acc + xs.getD i 0 % 128 * 2 ^ (7 * i))
    else (0, 0, if 9 ≤ xs.length then 1 else 11)
def getS (xs : List Int) : Int × Int × Int := getG xs 9 0 0
def GetAt (xs : List Int) (i : Nat) (acc : Int) : Prop := i ≤ 9 ∧ i ≤ xs.length ∧ 0 ≤ acc ∧ acc < 2 ^ (7 * i) ∧ getG xs (9 - i) i acc = getS xs
theorem getAt_start (xs : List Int) : GetAt xs 0 0 := ⟨by omega, by omega, by omega, by simp, rfl⟩
theorem getG_step {xs : List Int} {i : Nat} {acc : Int} (h : i < 9) (hl : i < xs.length) : getG xs (9 - i) i acc =
    if xs.getD i 0 < 128 then (if xs.getD i 0 = 0 ∧ 0 < i then (0, 0, 1) else (acc + xs.getD i 0 % 128 * 2 ^ (7 * i), (i : Int) + 1, 0))
      else getG xs (9 - (i + 1)) (i + 1) (acc + xs.getD i 0 % 128 * 2 ^ (7 * i)) := by
  rw [show 9 - i = (9 - (i + 1)) + 1 by omega, getG, if_pos hl]
theorem pow_pos7 (i : Nat) : (0 : Int) < 2 ^ i := Int.pow_pos (by omega)
theorem getAt_next {xs : List Int} {i : Nat} {acc : Int} (h : GetAt xs i acc) (h9 : i < 9) (hl : i < xs.length) (hx : 128 ≤ xs.getD i 0) :
    GetAt xs (i + 1) (acc + xs.getD i 0 % 128 * 2 ^ (7 * i)) := by
  obtain ⟨h1, h2, h3, h4, h5⟩ := h
  have hp := pow_pos7 (7 * i)
  rw [getG_step h9 hl, if_neg (by omega)] at h5
  refine ⟨by omega, by omega, ?_, ?_, h5⟩
  · have := Int.mul_nonneg (show 0 ≤ xs.getD i 0 % 128 by omega) (Int.le_of_lt hp); omega
  · have e : (2 : Int) ^ (7 * (i + 1)) = 128 * 2 ^ (7 * i) := by rw [show 7 * (i + 1) = 7 + 7 * i by omega, Int.pow_add]; rfl
    rw [e]
    have : xs.getD i 0 % 128 * 2 ^ (7 * i) ≤ 127 * 2 ^ (7 * i) := Int.mul_le_mul_of_nonneg_right (by omega) (Int.le_of_lt hp)
    omega
theorem getAt_form {xs : List Int} {i : Nat} {acc : Int} (h : GetAt xs i acc) (h9 : i < 9) (hl : i < xs.length) (hx : xs.getD i 0 = 0) (h0 : 0 < i) : getS xs = (0, 0, 1) := by
  rw [← h.2.2.2.2, getG_step h9 hl, if_pos (by omega), if_pos ⟨hx, h0⟩]
theorem getAt_done {xs : List Int} {i : Nat} {acc : Int} (h : GetAt xs i acc) (h9 : i < 9) (hl : i < xs.length) (hx : xs.getD i 0 < 128) (h0 : ¬ (xs.getD i 0 = 0 ∧ 0 < i)) : getS xs = (acc + xs.getD i 0 % 128 * 2 ^ (7 * i), (i : Int) + 1, 0) := by
  rw [← h.2.2.2.2, getG_step h9 hl, if_pos hx, if_neg h0]
theorem getAt_end {xs : List Int} {i : Nat} {acc : Int} (h : GetAt xs i acc) (he : i = 9 ∨ i = xs.length) : getS xs = (0, 0, if 9 ≤ xs.length then 1 else 11) := by
  rw [← h.2.2.2.2]
  rcases he with rfl | rfl
  · rfl
  · rcases Nat.lt_or_ge xs.length 9 with h9 | h9
    · rw [show 9 - xs.length = (9 - (xs.length + 1)) + 1 by omega, getG, if_neg (by omega)]
    · rw [show 9 - xs.length = 0 by omega, getG]
/-- The sum of a number and a shifted one is their bits together. -/
theorem or_shift {acc d : Int} {i : Nat} (hi : i ≤ 8) (h0 : 0 ≤ acc) (h1 : acc < 2 ^ (7 * i)) (hd : 0 ≤ d) (hd1 : d ≤ 127) :
    bits BinOp.or IntKind.i64 acc (d * 2 ^ (7 * i)) = acc + d * 2 ^ (7 * i) ∧ 0 ≤ d * 2 ^ (7 * i) ∧ acc + d * 2 ^ (7 * i) ≤ 9223372036854775807 ∧ d * 2 ^ (7 * i) ≤ 9223372036854775807 ∧ 0 ≤ acc + d * 2 ^ (7 * i) := by
  have hp := pow_pos7 (7 * i)
  have hm : d * 2 ^ (7 * i) ≤ 127 * 2 ^ (7 * i) := Int.mul_le_mul_of_nonneg_right hd1 (Int.le_of_lt hp)
  have hn : 0 ≤ d * 2 ^ (7 * i) := Int.mul_nonneg hd (Int.le_of_lt hp)
  have hpm : (2 : Int) ^ (7 * i) ≤ 72057594037927936 := by
    have h : 2 ^ (7 * i) ≤ 2 ^ 56 := Nat.pow_le_pow_right (by omega) (by omega)
    have : ((2 ^ (7 * i) : Nat) : Int) ≤ ((2 ^ 56 : Nat) : Int) := Int.ofNat_le.2 h
    rw [Int.natCast_pow] at this
    simpa using this
  obtain ⟨p, hpp⟩ : ∃ p : Nat, p = 2 ^ (7 * i) := ⟨_, rfl⟩
  have hpc : (2 : Int) ^ (7 * i) = (p : Int) := by rw [hpp, Int.natCast_pow]; rfl
  refine ⟨?_, hn, by omega, by omega, by omega⟩
  obtain ⟨a, rfl⟩ := Int.eq_ofNat_of_zero_le h0
  obtain ⟨e, rfl⟩ := Int.eq_ofNat_of_zero_le hd
  rw [hpc] at *
  have hx : a ||| (e * p) = a + e * p := by
    have := Nat.two_pow_add_eq_or_of_lt (i := 7 * i) (b := a) (by rw [← hpp]; omega) e
    rw [← hpp, Nat.mul_comm p e] at this
    rw [Nat.or_comm, ← this, Nat.add_comm]
  have hep : ((e * p : Nat) : Int) = (e : Int) * (p : Int) := Int.natCast_mul e p
  rw [← hep] at *
  have hp56 : p ≤ 72057594037927936 := by
    have h : 2 ^ (7 * i) ≤ 2 ^ 56 := Nat.pow_le_pow_right (by omega) (by omega)
    rw [hpp]; simpa using h
  have hep2 : e * p ≤ 127 * p := Nat.mul_le_mul_right p (by omega)
  have ha : a < 9223372036854775808 := by omega
  have hb : e * p < 9223372036854775808 := by omega
  have o1 : (BitVec.ofInt 64 (a : Int)).toNat = a := by
    rw [BitVec.ofInt_natCast, BitVec.toNat_ofNat]; exact Nat.mod_eq_of_lt (by omega)
  have o2 : (BitVec.ofInt 64 ((e * p : Nat) : Int)).toNat = e * p := by
    rw [BitVec.ofInt_natCast, BitVec.toNat_ofNat]; exact Nat.mod_eq_of_lt (by omega)
  show IntKind.i64.wrap ((BitVec.ofInt 64 (a : Int) ||| BitVec.ofInt 64 ((e * p : Nat) : Int)).toNat : Int) = _
  rw [BitVec.toNat_or, o1, o2, hx, IntKind.wrap_i64]
  omega
theorem getAt_or {xs : List Int} {i : Nat} {acc : Int} (h : GetAt xs i acc) (h9 : i < 9) :
    bits BinOp.or IntKind.i64 acc (xs.getD i 0 % 128 * 2 ^ (7 * i)) = acc + xs.getD i 0 % 128 * 2 ^ (7 * i) ∧ 0 ≤ xs.getD i 0 % 128 * 2 ^ (7 * i) ∧ acc + xs.getD i 0 % 128 * 2 ^ (7 * i) ≤ 9223372036854775807 ∧ xs.getD i 0 % 128 * 2 ^ (7 * i) ≤ 9223372036854775807 ∧ 0 ≤ acc + xs.getD i 0 % 128 * 2 ^ (7 * i) :=
  or_shift (by omega) h.2.2.1 h.2.2.2.1 (by omega) (by omega)
/-- What was written is read. -/
theorem get_num {m i n : Nat} {pre ys : List Int} (hp : pre.length = i) {acc : Int} (hn : acc + (m : Int) * 2 ^ (7 * i) = n) (hlt : m * 2 ^ (7 * i) < 2 ^ 63) (hm : 0 < i → 0 < m) (hi : i < 9) :
    getG (pre ++ (numL m ++ ys)) (9 - i) i acc = ((n : Int), (i : Int) + (numL m).length, 0) := by
  induction m using Nat.strongRecOn generalizing i pre acc with
  | _ m ih =>
    have hlen : i < (pre ++ (numL m ++ ys)).length := by have := numL_pos m; simp; omega
    have hget : (pre ++ (numL m ++ ys)).getD i 0 = (numL m ++ ys).getD 0 0 := by
      simp [List.getD, List.getElem?_append_right (show pre.length ≤ i by omega), hp]
    rw [getG_step hi hlen, hget]
    rcases Nat.lt_or_ge m 128 with h | h
    · rw [numL_low h]
      simp only [List.cons_append, List.nil_append, List.getD_cons_zero, List.length_cons, List.length_nil]
      rw [if_pos (by omega), if_neg (by omega), show (m : Int) % 128 = m by omega, hn]
      simp
    · rw [numL_high h]
      simp only [List.cons_append, List.getD_cons_zero, List.length_cons]
      rw [if_neg (by omega)]
      have h2 : 2 ^ (7 * (i + 1)) = 128 * 2 ^ (7 * i) := by rw [show 7 * (i + 1) = 7 + 7 * i by omega, Nat.pow_add]
      have h2i : (2 : Int) ^ (7 * (i + 1)) = 128 * 2 ^ (7 * i) := by rw [show 7 * (i + 1) = 7 + 7 * i by omega, Int.pow_add]; rfl
      have hi9 : i + 1 < 9 := by
        rcases Nat.lt_or_ge (i + 1) 9 with h9 | h9
        · exact h9
        · have : 2 ^ 56 ≤ 2 ^ (7 * i) := Nat.pow_le_pow_right (by omega) (by omega)
          have : 128 * 2 ^ 56 ≤ m * 2 ^ (7 * i) := Nat.mul_le_mul h this
          simp at this hlt; omega
      have hd : m / 128 * (128 * 2 ^ (7 * i)) ≤ m * 2 ^ (7 * i) := by
        rw [← Nat.mul_assoc]; exact Nat.mul_le_mul_right _ (by omega)
      have := ih (m / 128) (by omega) (i := i + 1) (pre := pre ++ [((m % 128 + 128 : Nat) : Int)]) (acc := acc + ((m % 128 + 128 : Nat) : Int) % 128 * 2 ^ (7 * i)) (by simp [hp]) (by
          rw [h2i, ← hn]
          have e : (m : Int) = ((m / 128 : Nat) : Int) * 128 + ((m % 128 + 128 : Nat) : Int) % 128 := by omega
          generalize ((m % 128 + 128 : Nat) : Int) % 128 = r at *
          rw [e, Int.add_mul, Int.mul_assoc]; omega) (by rw [h2]; omega) (by omega) hi9
      rw [show pre ++ [((m % 128 + 128 : Nat) : Int)] ++ (numL (m / 128) ++ ys) = pre ++ (((m % 128 + 128 : Nat) : Int) :: (numL (m / 128) ++ ys)) by simp] at this
      rw [this]
      refine Prod.ext rfl (Prod.ext ?_ rfl)
      simp; omega
theorem getS_num {n : Nat} (h : n < 9223372036854775808) (ys : List Int) : getS (numL n ++ ys) = ((n : Int), ((numL n).length : Int), 0) := by
  have := get_num (m := n) (i := 0) (n := n) (pre := []) (ys := ys) rfl (acc := 0) (by simp) (by simpa using h) (by omega) (by omega)
  simpa [getS] using this
theorem get_high {xs : List Int} (hl : xs.length < 9) (h : ∀ b ∈ xs, 128 ≤ b) {i : Nat} (hi : i ≤ xs.length) (acc : Int) : getG xs (9 - i) i acc = (0, 0, 11) := by
  generalize hk : xs.length - i = k
  induction k generalizing i acc with
  | zero => rw [show 9 - i = (9 - (i + 1)) + 1 by omega, getG, if_neg (by omega), if_neg (by omega)]
  | succ k ih =>
    rw [getG_step (by omega) (by omega)]
    have hm : xs.getD i 0 ∈ xs := by
      have : xs.getD i 0 = xs[i] := by simp [List.getD, List.getElem?_eq_getElem (show i < xs.length by omega)]
      rw [this]; exact List.getElem_mem _
    rw [if_neg (by have := h _ hm; omega)]
    exact ih (by omega) _ (by omega)
theorem numL_take {n j : Nat} (hj : j < (numL n).length) : ∀ b ∈ (numL n).take j, 128 ≤ b := by
  induction n using Nat.strongRecOn generalizing j with
  | _ n ih =>
    rcases Nat.lt_or_ge n 128 with h | h
    · rw [numL_low h] at hj ⊢
      simp at hj; subst hj; simp
    · rw [numL_high h] at hj ⊢
      intro b hb
      cases j with
      | zero => simp at hb
      | succ j =>
        simp only [List.take_succ_cons, List.mem_cons] at hb
        rcases hb with rfl | hb
        · omega
        · exact ih (n / 128) (by omega) (by simpa using hj) b hb
theorem numL_nine {n : Nat} (h : n < 9223372036854775808) : (numL n).length ≤ 9 := numL_len (k := 9) (by simpa using h) (by omega)
theorem getS_cut {n j : Nat} (h : n < 9223372036854775808) (hj : j < (numL n).length) : getS ((numL n).take j) = (0, 0, 11) :=
  get_high (i := 0) (by have := numL_nine h; simp; omega) (numL_take hj) (by omega) 0
/-- What is read lies within bounds. -/
def GetOk (xs : List Int) (n k e : Int) : Prop :=
  0 ≤ n ∧ n ≤ 9223372036854775807 ∧ 0 ≤ k ∧ k ≤ xs.length ∧ k ≤ 9 ∧ ((e = 0 ∧ 1 ≤ k) ∨ ((e = 1 ∨ e = 11) ∧ n = 0 ∧ k = 0))
theorem getG_ok {xs : List Int} (hx : ∀ b ∈ xs, Fn.Byt b) {i : Nat} {acc : Int} (h : GetAt xs i acc) : GetOk xs (getS xs).1 (getS xs).2.1 (getS xs).2.2 := by
  generalize hk : 9 - i = k
  have hend : GetOk xs 0 0 (if 9 ≤ xs.length then 1 else 11) := by
    unfold GetOk; refine ⟨by omega, by omega, by omega, by omega, by omega, .inr ⟨?_, rfl, rfl⟩⟩
    split
    · exact .inl rfl
    · exact .inr rfl
  induction k generalizing i acc with
  | zero =>
    have := h.1
    rw [getAt_end h (.inl (by omega))]
    exact hend
  | succ k ih =>
    by_cases hl : i < xs.length
    · have hb := hx _ (show xs.getD i 0 ∈ xs by
        have : xs.getD i 0 = xs[i] := by simp [List.getD, List.getElem?_eq_getElem hl]
        rw [this]; exact List.getElem_mem _)
      unfold Fn.Byt at hb
      by_cases h1 : 128 ≤ xs.getD i 0
      · exact ih (getAt_next h (by omega) hl h1) (by omega)
      · by_cases h2 : xs.getD i 0 = 0 ∧ 0 < i
        · rw [getAt_form h (by omega) hl h2.1 h2.2]
          show GetOk xs 0 0 1
          exact ⟨by omega, by omega, by omega, by omega, by omega, .inr ⟨.inl rfl, rfl, rfl⟩⟩
        · rw [getAt_done h (by omega) hl (by omega) h2]
          have := getAt_or h (by omega)
          show GetOk xs (acc + xs.getD i 0 % 128 * 2 ^ (7 * i)) ((i : Int) + 1) 0
          exact ⟨this.2.2.2.2, this.2.2.1, by omega, by omega, by omega, .inl ⟨rfl, by omega⟩⟩
    · have := h.2.1
      rw [getAt_end h (.inr (by omega))]
      exact hend
theorem getS_bd {xs : List Int} (hx : ∀ b ∈ xs, Fn.Byt b) : GetOk xs (getS xs).1 (getS xs).2.1 (getS xs).2.2 := getG_ok hx (getAt_start xs)
/-- Numbers that may be below 0, as others. -/
def zig (n : Int) : Nat := if n < 0 then (-2 * n - 1).toNat else (2 * n).toNat
def unzig (n : Int) : Int := if n % 2 = 1 then -(n / 2) - 1 else n / 2
theorem unzig_zig (n : Int) : unzig (zig n) = n := by unfold unzig zig; split <;> split <;> omega
theorem zig_inj {m n : Int} (h : zig m = zig n) : m = n := by rw [← unzig_zig m, ← unzig_zig n, h]
theorem zig_odd (n : Int) : zig n % 2 = 1 ↔ n < 0 := by unfold zig; split <;> omega
theorem numL_inj {m n : Nat} (hm : m < 9223372036854775808) (hn : n < 9223372036854775808) (h : numL m = numL n) : m = n := by
  have a := getS_num hm []
  have b := getS_num hn []
  rw [h, b] at a
  have := congrArg Prod.fst a
  simp at this; omega
theorem numL_mod (n : Nat) : (numL n).getD 0 0 % 2 = (n : Int) % 2 := by
  rcases Nat.lt_or_ge n 128 with h | h
  · rw [numL_low h]; rfl
  · rw [numL_high h]; simp only [List.getD_cons_zero]; omega
end Go.Proofs.Ytdpblimhfmfbnaa.Wr
/- Plain words of layer 22: which commands may be. -/
namespace Go.Proofs.Ytdpblimhfmfbnaa
/-- What a command has beside its player, its number and its kind. -/
structure CF where
  n : Int
  u : List Int
  t : Int
  w : Int
  h : Int
  x : Int
  y : Int
def ascL (last : Int) : List Int → Bool
  | [] => true
  | a :: l => decide (last < a ∧ a ≤ 1099511627776) && ascL a l
def risL : List Int → Bool
  | [] => true
  | [_] => true
  | a :: b :: l => decide (a < b) && risL (b :: l)
def btwL (lo hi : Int) (l : List Int) : Bool := decide (∀ a ∈ l, lo ≤ a ∧ a ≤ hi)
def idsB (l : List Int) : Bool := decide (1 ≤ l.length ∧ l.length ≤ 64) && ascL 0 l
def vB (q : Int) (f : CF) : Bool :=
  if q = 0 then decide (0 ≤ f.n ∧ f.n < 4) else if q = 1 then decide (1 ≤ f.n ∧ f.n ≤ 1099511627776) else if q = 2 then idsB f.u else
  if q = 3 then decide (0 ≤ f.t ∧ f.t ≤ 16383) else if q = 4 then decide (1 ≤ f.w ∧ f.w ≤ 4 ∧ 1 ≤ f.h ∧ f.h ≤ 4) else
  decide (-1099511627776 ≤ f.x ∧ f.x ≤ 1099511627776 ∧ -1099511627776 ≤ f.y ∧ f.y ≤ 1099511627776)
def eC (q : Int) (f : CF) : CF :=
  if q = 0 then { f with n := 0 } else if q = 1 then { f with n := 0 } else if q = 2 then { f with u := [] } else if q = 3 then { f with t := 0 } else if q = 4 then { f with w := 0, h := 0 } else { f with x := 0, y := 0 }
def remB (f : CF) : Bool := decide (f.n = 0 ∧ f.u = [] ∧ f.t = 0 ∧ f.w = 0 ∧ f.h = 0 ∧ f.x = 0 ∧ f.y = 0)
def chkL : List Int → CF → Bool
  | [], f => remB f
  | q :: l, f => vB q f && chkL l (eC q f)
def partsL (k : Int) : List Int :=
  if k = 1 then [0, 5] else if k = 2 then [2, 3] else if k = 3 then [2] else if k = 4 then [3, 4] else if k = 5 then [1] else if k = 6 then [2, 1] else if k = 7 then [1, 3] else []
def baseB (p s : Int) : Bool := decide (1 ≤ p ∧ p ≤ 8 ∧ 0 ≤ s ∧ s ≤ 1099511627776)
def okC (p s k : Int) (f : CF) : Bool := (!(partsL k).isEmpty && baseB p s) && chkL (partsL k) f
theorem partsL_bd (k : Int) : (partsL k).length ≤ 2 ∧ ∀ q ∈ partsL k, 0 ≤ q ∧ q ≤ 5 := by
  unfold partsL
  (repeat' split) <;> simp
theorem partsL_none {k : Int} (h : k < 1 ∨ 7 < k) : partsL k = [] := by
  unfold partsL
  (repeat' split) <;> first | omega | rfl
theorem partsL_some {k : Int} (h1 : 1 ≤ k) (h2 : k ≤ 7) : 1 ≤ (partsL k).length := by
  unfold partsL
  (repeat' split) <;> simp; omega
theorem asc_ge {l : List Int} : ∀ {a : Int}, ascL a l = true → ∀ b ∈ l, a < b ∧ b ≤ 1099511627776 := by
  induction l with
  | nil => intro a _ b hb; simp at hb
  | cons c l ih =>
    intro a h b hb
    unfold ascL at h
    simp at h
    rcases List.mem_cons.1 hb with rfl | hb
    · omega
    · have := ih h.2 b hb; omega
theorem ris_asc (l : List Int) : ∀ (a : Int), (ascL a l = true) ↔ (risL l = true ∧ (∀ b ∈ l, b ≤ 1099511627776) ∧ (∀ b ∈ l.head?, a < b)) := by
  induction l with
  | nil => intro a; simp [ascL, risL]
  | cons c l ih =>
    intro a
    rw [ascL]
    simp only [Bool.and_eq_true, decide_eq_true_eq, ih c]
    cases l with
    | nil => simp [risL]; omega
    | cons d l =>
      simp only [risL, Bool.and_eq_true, decide_eq_true_eq, List.mem_cons, List.head?_cons, Option.mem_def, Option.some.injEq, forall_eq_or_imp, forall_eq']
      constructor
      · rintro ⟨⟨h1, h2⟩, h3, h4, h5⟩
        exact ⟨⟨h5, h3⟩, ⟨h2, h4⟩, h1⟩
      · rintro ⟨⟨h1, h2⟩, ⟨h3, h4⟩, h5⟩
        exact ⟨⟨h5, h3⟩, h2, h4, h1⟩
theorem ids_eq (l : List Int) : (risL l && btwL 1 1099511627776 l) = ascL 0 l := by
  rw [Bool.eq_iff_iff]
  simp only [Bool.and_eq_true]
  constructor
  · rintro ⟨h1, h2⟩
    unfold btwL at h2
    simp at h2
    refine (ris_asc l 0).2 ⟨h1, fun b hb => (h2 b hb).2, fun b hb => ?_⟩
    have := (h2 b (List.mem_of_mem_head? hb)).1
    omega
  · intro h
    refine ⟨((ris_asc l 0).1 h).1, ?_⟩
    unfold btwL
    simp
    intro b hb
    have := asc_ge h b hb
    omega
/-- The reference's word. -/
def refC (p s k : Int) (f : CF) : Bool :=
  baseB p s && (
  if k = 1 then vB 0 f && vB 5 f && decide (f.u = [] ∧ f.t = 0 ∧ f.w = 0 ∧ f.h = 0)
  else if k = 2 then vB 2 f && vB 3 f && decide (f.n = 0 ∧ f.w = 0 ∧ f.h = 0 ∧ f.x = 0 ∧ f.y = 0)
  else if k = 3 then vB 2 f && decide (f.n = 0 ∧ f.t = 0 ∧ f.w = 0 ∧ f.h = 0 ∧ f.x = 0 ∧ f.y = 0)
  else if k = 4 then vB 3 f && vB 4 f && decide (f.n = 0 ∧ f.u = [] ∧ f.x = 0 ∧ f.y = 0)
  else if k = 5 then vB 1 f && decide (f.u = [] ∧ f.t = 0 ∧ f.w = 0 ∧ f.h = 0 ∧ f.x = 0 ∧ f.y = 0)
  else if k = 6 then vB 2 f && vB 1 f && decide (f.t = 0 ∧ f.w = 0 ∧ f.h = 0 ∧ f.x = 0 ∧ f.y = 0)
  else if k = 7 then vB 1 f && vB 3 f && decide (f.u = [] ∧ f.w = 0 ∧ f.h = 0 ∧ f.x = 0 ∧ f.y = 0)
  else false)
theorem refC_eq (p s k : Int) (f : CF) : okC p s k f = refC p s k f := by
  unfold okC refC partsL
  (repeat' split) <;> subst_vars <;> simp [chkL, remB, eC, vB] <;> cases baseB p s <;> simp <;> (rw [Bool.eq_iff_iff]; simp; try grind)
end Go.Proofs.Ytdpblimhfmfbnaa
/- Slices of bytes: what it means that one reads as a list; bytes copied, compared. -/
namespace Go.Proofs.Ytdpblimhfmfbnaa
open Go.RowKit
set_option linter.unusedVariables false
/-- A fact kept behind a name. -/
structure Hk (p : Prop) : Prop where
  out : p
/-- The n cells that a slice at this address holds, below block B. -/
def Rd (w : World) (B : Nat) (a : Option Addr) (n : Nat) (f : Nat → Value) : Prop :=
  0 < n → ∃ b off, a = some ⟨b, off, none⟩ ∧ b < B ∧ ∀ k, k < n → w.cell? ⟨b, off + k, none⟩ = some (f k)
theorem Rd.below {w w' : World} {B B' n : Nat} {a : Option Addr} {f : Nat → Value} (h : Rd w B a n f) (hb : Below B' w w') (hB : B ≤ B') : Rd w' B a n f := fun hn => by
  obtain ⟨b, off, e, hlt, hc⟩ := h hn
  exact ⟨b, off, e, hlt, fun k hk => (hb.cell (p := ⟨b, off + k, none⟩) (Nat.lt_of_lt_of_le hlt hB)).trans (hc k hk)⟩
theorem Rd.grown {w w' : World} {B n : Nat} {a : Option Addr} {f : Nat → Value} {row : Option Nat} (h : Rd w B a n f) (hg : w.grownBy w' row) (hB : B ≤ w.heap.size) (hr : ∀ g, row = some g → B ≤ g) : Rd w' B a n f := fun hn => by
  obtain ⟨b, off, e, hlt, hc⟩ := h hn
  exact ⟨b, off, e, hlt, fun k hk => (World.cell?_of_block (hg.block b (by omega) (fun e => by have := hr _ e.symm; omega))).trans (hc k hk)⟩
theorem Rd.mono {w : World} {B B' n : Nat} {a : Option Addr} {f : Nat → Value} (h : Rd w B a n f) (hB : B ≤ B') : Rd w B' a n f := fun hn => by
  obtain ⟨b, off, e, hlt, hc⟩ := h hn
  exact ⟨b, off, e, by omega, hc⟩
def u8 (x : Int) : Value := .int .u8 x
/-- The slice reads as these bytes. -/
structure By (w : World) (B : Nat) (a : Option Addr) (n : Nat) (xs : List Int) : Prop where
  len : xs.length = n
  byt : ∀ b ∈ xs, Fn.Byt b
  rd : Rd w B a n (fun k => .int .u8 (xs.getD k 0))
theorem getD_mem {xs : List Int} {k : Nat} (h : k < xs.length) : xs.getD k 0 ∈ xs := by
  have : xs.getD k 0 = xs[k] := by simp [List.getD, List.getElem?_eq_getElem h]
  rw [this]; exact List.getElem_mem h
section
variable {w w' : World} {B B' n : Nat} {a : Option Addr} {xs : List Int}
theorem By.below (h : By w B a n xs) (hb : Below B' w w') (hB : B ≤ B') : By w' B a n xs := ⟨h.len, h.byt, h.rd.below hb hB⟩
theorem By.mono (h : By w B a n xs) (hB : B ≤ B') : By w B' a n xs := ⟨h.len, h.byt, h.rd.mono hB⟩
theorem By.grown {row : Option Nat} (h : By w B a n xs) (hg : w.grownBy w' row) (hB : B ≤ w.heap.size) (hr : ∀ g, row = some g → B ≤ g) : By w' B a n xs := ⟨h.len, h.byt, h.rd.grown hg hB hr⟩
theorem By.drew (h : By w B a n xs) : By w.drew B a n xs := ⟨h.len, h.byt, h.rd⟩
theorem By.drewN (h : By w B a n xs) (k : Nat) : By (w.drewN k) B a n xs := ⟨h.len, h.byt, h.rd⟩
theorem By.alloc (h : By w B a n xs) (hB : B ≤ w.heap.size) (o : Obj) : By (w.alloc o) B a n xs := h.below ((Below.refl _ _).alloc (Nat.le_refl _) o) hB
theorem By.bd (h : By w B a n xs) {k : Nat} (hk : k < n) : 0 ≤ xs.getD k 0 ∧ xs.getD k 0 ≤ 255 := h.byt _ (getD_mem (by rw [h.len]; exact hk))
theorem By.nil (w : World) (B : Nat) (a : Option Addr) : By w B a 0 [] := ⟨rfl, by simp, fun h => absurd h (by omega)⟩
theorem By.at_ (h : By w B a n xs) (hn : 0 < n) : ∃ b off, a = some ⟨b, off, none⟩ ∧ b < B ∧ ∀ k, k < n → w.cell? ⟨b, off + k, none⟩ = some (.int .u8 (xs.getD k 0)) := h.rd hn
end
theorem below_drewN {B : Nat} {a w : World} (h : Below B a w) (n : Nat) : Below B a (w.drewN n) := ⟨h.os, h.tape, h.output, h.size, h.block⟩
theorem By.head {w : World} {B n k : Nat} {a : Option Addr} {xs : List Int} (h : By w B a n xs) (hk : k ≤ n) : By w B a k (xs.take k) :=
  ⟨by have := h.len; simp; omega, fun b hb => h.byt b (List.mem_of_mem_take hb), fun hp => by
    obtain ⟨b, off, e, hb, hc⟩ := h.rd (by omega)
    refine ⟨b, off, e, hb, fun i hi => ?_⟩
    rw [hc i (by omega)]
    simp [List.getD, hi]⟩
theorem By.tail {w : World} {B n k b off : Nat} {xs : List Int} (h : By w B (some ⟨b, off, none⟩) n xs) (hk : k ≤ n) : By w B (some ⟨b, off + k, none⟩) (n - k) (xs.drop k) :=
  ⟨by have := h.len; simp; omega, fun b hb => h.byt b (List.mem_of_mem_drop hb), fun hp => by
    obtain ⟨b', off', e, hb, hc⟩ := h.rd (by omega)
    simp only [Option.some.injEq, Addr.mk.injEq] at e
    obtain ⟨rfl, rfl, _⟩ := e
    refine ⟨b, off + k, rfl, hb, fun i hi => ?_⟩
    rw [Nat.add_assoc, hc (k + i) (by omega)]
    simp [List.getD]⟩
/-- Bytes that were written out. -/
theorem By.lit (w : World) (xs : List Int) (t : TypeId) (fr : Nat × Nat) (B n : Nat) (hl : xs.length = n) (hx : ∀ b ∈ xs, Fn.Byt b) (hB : w.heap.size < B) : By (w.alloc (.cells (xs.map (Value.int .u8)).toArray t fr)) B (some ⟨w.heap.size, 0, none⟩) n xs := by
  refine ⟨hl, hx, fun _ => ⟨_, _, rfl, hB, fun k hk => ?_⟩⟩
  rw [Nat.zero_add, World.cell?_alloc_mark]
  simp [List.getD, List.getElem?_eq_getElem (show k < xs.length by omega)]
theorem ri {k : IntKind} {a b : Int} (h : a = b) : Ending.returned (.int k a) = .returned (.int k b) := by rw [h]
/-- A value that owns these bytes. -/
def OwnB (w : World) (base : Nat) (v : Value) (n : Nat) (xs : List Int) : Prop := xs.length = n ∧ (∀ b ∈ xs, Fn.Byt b) ∧ w.ownsRow base 5 1 v n (xs.map (Value.int .u8))
theorem OwnB.lt {w : World} {base n : Nat} {v : Value} {xs : List Int} (h : OwnB w base v n xs) : ∀ k, v.ownBlock = some k → base ≤ k ∧ k < w.heap.size := h.2.2.lt
theorem OwnB.by_ {w : World} {base n : Nat} {v : Value} {xs : List Int} (h : OwnB w base v n xs) : ∃ a c, v = .slice a n c ∧ n ≤ c ∧ By w w.heap.size a n xs ∧ (∀ b off, a = some ⟨b, off, none⟩ → base ≤ b ∧ off = 0 ∧ w.frozen? ⟨b, 0, none⟩ = false) := by
  obtain ⟨h1, h2, h3⟩ := h
  have h3' := h3
  rcases h3.2 with ⟨rfl, rfl⟩ | ⟨g, cap, cur, rfl, hg, hh, hc, hm, hs, ht⟩
  · exact ⟨none, 0, rfl, by omega, ⟨h1, h2, fun h => absurd h (by omega)⟩, fun b off h => by cases h⟩
  · refine ⟨_, _, rfl, hc, ⟨h1, h2, fun hn => ⟨g, 0, rfl, lt_of_block hh, fun k hk => ?_⟩⟩, fun b off e => ?_⟩
    · have := h3'.cellAt k (by omega)
      rw [Nat.zero_add, this]
      simp [List.getElem?_map, List.getD, List.getElem?_eq_getElem (show k < xs.length by omega)]
    · simp only [Option.some.injEq, Addr.mk.injEq] at e
      obtain ⟨rfl, rfl, _⟩ := e
      exact ⟨hg, rfl, h3'.frozenAt 0⟩
theorem OwnB.below {w w' : World} {base n : Nat} {v : Value} {xs : List Int} (h : OwnB w base v n xs) (hb : Below w.heap.size w w') : OwnB w' base v n xs := by
  refine ⟨h.1, h.2.1, h.2.2.kept (row := none) ⟨hb.os, hb.tape, hb.output, hb.size, fun i hi _ => hb.block i hi⟩ ?_⟩
  cases h' : v.ownBlock
  · exact .inl rfl
  · exact .inr (by simp)
theorem OwnB.weak {w : World} {base base' n : Nat} {v : Value} {xs : List Int} (h : OwnB w base v n xs) (hb : base' ≤ base) : OwnB w base' v n xs := by
  refine ⟨h.1, h.2.1, h.2.2.1, ?_⟩
  rcases h.2.2.2 with e | ⟨g, cap, cur, e1, hg, e2⟩
  · exact .inl e
  · exact .inr ⟨g, cap, cur, e1, by omega, e2⟩
theorem OwnB.set_ {w : World} {base n c g : Nat} {xs : List Int} (h : OwnB w base (.slice (some ⟨g, 0, none⟩) n c) n xs) (j : Nat) {y : Int} (hy : Fn.Byt y) : OwnB (w.setCell ⟨g, j, none⟩ (.int .u8 y)) base (.slice (some ⟨g, 0, none⟩) n c) n (xs.set j y) := by
  refine ⟨by rw [List.length_set]; exact h.1, fun b hb => ?_, ?_⟩
  · rcases List.mem_or_eq_of_mem_set hb with h1 | rfl
    · exact h.2.1 b h1
    · exact hy
  · have := (h.2.2.stored j (.int .u8 y)).1
    rwa [List.map_set]
theorem OwnB.drewN {w : World} {base n : Nat} {v : Value} {xs : List Int} (h : OwnB w base v n xs) (k : Nat) : OwnB (w.drewN k) base v n xs := h
theorem OwnB.drew {w : World} {base n : Nat} {v : Value} {xs : List Int} (h : OwnB w base v n xs) : OwnB w.drew base v n xs := h
theorem info_u8 : (Try.prog.info? 5).map (fun i => (i.zero, i.size, i.bytes)) = some (some (.int .u8 0), 1, 1) := by kernel_rfl
theorem take_map (xs : List Int) (k : Nat) (h : k < xs.length) : List.take k (List.map (Value.int .u8) xs) ++ [.int .u8 (xs[k]?.getD 0)] = (xs.take (k + 1)).map (Value.int .u8) := by
  rw [List.take_succ_eq_append_getElem h, List.map_append, List.map_take]
  simp [List.getElem?_eq_getElem h]
theorem one_new (w : World) (v : Value) (t : TypeId) : ∀ (j : Nat) (u : Value), [v][j]? = some u → (w.alloc (.cells #[v] t)).cell? ((⟨w.heap.size, 0, none⟩ : Addr).add j) = some u := by
  intro j u hj
  match j, hj with
  | 0, hj => simp at hj; subst hj; simp [Addr.add]
theorem eq_of_getD {xs ys : List Int} (hl : xs.length = ys.length) (h : ∀ k, k < xs.length → xs.getD k 0 = ys.getD k 0) : xs = ys := by
  refine List.ext_getElem hl fun k h1 h2 => ?_
  have := h k h1
  simpa [List.getD, List.getElem?_eq_getElem h1, List.getElem?_eq_getElem h2] using this
end Go.Proofs.Ytdpblimhfmfbnaa
/- Arguments that hold slices of bytes: what is known of them. -/
namespace Go.Proofs.Ytdpblimhfmfbnaa
open Go.ChangeShapes Go.WideShapes Go.ChangeAt Go.RowKit Go.Deep
set_option linter.unusedVariables false
theorem add_plus {b off : Nat} (j : Nat) : (⟨b, off, none⟩ : Addr).add j = ⟨b, off + j, none⟩ := by
  unfold Addr.add; split <;> simp_all
end Go.Proofs.Ytdpblimhfmfbnaa
/- Slices of numbers: what is known of them. -/
namespace Go.Proofs.Ytdpblimhfmfbnaa
open Go.ChangeShapes Go.WideShapes Go.ChangeAt Go.RowKit Go.Deep
set_option linter.unusedVariables false
/-- The slice reads as these numbers. -/
structure Nq (w : World) (B : Nat) (a : Option Addr) (n : Nat) (xs : List Int) : Prop where
  len : xs.length = n
  rd : 0 < n → ∃ b off, a = some ⟨b, off, none⟩ ∧ b < B ∧ ∀ k, k < n → w.cell? ⟨b, off + k, none⟩ = some (.int .i64 (xs.getD k 0))
theorem Nq.below {w w' : World} {B B' n : Nat} {a : Option Addr} {xs : List Int} (h : Nq w B a n xs) (hb : Below B' w w') (hB : B ≤ B') : Nq w' B a n xs := ⟨h.len, fun hn => by
  obtain ⟨b, off, e, hlt, hc⟩ := h.rd hn
  exact ⟨b, off, e, hlt, fun k hk => (hb.cell (p := ⟨b, off + k, none⟩) (Nat.lt_of_lt_of_le hlt hB)).trans (hc k hk)⟩⟩
theorem Nq.mono {w : World} {B B' n : Nat} {a : Option Addr} {xs : List Int} (h : Nq w B a n xs) (hB : B ≤ B') : Nq w B' a n xs := ⟨h.len, fun hn => by
  obtain ⟨b, off, e, hlt, hc⟩ := h.rd hn
  exact ⟨b, off, e, by omega, hc⟩⟩
theorem Nq.drewN {w : World} {B n : Nat} {a : Option Addr} {xs : List Int} (h : Nq w B a n xs) (m : Nat) : Nq (w.drewN m) B a n xs := ⟨h.len, h.rd⟩
theorem Nq.nil (w : World) (B : Nat) (a : Option Addr) : Nq w B a 0 [] := ⟨rfl, fun h => absurd h (by omega)⟩
theorem aq_plus {b off : Nat} (j : Nat) : (⟨b, off, none⟩ : Addr).add j = ⟨b, off + j, none⟩ := by
  unfold Addr.add; split <;> simp_all
theorem nq_of {H : Type} {enc : TypeId × Value → H} {w : World} {base : Nat} {spare : Nat → Bool} {held : Bool} {fuel : Nat} {x : DataW H × List MemPlace} {v : Value}
    (hf : DataW.trod enc Try.prog w base spare held fuel 25 [v] = some x) : ∃ a0 len0 cap0 xs, v = .slice a0 len0 cap0 ∧ len0 ≤ 9223372036854775807 ∧ Nq w w.heap.size a0 len0 xs := by
  rcases open_ints Try.underlying25 Try.underlying3 (by kernel_rfl) hf with ⟨hcs, _⟩ | ⟨a, l, c, zs, hcs, _, hl, hm, hz, _, hc, hwf⟩
  · simp at hcs; subst hcs
    exact ⟨none, 0, 0, [], rfl, by omega, rfl, fun h => absurd h (by omega)⟩
  · simp at hcs; subst hcs
    have hzl : l ≤ zs.length := by rw [hz]; split <;> omega
    refine ⟨_, _, _, zs.take l, rfl, by unfold maxLen at hm; omega, by simp; omega, fun hn => ?_⟩
    obtain ⟨b, off, spot⟩ := a
    have hs : spot = none := by
      have h0 := World.cell?_spot (hc 0 (by omega))
      simpa [Addr.add] using h0
    subst hs
    refine ⟨b, off, rfl, ?_, fun k hk => ?_⟩
    · have := hc 0 (by omega); rw [aq_plus] at this; exact World.block_lt_of_cell? _ _ this
    · have := hc k (by omega)
      rw [aq_plus] at this
      rw [this]
      simp [List.getD, hk]
end Go.Proofs.Ytdpblimhfmfbnaa
