/- Plain arithmetic for layer 3 (fnv): a byte's step can be told apart. No program in it. -/
import Derived.Laws.BitsAllLaws
import Derived.RowKit
namespace Go.Proofs.Ytgmhalcofcokbaa.Fn
open Go
/-- One byte's step. -/
def stepS (s b : Int) : Int := IntKind.u64.wrap (bits BinOp.xor IntKind.u64 s b * 1099511628211)
def sumS (s : Int) (l : List Int) : Int := l.foldl stepS s
def U64 (s : Int) : Prop := 0 ≤ s ∧ s ≤ 18446744073709551615
def Byt (b : Int) : Prop := 0 ≤ b ∧ b ≤ 255
theorem wrapu (x : Int) : IntKind.u64.wrap x = x % 18446744073709551616 := by simp [IntKind.wrap, IntKind.bits, IntKind.signed]
theorem step_bd (s b : Int) : U64 (stepS s b) := by unfold stepS U64; rw [wrapu]; omega
theorem xor_eq {s b : Int} (hs : U64 s) (hb : Byt b) : bits BinOp.xor IntKind.u64 s b = ((s.toNat ^^^ b.toNat : Nat) : Int) := by
  unfold U64 at hs; unfold Byt at hb
  exact u64_xor s b (by omega) (by omega) (by omega) (by omega)
theorem xor_lt {s b : Int} (hs : U64 s) (hb : Byt b) : s.toNat ^^^ b.toNat < 18446744073709551616 := by
  unfold U64 at hs; unfold Byt at hb
  exact Nat.xor_lt_two_pow (n := 64) (by omega) (by omega)
/-- The factor is odd: what it has multiplied can be told. -/
theorem unit_mod (z : Int) : (z * 1099511628211 % 18446744073709551616) * 14886173955864302971 % 18446744073709551616 = z % 18446744073709551616 := by
  rw [Int.mul_emod, Int.emod_emod, ← Int.mul_emod, Int.mul_assoc, Int.mul_emod]
  have e : (1099511628211 * 14886173955864302971 : Int) % 18446744073709551616 = 1 := by decide +kernel
  rw [e, Int.mul_one, Int.emod_emod]
theorem prime_inj {x y : Nat} (hx : x < 18446744073709551616) (hy : y < 18446744073709551616) (h : ((x : Int) * 1099511628211) % 18446744073709551616 = ((y : Int) * 1099511628211) % 18446744073709551616) : x = y := by
  have a := unit_mod x
  have b := unit_mod y
  rw [h, b] at a
  clear b h
  omega
theorem step_inj {s t b c : Int} (hs : U64 s) (ht : U64 t) (hb : Byt b) (hc : Byt c) (h : stepS s b = stepS t c) : s.toNat ^^^ b.toNat = t.toNat ^^^ c.toNat := by
  unfold stepS at h
  rw [wrapu, wrapu, xor_eq hs hb, xor_eq ht hc] at h
  exact prime_inj (xor_lt hs hb) (xor_lt ht hc) h
theorem step_inj_s {s t b : Int} (hs : U64 s) (ht : U64 t) (hb : Byt b) (h : stepS s b = stepS t b) : s = t := by
  have e := step_inj hs ht hb hb h
  have e2 := congrArg (· ^^^ b.toNat) e
  simp only [Nat.xor_assoc, Nat.xor_self, Nat.xor_zero] at e2
  unfold U64 at hs ht; omega
theorem step_inj_b {s b c : Int} (hs : U64 s) (hb : Byt b) (hc : Byt c) (h : stepS s b = stepS s c) : b = c := by
  have e := step_inj hs hs hb hc h
  have e2 := congrArg (s.toNat ^^^ ·) e
  simp only [← Nat.xor_assoc, Nat.xor_self, Nat.zero_xor] at e2
  unfold Byt at hb hc; omega
theorem sum_bd {s : Int} (hs : U64 s) (l : List Int) : U64 (sumS s l) := by
  unfold sumS
  induction l generalizing s with
  | nil => exact hs
  | cons b l ih => exact ih (step_bd s b)
theorem sum_inj {s t : Int} (hs : U64 s) (ht : U64 t) {l : List Int} (hl : ∀ b ∈ l, Byt b) (h : sumS s l = sumS t l) : s = t := by
  unfold sumS at h
  induction l generalizing s t with
  | nil => exact h
  | cons b l ih =>
    have := ih (step_bd s b) (step_bd t b) (fun x hx => hl x (List.mem_cons_of_mem _ hx)) h
    exact step_inj_s hs ht (hl b (List.mem_cons_self ..)) this
theorem sum_append (s : Int) (l m : List Int) : sumS s (l ++ m) = sumS (sumS s l) m := by unfold sumS; exact List.foldl_append
theorem sum_snoc (s : Int) (l : List Int) (b : Int) : sumS s (l ++ [b]) = stepS (sumS s l) b := by rw [sum_append]; rfl
theorem sum_take {s : Int} {l : List Int} {k : Nat} (h : k < l.length) : sumS s (l.take (k + 1)) = stepS (sumS s (l.take k)) (l.getD k 0) := by
  rw [List.take_succ_eq_append_getElem h, sum_snoc]
  simp [List.getD, List.getElem?_eq_getElem h]
theorem sum_changed {s : Int} (hs : U64 s) {l : List Int} (hl : ∀ b ∈ l, Byt b) {k : Nat} (hk : k < l.length) {c : Int} (hc : Byt c) (hne : c ≠ l.getD k 0) : sumS s (l.set k c) ≠ sumS s l := by
  intro h
  have e1 : l = l.take k ++ (l.getD k 0 :: l.drop (k + 1)) := by
    have : l.getD k 0 = l[k] := by simp [List.getD, List.getElem?_eq_getElem hk]
    rw [this, List.getElem_cons_drop, List.take_append_drop]
  have e2 : l.set k c = l.take k ++ (c :: l.drop (k + 1)) := List.set_eq_take_append_cons_drop.trans (by rw [if_pos hk])
  have hb : Byt (l.getD k 0) := by
    have : l.getD k 0 = l[k] := by simp [List.getD, List.getElem?_eq_getElem hk]
    rw [this]; exact hl _ (List.getElem_mem hk)
  rw [e2] at h
  have h' : sumS s (l.take k ++ (c :: l.drop (k + 1))) = sumS s (l.take k ++ (l.getD k 0 :: l.drop (k + 1))) := h.trans (congrArg _ e1)
  rw [sum_append, sum_append] at h'
  have h2 : sumS (stepS (sumS s (l.take k)) c) (l.drop (k + 1)) = sumS (stepS (sumS s (l.take k)) (l.getD k 0)) (l.drop (k + 1)) := h'
  have h3 := sum_inj (step_bd _ _) (step_bd _ _) (fun x hx => hl x (List.mem_of_mem_drop hx)) h2
  exact hne (step_inj_b (sum_bd hs _) hc hb h3)
/-- A number brought from 0 below n. -/
def wiS (i n : Int) : Int := i % 18446744073709551616 % n
theorem wi_bd (i : Int) {n : Int} (h : 1 ≤ n) : 0 ≤ wiS i n ∧ wiS i n < n := by
  unfold wiS
  exact ⟨Int.emod_nonneg _ (by omega), Int.emod_lt_of_pos _ (by omega)⟩
theorem xor8 {x d : Int} (hx : Byt x) (hd : 1 ≤ d ∧ d ≤ 255) : Byt (bits BinOp.xor IntKind.u8 x d) ∧ bits BinOp.xor IntKind.u8 x d ≠ x := by
  unfold Byt at hx
  rw [u8_xor x d (by omega) (by omega) (by omega) (by omega)]
  have hl : x.toNat ^^^ d.toNat < 256 := Nat.xor_lt_two_pow (n := 8) (by omega) (by omega)
  refine ⟨by unfold Byt; omega, fun h => ?_⟩
  have e : x.toNat ^^^ d.toNat = x.toNat := by omega
  have e2 := congrArg (x.toNat ^^^ ·) e
  simp only [← Nat.xor_assoc, Nat.xor_self, Nat.zero_xor] at e2
  omega
end Go.Proofs.Ytgmhalcofcokbaa.Fn
