import Derived.Test.YtifnmgbeepgfiaaDa
import Derived.Laws.BitsAllLaws
import Derived.RowKit
import Derived.WalkKit
import Derived.WalkLawsBesides
import Derived.WalkSpells
import Derived.Outline
import Derived.Deep.QuietTactic
import Derived.BigQuiet
import Derived.Deep.RegionHeld3
import Derived.Deep.RegionWith
import Derived.Maps.AppendAt
import Derived.Lib.SlBytesConst
import Derived.Test.YtifnmgbeepgfiaaProg
import Derived.IntWalk
/- Lengths as roots up to a bound; three, four, five. -/
namespace Go.Proofs.Ytifnmgbeepgfiaa.Fx
set_option linter.unusedVariables false
theorem lenS_upto {a b : Int} (ha : I64 a) (hb : I64 b) : IsRootUpto (SQ a b) 9223372036854775807 (lenS a b) := by
  have hs := SQ_bd ha hb
  have hr := rootS_root hs.1
  have hl := lenS_bd ha hb
  unfold lenS at hl ⊢
  split
  · rename_i hc
    refine ⟨by omega, by omega, ?_, .inr rfl⟩
    have := sq_le (a := 9223372036854775807) (b := rootS (SQ a b)) (by omega) (by omega)
    have := hr.lo
    omega
  · rename_i hc
    exact ⟨hr.R0, by omega, hr.lo, .inl hr.hi⟩
theorem len_five : lenS 196608 262144 = 327680 := by
  have h : rootS (SQ 196608 262144) = 327680 := rootS_of ⟨by omega, by decide, by decide⟩
  unfold lenS; rw [h]; rfl
end Go.Proofs.Ytifnmgbeepgfiaa.Fx
/- Nearness, as a truth. -/
namespace Go.Proofs.Ytifnmgbeepgfiaa.Fx
set_option linter.unusedVariables false
def withinS (a b c d r : Int) : Bool := decide (0 ≤ r) && decide (SQ (subS a c) (subS b d) < r * r)
theorem sub_self {a : Int} (h : I64 a) : subS a a = 0 := by
  have h1 := cnt_bd h
  unfold subS addS negS
  rw [cnt_in (x := -cnt a) (by omega), show cnt a + -cnt a = 0 by omega]
  decide
theorem SQ_zero : SQ 0 0 = 0 := by decide
theorem within_zero {a b c d : Int} : withinS a b c d 0 = false := by
  have h1 : 0 ≤ SQ (subS a c) (subS b d) := by
    unfold SQ
    have := Int.mul_nonneg (sz_bd (sub_i64 a c)).1 (sz_bd (sub_i64 a c)).1
    have := Int.mul_nonneg (sz_bd (sub_i64 b d)).1 (sz_bd (sub_i64 b d)).1
    omega
  unfold withinS
  rw [decide_eq_false (p := SQ (subS a c) (subS b d) < 0 * 0) (by omega)]
  simp
theorem within_self {a b : Int} (ha : I64 a) (hb : I64 b) : withinS a b a b 1 = true := by
  unfold withinS; rw [sub_self ha, sub_self hb, SQ_zero]; decide
end Go.Proofs.Ytifnmgbeepgfiaa.Fx
/- Plain arithmetic for layer 3 (fnv): a byte's step can be told apart. No program in it. -/
namespace Go.Proofs.Ytifnmgbeepgfiaa.Fn
open Go
/-- One byte's step. -/
def stepS (s b : Int) : Int := IntKind.u64.wrap (bits BinOp.xor IntKind.u64 s b * 1099511628211)
def sumS (s : Int) (l : List Int) : Int := l.foldl stepS s
def U64 (s : Int) : Prop := 0 ≤ s ∧ s ≤ 18446744073709551615
def Byt (b : Int) : Prop := 0 ≤ b ∧ b ≤ 255
theorem wrapu (x : Int) : IntKind.u64.wrap x = x % 18446744073709551616 := by simp [IntKind.wrap, IntKind.bits, IntKind.signed]
theorem step_bd (s b : Int) : U64 (stepS s b) := by unfold stepS U64; rw [wrapu]; omega
theorem xor_eq {s b : Int} (hs : U64 s) (hb : Byt b) : bits BinOp.xor IntKind.u64 s b = ((s.toNat ^^^ b.toNat : Nat) : Int) := by
  unfold U64 at hs; unfold Byt at hb
  exact u64_xor s b (by omega) (by omega) (by omega) (by omega)
theorem xor_lt {s b : Int} (hs : U64 s) (hb : Byt b) : s.toNat ^^^ b.toNat < 18446744073709551616 := by
  unfold U64 at hs; unfold Byt at hb
  exact Nat.xor_lt_two_pow (n := 64) (by omega) (by omega)
/-- The factor is odd: what it has multiplied can be told. -/
theorem unit_mod (z : Int) : (z * 1099511628211 % 18446744073709551616) * 14886173955864302971 % 18446744073709551616 = z % 18446744073709551616 := by
  rw [Int.mul_emod, Int.emod_emod, ← Int.mul_emod, Int.mul_assoc, Int.mul_emod]
  have e : (1099511628211 * 14886173955864302971 : Int) % 18446744073709551616 = 1 := by decide +kernel
  rw [e, Int.mul_one, Int.emod_emod]
theorem prime_inj {x y : Nat} (hx : x < 18446744073709551616) (hy : y < 18446744073709551616) (h : ((x : Int) * 1099511628211) % 18446744073709551616 = ((y : Int) * 1099511628211) % 18446744073709551616) : x = y := by
  have a := unit_mod x
  have b := unit_mod y
  rw [h, b] at a
  clear b h
  omega
theorem step_inj {s t b c : Int} (hs : U64 s) (ht : U64 t) (hb : Byt b) (hc : Byt c) (h : stepS s b = stepS t c) : s.toNat ^^^ b.toNat = t.toNat ^^^ c.toNat := by
  unfold stepS at h
  rw [wrapu, wrapu, xor_eq hs hb, xor_eq ht hc] at h
  exact prime_inj (xor_lt hs hb) (xor_lt ht hc) h
theorem step_inj_s {s t b : Int} (hs : U64 s) (ht : U64 t) (hb : Byt b) (h : stepS s b = stepS t b) : s = t := by
  have e := step_inj hs ht hb hb h
  have e2 := congrArg (· ^^^ b.toNat) e
  simp only [Nat.xor_assoc, Nat.xor_self, Nat.xor_zero] at e2
  unfold U64 at hs ht; omega
theorem step_inj_b {s b c : Int} (hs : U64 s) (hb : Byt b) (hc : Byt c) (h : stepS s b = stepS s c) : b = c := by
  have e := step_inj hs hs hb hc h
  have e2 := congrArg (s.toNat ^^^ ·) e
  simp only [← Nat.xor_assoc, Nat.xor_self, Nat.zero_xor] at e2
  unfold Byt at hb hc; omega
theorem sum_bd {s : Int} (hs : U64 s) (l : List Int) : U64 (sumS s l) := by
  unfold sumS
  induction l generalizing s with
  | nil => exact hs
  | cons b l ih => exact ih (step_bd s b)
theorem sum_inj {s t : Int} (hs : U64 s) (ht : U64 t) {l : List Int} (hl : ∀ b ∈ l, Byt b) (h : sumS s l = sumS t l) : s = t := by
  unfold sumS at h
  induction l generalizing s t with
  | nil => exact h
  | cons b l ih =>
    have := ih (step_bd s b) (step_bd t b) (fun x hx => hl x (List.mem_cons_of_mem _ hx)) h
    exact step_inj_s hs ht (hl b (List.mem_cons_self ..)) this
theorem sum_append (s : Int) (l m : List Int) : sumS s (l ++ m) = sumS (sumS s l) m := by unfold sumS; exact List.foldl_append
theorem sum_snoc (s : Int) (l : List Int) (b : Int) : sumS s (l ++ [b]) = stepS (sumS s l) b := by rw [sum_append]; rfl
theorem sum_take {s : Int} {l : List Int} {k : Nat} (h : k < l.length) : sumS s (l.take (k + 1)) = stepS (sumS s (l.take k)) (l.getD k 0) := by
  rw [List.take_succ_eq_append_getElem h, sum_snoc]
  simp [List.getD, List.getElem?_eq_getElem h]
theorem sum_changed {s : Int} (hs : U64 s) {l : List Int} (hl : ∀ b ∈ l, Byt b) {k : Nat} (hk : k < l.length) {c : Int} (hc : Byt c) (hne : c ≠ l.getD k 0) : sumS s (l.set k c) ≠ sumS s l := by
  intro h
  have e1 : l = l.take k ++ (l.getD k 0 :: l.drop (k + 1)) := by
    have : l.getD k 0 = l[k] := by simp [List.getD, List.getElem?_eq_getElem hk]
    rw [this, List.getElem_cons_drop, List.take_append_drop]
  have e2 : l.set k c = l.take k ++ (c :: l.drop (k + 1)) := List.set_eq_take_append_cons_drop.trans (by rw [if_pos hk])
  have hb : Byt (l.getD k 0) := by
    have : l.getD k 0 = l[k] := by simp [List.getD, List.getElem?_eq_getElem hk]
    rw [this]; exact hl _ (List.getElem_mem hk)
  rw [e2] at h
  have h' : sumS s (l.take k ++ (c :: l.drop (k + 1))) = sumS s (l.take k ++ (l.getD k 0 :: l.drop (k + 1))) := h.trans (congrArg _ e1)
  rw [sum_append, sum_append] at h'
  have h2 : sumS (stepS (sumS s (l.take k)) c) (l.drop (k + 1)) = sumS (stepS (sumS s (l.take k)) (l.getD k 0)) (l.drop (k + 1)) := h'
  have h3 := sum_inj (step_bd _ _) (step_bd _ _) (fun x hx => hl x (List.mem_of_mem_drop hx)) h2
  exact hne (step_inj_b (sum_bd hs _) hc hb h3)
/-- A number brought from 0 below n. -/
def wiS (i n : Int) : Int := i % 18446744073709551616 % n
theorem wi_bd (i : Int) {n : Int} (h : 1 ≤ n) : 0 ≤ wiS i n ∧ wiS i n < n := by
  unfold wiS
  exact ⟨Int.emod_nonneg _ (by omega), Int.emod_lt_of_pos _ (by omega)⟩
theorem xor8 {x d : Int} (hx : Byt x) (hd : 1 ≤ d ∧ d ≤ 255) : Byt (bits BinOp.xor IntKind.u8 x d) ∧ bits BinOp.xor IntKind.u8 x d ≠ x := by
  unfold Byt at hx
  rw [u8_xor x d (by omega) (by omega) (by omega) (by omega)]
  have hl : x.toNat ^^^ d.toNat < 256 := Nat.xor_lt_two_pow (n := 8) (by omega) (by omega)
  refine ⟨by unfold Byt; omega, fun h => ?_⟩
  have e : x.toNat ^^^ d.toNat = x.toNat := by omega
  have e2 := congrArg (x.toNat ^^^ ·) e
  simp only [← Nat.xor_assoc, Nat.xor_self, Nat.zero_xor] at e2
  omega
end Go.Proofs.Ytifnmgbeepgfiaa.Fn
/- Slices of bytes: what it means that one reads as a list; bytes copied, compared. -/
namespace Go.Proofs.Ytifnmgbeepgfiaa
open Go.RowKit
set_option linter.unusedVariables false
/-- A fact kept behind a name. -/
structure Hk (p : Prop) : Prop where
  out : p
/-- The n cells that a slice at this address holds, below block B. -/
def Rd (w : World) (B : Nat) (a : Option Addr) (n : Nat) (f : Nat → Value) : Prop :=
  0 < n → ∃ b off, a = some ⟨b, off, none⟩ ∧ b < B ∧ ∀ k, k < n → w.cell? ⟨b, off + k, none⟩ = some (f k)
theorem Rd.below {w w' : World} {B B' n : Nat} {a : Option Addr} {f : Nat → Value} (h : Rd w B a n f) (hb : Below B' w w') (hB : B ≤ B') : Rd w' B a n f := fun hn => by
  obtain ⟨b, off, e, hlt, hc⟩ := h hn
  exact ⟨b, off, e, hlt, fun k hk => (hb.cell (p := ⟨b, off + k, none⟩) (Nat.lt_of_lt_of_le hlt hB)).trans (hc k hk)⟩
theorem Rd.grown {w w' : World} {B n : Nat} {a : Option Addr} {f : Nat → Value} {row : Option Nat} (h : Rd w B a n f) (hg : w.grownBy w' row) (hB : B ≤ w.heap.size) (hr : ∀ g, row = some g → B ≤ g) : Rd w' B a n f := fun hn => by
  obtain ⟨b, off, e, hlt, hc⟩ := h hn
  exact ⟨b, off, e, hlt, fun k hk => (World.cell?_of_block (hg.block b (by omega) (fun e => by have := hr _ e.symm; omega))).trans (hc k hk)⟩
theorem Rd.mono {w : World} {B B' n : Nat} {a : Option Addr} {f : Nat → Value} (h : Rd w B a n f) (hB : B ≤ B') : Rd w B' a n f := fun hn => by
  obtain ⟨b, off, e, hlt, hc⟩ := h hn
  exact ⟨b, off, e, by omega, hc⟩
def u8 (x : Int) : Value := .int .u8 x
/-- The slice reads as these bytes. -/
structure By (w : World) (B : Nat) (a : Option Addr) (n : Nat) (xs : List Int) : Prop where
  len : xs.length = n
  byt : ∀ b ∈ xs, Fn.Byt b
  rd : Rd w B a n (fun k => .int .u8 (xs.getD k 0))
theorem getD_mem {xs : List Int} {k : Nat} (h : k < xs.length) : xs.getD k 0 ∈ xs := by
  have : xs.getD k 0 = xs[k] := by simp [List.getD, List.getElem?_eq_getElem h]
  rw [this]; exact List.getElem_mem h
section
variable {w w' : World} {B B' n : Nat} {a : Option Addr} {xs : List Int}
theorem By.below (h : By w B a n xs) (hb : Below B' w w') (hB : B ≤ B') : By w' B a n xs := ⟨h.len, h.byt, h.rd.below hb hB⟩
theorem By.mono (h : By w B a n xs) (hB : B ≤ B') : By w B' a n xs := ⟨h.len, h.byt, h.rd.mono hB⟩
theorem By.grown {row : Option Nat} (h : By w B a n xs) (hg : w.grownBy w' row) (hB : B ≤ w.heap.size) (hr : ∀ g, row = some g → B ≤ g) : By w' B a n xs := ⟨h.len, h.byt, h.rd.grown hg hB hr⟩
theorem By.drew (h : By w B a n xs) : By w.drew B a n xs := ⟨h.len, h.byt, h.rd⟩
theorem By.drewN (h : By w B a n xs) (k : Nat) : By (w.drewN k) B a n xs := ⟨h.len, h.byt, h.rd⟩
theorem By.alloc (h : By w B a n xs) (hB : B ≤ w.heap.size) (o : Obj) : By (w.alloc o) B a n xs := h.below ((Below.refl _ _).alloc (Nat.le_refl _) o) hB
theorem By.bd (h : By w B a n xs) {k : Nat} (hk : k < n) : 0 ≤ xs.getD k 0 ∧ xs.getD k 0 ≤ 255 := h.byt _ (getD_mem (by rw [h.len]; exact hk))
theorem By.nil (w : World) (B : Nat) (a : Option Addr) : By w B a 0 [] := ⟨rfl, by simp, fun h => absurd h (by omega)⟩
theorem By.at_ (h : By w B a n xs) (hn : 0 < n) : ∃ b off, a = some ⟨b, off, none⟩ ∧ b < B ∧ ∀ k, k < n → w.cell? ⟨b, off + k, none⟩ = some (.int .u8 (xs.getD k 0)) := h.rd hn
end
theorem below_drewN {B : Nat} {a w : World} (h : Below B a w) (n : Nat) : Below B a (w.drewN n) := ⟨h.os, h.tape, h.output, h.size, h.block⟩
theorem By.head {w : World} {B n k : Nat} {a : Option Addr} {xs : List Int} (h : By w B a n xs) (hk : k ≤ n) : By w B a k (xs.take k) :=
  ⟨by have := h.len; simp; omega, fun b hb => h.byt b (List.mem_of_mem_take hb), fun hp => by
    obtain ⟨b, off, e, hb, hc⟩ := h.rd (by omega)
    refine ⟨b, off, e, hb, fun i hi => ?_⟩
    rw [hc i (by omega)]
    simp [List.getD, hi]⟩
theorem By.tail {w : World} {B n k b off : Nat} {xs : List Int} (h : By w B (some ⟨b, off, none⟩) n xs) (hk : k ≤ n) : By w B (some ⟨b, off + k, none⟩) (n - k) (xs.drop k) :=
  ⟨by have := h.len; simp; omega, fun b hb => h.byt b (List.mem_of_mem_drop hb), fun hp => by
    obtain ⟨b', off', e, hb, hc⟩ := h.rd (by omega)
    simp only [Option.some.injEq, Addr.mk.injEq] at e
    obtain ⟨rfl, rfl, _⟩ := e
    refine ⟨b, off + k, rfl, hb, fun i hi => ?_⟩
    rw [Nat.add_assoc, hc (k + i) (by omega)]
    simp [List.getD]⟩
/-- Bytes that were written out. -/
theorem By.lit (w : World) (xs : List Int) (t : TypeId) (fr : Nat × Nat) (B n : Nat) (hl : xs.length = n) (hx : ∀ b ∈ xs, Fn.Byt b) (hB : w.heap.size < B) : By (w.alloc (.cells (xs.map (Value.int .u8)).toArray t fr)) B (some ⟨w.heap.size, 0, none⟩) n xs := by
  refine ⟨hl, hx, fun _ => ⟨_, _, rfl, hB, fun k hk => ?_⟩⟩
  rw [Nat.zero_add, World.cell?_alloc_mark]
  simp [List.getD, List.getElem?_eq_getElem (show k < xs.length by omega)]
theorem ri {k : IntKind} {a b : Int} (h : a = b) : Ending.returned (.int k a) = .returned (.int k b) := by rw [h]
/-- A value that owns these bytes. -/
def OwnB (w : World) (base : Nat) (v : Value) (n : Nat) (xs : List Int) : Prop := xs.length = n ∧ (∀ b ∈ xs, Fn.Byt b) ∧ w.ownsRow base 5 1 v n (xs.map (Value.int .u8))
theorem OwnB.lt {w : World} {base n : Nat} {v : Value} {xs : List Int} (h : OwnB w base v n xs) : ∀ k, v.ownBlock = some k → base ≤ k ∧ k < w.heap.size := h.2.2.lt
theorem OwnB.by_ {w : World} {base n : Nat} {v : Value} {xs : List Int} (h : OwnB w base v n xs) : ∃ a c, v = .slice a n c ∧ n ≤ c ∧ By w w.heap.size a n xs ∧ (∀ b off, a = some ⟨b, off, none⟩ → base ≤ b ∧ off = 0 ∧ w.frozen? ⟨b, 0, none⟩ = false) := by
  obtain ⟨h1, h2, h3⟩ := h
  have h3' := h3
  rcases h3.2 with ⟨rfl, rfl⟩ | ⟨g, cap, cur, rfl, hg, hh, hc, hm, hs, ht⟩
  · exact ⟨none, 0, rfl, by omega, ⟨h1, h2, fun h => absurd h (by omega)⟩, fun b off h => by cases h⟩
  · refine ⟨_, _, rfl, hc, ⟨h1, h2, fun hn => ⟨g, 0, rfl, lt_of_block hh, fun k hk => ?_⟩⟩, fun b off e => ?_⟩
    · have := h3'.cellAt k (by omega)
      rw [Nat.zero_add, this]
      simp [List.getElem?_map, List.getD, List.getElem?_eq_getElem (show k < xs.length by omega)]
    · simp only [Option.some.injEq, Addr.mk.injEq] at e
      obtain ⟨rfl, rfl, _⟩ := e
      exact ⟨hg, rfl, h3'.frozenAt 0⟩
theorem OwnB.below {w w' : World} {base n : Nat} {v : Value} {xs : List Int} (h : OwnB w base v n xs) (hb : Below w.heap.size w w') : OwnB w' base v n xs := by
  refine ⟨h.1, h.2.1, h.2.2.kept (row := none) ⟨hb.os, hb.tape, hb.output, hb.size, fun i hi _ => hb.block i hi⟩ ?_⟩
  cases h' : v.ownBlock
  · exact .inl rfl
  · exact .inr (by simp)
theorem OwnB.weak {w : World} {base base' n : Nat} {v : Value} {xs : List Int} (h : OwnB w base v n xs) (hb : base' ≤ base) : OwnB w base' v n xs := by
  refine ⟨h.1, h.2.1, h.2.2.1, ?_⟩
  rcases h.2.2.2 with e | ⟨g, cap, cur, e1, hg, e2⟩
  · exact .inl e
  · exact .inr ⟨g, cap, cur, e1, by omega, e2⟩
theorem OwnB.set_ {w : World} {base n c g : Nat} {xs : List Int} (h : OwnB w base (.slice (some ⟨g, 0, none⟩) n c) n xs) (j : Nat) {y : Int} (hy : Fn.Byt y) : OwnB (w.setCell ⟨g, j, none⟩ (.int .u8 y)) base (.slice (some ⟨g, 0, none⟩) n c) n (xs.set j y) := by
  refine ⟨by rw [List.length_set]; exact h.1, fun b hb => ?_, ?_⟩
  · rcases List.mem_or_eq_of_mem_set hb with h1 | rfl
    · exact h.2.1 b h1
    · exact hy
  · have := (h.2.2.stored j (.int .u8 y)).1
    rwa [List.map_set]
theorem OwnB.drewN {w : World} {base n : Nat} {v : Value} {xs : List Int} (h : OwnB w base v n xs) (k : Nat) : OwnB (w.drewN k) base v n xs := h
theorem OwnB.drew {w : World} {base n : Nat} {v : Value} {xs : List Int} (h : OwnB w base v n xs) : OwnB w.drew base v n xs := h
theorem info_u8 : (Try.prog.info? 5).map (fun i => (i.zero, i.size, i.bytes)) = some (some (.int .u8 0), 1, 1) := by kernel_rfl
theorem take_map (xs : List Int) (k : Nat) (h : k < xs.length) : List.take k (List.map (Value.int .u8) xs) ++ [.int .u8 (xs[k]?.getD 0)] = (xs.take (k + 1)).map (Value.int .u8) := by
  rw [List.take_succ_eq_append_getElem h, List.map_append, List.map_take]
  simp [List.getElem?_eq_getElem h]
theorem one_new (w : World) (v : Value) (t : TypeId) : ∀ (j : Nat) (u : Value), [v][j]? = some u → (w.alloc (.cells #[v] t)).cell? ((⟨w.heap.size, 0, none⟩ : Addr).add j) = some u := by
  intro j u hj
  match j, hj with
  | 0, hj => simp at hj; subst hj; simp [Addr.add]
theorem eq_of_getD {xs ys : List Int} (hl : xs.length = ys.length) (h : ∀ k, k < xs.length → xs.getD k 0 = ys.getD k 0) : xs = ys := by
  refine List.ext_getElem hl fun k h1 h2 => ?_
  have := h k h1
  simpa [List.getD, List.getElem?_eq_getElem h1, List.getElem?_eq_getElem h2] using this
end Go.Proofs.Ytifnmgbeepgfiaa
/- Plain words of layer 6: grounds. -/
namespace Go.Proofs.Ytifnmgbeepgfiaa
/-- May this be a ground? -/
def gB (W H : Int) (n : Nat) (xs : List Int) : Bool := decide (1 ≤ W ∧ W ≤ 128 ∧ 1 ≤ H ∧ H ≤ 128 ∧ (n : Int) = W * H ∧ ∀ x ∈ xs, x ≤ 5)
def gE (W H : Int) (n : Nat) (xs : List Int) : Int := if gB W H n xs = true then 0 else 1
structure GOk (W H : Int) (n : Nat) (xs : List Int) : Prop where
  w1 : 1 ≤ W
  w2 : W ≤ 128
  h1 : 1 ≤ H
  h2 : H ≤ 128
  nn : (n : Int) = W * H
  ts : ∀ x ∈ xs, x ≤ 5
theorem gB_iff {W H : Int} {n : Nat} {xs : List Int} : gB W H n xs = true ↔ GOk W H n xs := by
  unfold gB
  rw [decide_eq_true_iff]
  exact ⟨fun ⟨a, b, c, d, e, f⟩ => ⟨a, b, c, d, e, f⟩, fun ⟨a, b, c, d, e, f⟩ => ⟨a, b, c, d, e, f⟩⟩
theorem gE_yes {W H : Int} {n : Nat} {xs : List Int} (h : GOk W H n xs) : gE W H n xs = 0 := by unfold gE; rw [if_pos (gB_iff.2 h)]
theorem gE_no {W H : Int} {n : Nat} {xs : List Int} (h : ¬ GOk W H n xs) : gE W H n xs = 1 := by unfold gE; rw [if_neg (fun g => h (gB_iff.1 g))]
theorem gB_yes {W H : Int} {n : Nat} {xs : List Int} (h : GOk W H n xs) : gB W H n xs = true := gB_iff.2 h
theorem gB_no {W H : Int} {n : Nat} {xs : List Int} (h : ¬ GOk W H n xs) : gB W H n xs = false := by
  cases e : gB W H n xs
  · rfl
  · exact absurd (gB_iff.1 e) h
theorem mul_bd {W H : Int} (w1 : 1 ≤ W) (w2 : W ≤ 128) (h1 : 1 ≤ H) (h2 : H ≤ 128) : 1 ≤ W * H ∧ W * H ≤ 16384 := by
  have a := Int.mul_le_mul w2 h2 (by omega) (by omega)
  have b := Int.mul_le_mul w1 h1 (by omega) (by omega)
  omega
/-- What stands of a ground before its tiles are looked at. -/
structure GHd (W H : Int) (n : Nat) : Prop where
  w1 : 1 ≤ W
  w2 : W ≤ 128
  h1 : 1 ≤ H
  h2 : H ≤ 128
  nn : (n : Int) = W * H
end Go.Proofs.Ytifnmgbeepgfiaa
/- Plain arithmetic of layer 17. -/
namespace Go.Proofs.Ytifnmgbeepgfiaa
def Fx.radS (r : Int) : Int := if r < 0 then 0 else if 262144 < r then 262144 else r
theorem Fx.radS_bd (r : Int) : 0 ≤ Fx.radS r ∧ Fx.radS r ≤ 262144 := by unfold Fx.radS; (repeat' split) <;> omega
def Fx.apS (a b r c d s : Int) : Bool := !Fx.withinS a b c d (Fx.radS r + Fx.radS s)
theorem Fx.sub_flip {a c : Int} (ha : Fx.I64 a) (hc : Fx.I64 c) : Fx.subS c a = -Fx.subS a c := by
  unfold Fx.I64 at ha hc
  unfold Fx.subS Fx.addS Fx.negS Fx.clampM Fx.cnt Fx.Most
  (repeat' split) <;> omega
theorem Fx.sz_neg' {x : Int} (h : -9223372036854775807 ≤ x ∧ x ≤ 9223372036854775807) : Fx.sz (-x) = Fx.sz x := by
  unfold Fx.sz Fx.cnt Fx.Most
  (repeat' split) <;> omega
theorem Fx.within_flip {a b c d r : Int} (ha : Fx.I64 a) (hb : Fx.I64 b) (hc : Fx.I64 c) (hd : Fx.I64 d) : Fx.withinS c d a b r = Fx.withinS a b c d r := by
  unfold Fx.withinS Fx.SQ
  rw [Fx.sub_flip ha hc, Fx.sub_flip hb hd, Fx.sz_neg' (x := Fx.subS a c) (Fx.clamp_bd _), Fx.sz_neg' (x := Fx.subS b d) (Fx.clamp_bd _)]
theorem Fx.apS_flip {a b r c d s : Int} (ha : Fx.I64 a) (hb : Fx.I64 b) (hc : Fx.I64 c) (hd : Fx.I64 d) : Fx.apS c d s a b r = Fx.apS a b r c d s := by
  unfold Fx.apS; rw [Fx.within_flip ha hb hc hd, Int.add_comm]
/-- How far a number lies outside of a column. -/
def bsS (x c : Int) : Int := if x < c * 65536 then c * 65536 - x else if c * 65536 + 65536 < x then x - c * 65536 - 65536 else 0
def meetsS (W t px py r : Int) : Bool := decide (bsS px (t % W) < r) && (decide (bsS py (t / W) < r) && decide (bsS px (t % W) * bsS px (t % W) + bsS py (t / W) * bsS py (t / W) < r * r))
def fmD (px py r : Int) : Bool := decide (0 ≤ r ∧ r ≤ 262144 ∧ -1099511627776 ≤ px ∧ px ≤ 1099511627776 ∧ -1099511627776 ≤ py ∧ py ≤ 1099511627776)
end Go.Proofs.Ytifnmgbeepgfiaa
