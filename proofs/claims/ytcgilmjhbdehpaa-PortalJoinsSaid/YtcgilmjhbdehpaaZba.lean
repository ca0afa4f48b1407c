import Derived.WalkKit
import Derived.Below
import Derived.Test.YtcgilmjhbdehpaaProg
import Derived.Laws.BitsAllLaws
import Derived.RowKit
import Derived.WalkLawsBesides
import Derived.WalkSpells
import Derived.Outline
import Derived.Deep.QuietTactic
import Derived.BigQuiet
import Derived.Deep.RegionHeld3
import Derived.Deep.RegionWith
import Derived.Maps.AppendAt
import Derived.Lib.SlBytesConst
import Derived.OneCell
import Derived.Laws.Rows
import Derived.Deep.DeepCutAuto
import Derived.Deep.DeepFit
/- Rules by which a walk reads old cells in a later world. -/
namespace Go.Proofs.Ytcgilmjhbdehpaa
open Go.RowKit
theorem kw_rules {N : Nat} {W X : World} (h : Below N W X) (hN : N ≤ W.heap.size) :
    (∀ b o, b < N → X.cell? ⟨b, o, none⟩ = W.cell? ⟨b, o, none⟩) ∧ (∀ b o, b < N → X.frozen? ⟨b, o, none⟩ = W.frozen? ⟨b, o, none⟩) ∧ (∀ b, b < N → b < X.heap.size) ∧ (∀ b, b < N → ¬ b = X.heap.size) ∧ (∀ b, b < N → ¬ X.heap.size = b) := by
  have hs := h.size
  exact ⟨fun b o hb => h.cell (p := ⟨b, o, none⟩) hb, fun b o hb => h.frozen (p := ⟨b, o, none⟩) hb, fun b hb => by omega, fun b hb => by omega, fun b hb => by omega⟩
theorem kw_step {N : Nat} {W X Y : World} (h : Below N W X) (hN : N ≤ W.heap.size) (hb : Below X.heap.size X Y) : Below N W Y := h.trans (hb.mono (Nat.le_trans hN h.size))
theorem kw_drew {N : Nat} {W X : World} (h : Below N W X) : Below N W X.drew := h.drew
theorem bset {B : Nat} {w X : World} (h : Below B w X) {b : Nat} (off : Nat) (hb : B ≤ b) (v : Value) : Below B w (X.setCell ⟨b, off, none⟩ v) := Below.setCell (p := ⟨b, off, none⟩) h hb v
theorem kw_S {N : Nat} {W X : World} (h : Below N W X) : (∀ b o, b < N → X.cell? ⟨b, o, none⟩ = W.cell? ⟨b, o, none⟩) ∧ Below N W X := ⟨fun b o hb => h.cell (p := ⟨b, o, none⟩) hb, h⟩
theorem kw_size {N : Nat} {W X : World} (h : Below N W X) (hN : N ≤ W.heap.size) : N ≤ X.heap.size := Nat.le_trans hN h.size
end Go.Proofs.Ytcgilmjhbdehpaa
/- Plain arithmetic for layer 3 (fnv): a byte's step can be told apart. No program in it. -/
namespace Go.Proofs.Ytcgilmjhbdehpaa.Fn
open Go
/-- One byte's step. -/
def stepS (s b : Int) : Int := IntKind.u64.wrap (bits BinOp.xor IntKind.u64 s b * 1099511628211)
def sumS (s : Int) (l : List Int) : Int := l.foldl stepS s
def U64 (s : Int) : Prop := 0 ≤ s ∧ s ≤ 18446744073709551615
def Byt (b : Int) : Prop := 0 ≤ b ∧ b ≤ 255
theorem wrapu (x : Int) : IntKind.u64.wrap x = x % 18446744073709551616 := by simp [IntKind.wrap, IntKind.bits, IntKind.signed]
theorem step_bd (s b : Int) : U64 (stepS s b) := by unfold stepS U64; rw [wrapu]; omega
theorem xor_eq {s b : Int} (hs : U64 s) (hb : Byt b) : bits BinOp.xor IntKind.u64 s b = ((s.toNat ^^^ b.toNat : Nat) : Int) := by
  unfold U64 at hs; unfold Byt at hb
  exact u64_xor s b (by omega) (by omega) (by omega) (by omega)
theorem xor_lt {s b : Int} (hs : U64 s) (hb : Byt b) : s.toNat ^^^ b.toNat < 18446744073709551616 := by
  unfold U64 at hs; unfold Byt at hb
  exact Nat.xor_lt_two_pow (n := 64) (by omega) (by omega)
/-- The factor is odd: what it has multiplied can be told. -/
theorem unit_mod (z : Int) : (z * 1099511628211 % 18446744073709551616) * 14886173955864302971 % 18446744073709551616 = z % 18446744073709551616 := by
  rw [Int.mul_emod, Int.emod_emod, ← Int.mul_emod, Int.mul_assoc, Int.mul_emod]
  have e : (1099511628211 * 14886173955864302971 : Int) % 18446744073709551616 = 1 := by decide +kernel
  rw [e, Int.mul_one, Int.emod_emod]
theorem prime_inj {x y : Nat} (hx : x < 18446744073709551616) (hy : y < 18446744073709551616) (h : ((x : Int) * 1099511628211) % 18446744073709551616 = ((y : Int) * 1099511628211) % 18446744073709551616) : x = y := by
  have a := unit_mod x
  have b := unit_mod y
  rw [h, b] at a
  clear b h
  omega
theorem step_inj {s t b c : Int} (hs : U64 s) (ht : U64 t) (hb : Byt b) (hc : Byt c) (h : stepS s b = stepS t c) : s.toNat ^^^ b.toNat = t.toNat ^^^ c.toNat := by
  unfold stepS at h
  rw [wrapu, wrapu, xor_eq hs hb, xor_eq ht hc] at h
  exact prime_inj (xor_lt hs hb) (xor_lt ht hc) h
theorem step_inj_s {s t b : Int} (hs : U64 s) (ht : U64 t) (hb : Byt b) (h : stepS s b = stepS t b) : s = t := by
  have e := step_inj hs ht hb hb h
  have e2 := congrArg (· ^^^ b.toNat) e
  simp only [Nat.xor_assoc, Nat.xor_self, Nat.xor_zero] at e2
  unfold U64 at hs ht; omega
theorem step_inj_b {s b c : Int} (hs : U64 s) (hb : Byt b) (hc : Byt c) (h : stepS s b = stepS s c) : b = c := by
  have e := step_inj hs hs hb hc h
  have e2 := congrArg (s.toNat ^^^ ·) e
  simp only [← Nat.xor_assoc, Nat.xor_self, Nat.zero_xor] at e2
  unfold Byt at hb hc; omega
theorem sum_bd {s : Int} (hs : U64 s) (l : List Int) : U64 (sumS s l) := by
  unfold sumS
  induction l generalizing s with
  | nil => exact hs
  | cons b l ih => exact ih (step_bd s b)
theorem sum_inj {s t : Int} (hs : U64 s) (ht : U64 t) {l : List Int} (hl : ∀ b ∈ l, Byt b) (h : sumS s l = sumS t l) : s = t := by
  unfold sumS at h
  induction l generalizing s t with
  | nil => exact h
  | cons b l ih =>
    have := ih (step_bd s b) (step_bd t b) (fun x hx => hl x (List.mem_cons_of_mem _ hx)) h
    exact step_inj_s hs ht (hl b (List.mem_cons_self ..)) this
theorem sum_append (s : Int) (l m : List Int) : sumS s (l ++ m) = sumS (sumS s l) m := by unfold sumS; exact List.foldl_append
theorem sum_snoc (s : Int) (l : List Int) (b : Int) : sumS s (l ++ [b]) = stepS (sumS s l) b := by rw [sum_append]; rfl
theorem sum_take {s : Int} {l : List Int} {k : Nat} (h : k < l.length) : sumS s (l.take (k + 1)) = stepS (sumS s (l.take k)) (l.getD k 0) := by
  rw [List.take_succ_eq_append_getElem h, sum_snoc]
  simp [List.getD, List.getElem?_eq_getElem h]
theorem sum_changed {s : Int} (hs : U64 s) {l : List Int} (hl : ∀ b ∈ l, Byt b) {k : Nat} (hk : k < l.length) {c : Int} (hc : Byt c) (hne : c ≠ l.getD k 0) : sumS s (l.set k c) ≠ sumS s l := by
  intro h
  have e1 : l = l.take k ++ (l.getD k 0 :: l.drop (k + 1)) := by
    have : l.getD k 0 = l[k] := by simp [List.getD, List.getElem?_eq_getElem hk]
    rw [this, List.getElem_cons_drop, List.take_append_drop]
  have e2 : l.set k c = l.take k ++ (c :: l.drop (k + 1)) := List.set_eq_take_append_cons_drop.trans (by rw [if_pos hk])
  have hb : Byt (l.getD k 0) := by
    have : l.getD k 0 = l[k] := by simp [List.getD, List.getElem?_eq_getElem hk]
    rw [this]; exact hl _ (List.getElem_mem hk)
  rw [e2] at h
  have h' : sumS s (l.take k ++ (c :: l.drop (k + 1))) = sumS s (l.take k ++ (l.getD k 0 :: l.drop (k + 1))) := h.trans (congrArg _ e1)
  rw [sum_append, sum_append] at h'
  have h2 : sumS (stepS (sumS s (l.take k)) c) (l.drop (k + 1)) = sumS (stepS (sumS s (l.take k)) (l.getD k 0)) (l.drop (k + 1)) := h'
  have h3 := sum_inj (step_bd _ _) (step_bd _ _) (fun x hx => hl x (List.mem_of_mem_drop hx)) h2
  exact hne (step_inj_b (sum_bd hs _) hc hb h3)
/-- A number brought from 0 below n. -/
def wiS (i n : Int) : Int := i % 18446744073709551616 % n
theorem wi_bd (i : Int) {n : Int} (h : 1 ≤ n) : 0 ≤ wiS i n ∧ wiS i n < n := by
  unfold wiS
  exact ⟨Int.emod_nonneg _ (by omega), Int.emod_lt_of_pos _ (by omega)⟩
theorem xor8 {x d : Int} (hx : Byt x) (hd : 1 ≤ d ∧ d ≤ 255) : Byt (bits BinOp.xor IntKind.u8 x d) ∧ bits BinOp.xor IntKind.u8 x d ≠ x := by
  unfold Byt at hx
  rw [u8_xor x d (by omega) (by omega) (by omega) (by omega)]
  have hl : x.toNat ^^^ d.toNat < 256 := Nat.xor_lt_two_pow (n := 8) (by omega) (by omega)
  refine ⟨by unfold Byt; omega, fun h => ?_⟩
  have e : x.toNat ^^^ d.toNat = x.toNat := by omega
  have e2 := congrArg (x.toNat ^^^ ·) e
  simp only [← Nat.xor_assoc, Nat.xor_self, Nat.zero_xor] at e2
  omega
end Go.Proofs.Ytcgilmjhbdehpaa.Fn
/- Slices of bytes: what it means that one reads as a list; bytes copied, compared. -/
namespace Go.Proofs.Ytcgilmjhbdehpaa
open Go.RowKit
set_option linter.unusedVariables false
/-- A fact kept behind a name. -/
structure Hk (p : Prop) : Prop where
  out : p
/-- The n cells that a slice at this address holds, below block B. -/
def Rd (w : World) (B : Nat) (a : Option Addr) (n : Nat) (f : Nat → Value) : Prop :=
  0 < n → ∃ b off, a = some ⟨b, off, none⟩ ∧ b < B ∧ ∀ k, k < n → w.cell? ⟨b, off + k, none⟩ = some (f k)
theorem Rd.below {w w' : World} {B B' n : Nat} {a : Option Addr} {f : Nat → Value} (h : Rd w B a n f) (hb : Below B' w w') (hB : B ≤ B') : Rd w' B a n f := fun hn => by
  obtain ⟨b, off, e, hlt, hc⟩ := h hn
  exact ⟨b, off, e, hlt, fun k hk => (hb.cell (p := ⟨b, off + k, none⟩) (Nat.lt_of_lt_of_le hlt hB)).trans (hc k hk)⟩
theorem Rd.grown {w w' : World} {B n : Nat} {a : Option Addr} {f : Nat → Value} {row : Option Nat} (h : Rd w B a n f) (hg : w.grownBy w' row) (hB : B ≤ w.heap.size) (hr : ∀ g, row = some g → B ≤ g) : Rd w' B a n f := fun hn => by
  obtain ⟨b, off, e, hlt, hc⟩ := h hn
  exact ⟨b, off, e, hlt, fun k hk => (World.cell?_of_block (hg.block b (by omega) (fun e => by have := hr _ e.symm; omega))).trans (hc k hk)⟩
theorem Rd.mono {w : World} {B B' n : Nat} {a : Option Addr} {f : Nat → Value} (h : Rd w B a n f) (hB : B ≤ B') : Rd w B' a n f := fun hn => by
  obtain ⟨b, off, e, hlt, hc⟩ := h hn
  exact ⟨b, off, e, by omega, hc⟩
def u8 (x : Int) : Value := .int .u8 x
/-- The slice reads as these bytes. -/
structure By (w : World) (B : Nat) (a : Option Addr) (n : Nat) (xs : List Int) : Prop where
  len : xs.length = n
  byt : ∀ b ∈ xs, Fn.Byt b
  rd : Rd w B a n (fun k => .int .u8 (xs.getD k 0))
theorem getD_mem {xs : List Int} {k : Nat} (h : k < xs.length) : xs.getD k 0 ∈ xs := by
  have : xs.getD k 0 = xs[k] := by simp [List.getD, List.getElem?_eq_getElem h]
  rw [this]; exact List.getElem_mem h
section
variable {w w' : World} {B B' n : Nat} {a : Option Addr} {xs : List Int}
theorem By.below (h : By w B a n xs) (hb : Below B' w w') (hB : B ≤ B') : By w' B a n xs := ⟨h.len, h.byt, h.rd.below hb hB⟩
theorem By.mono (h : By w B a n xs) (hB : B ≤ B') : By w B' a n xs := ⟨h.len, h.byt, h.rd.mono hB⟩
theorem By.grown {row : Option Nat} (h : By w B a n xs) (hg : w.grownBy w' row) (hB : B ≤ w.heap.size) (hr : ∀ g, row = some g → B ≤ g) : By w' B a n xs := ⟨h.len, h.byt, h.rd.grown hg hB hr⟩
theorem By.drew (h : By w B a n xs) : By w.drew B a n xs := ⟨h.len, h.byt, h.rd⟩
theorem By.drewN (h : By w B a n xs) (k : Nat) : By (w.drewN k) B a n xs := ⟨h.len, h.byt, h.rd⟩
theorem By.alloc (h : By w B a n xs) (hB : B ≤ w.heap.size) (o : Obj) : By (w.alloc o) B a n xs := h.below ((Below.refl _ _).alloc (Nat.le_refl _) o) hB
theorem By.bd (h : By w B a n xs) {k : Nat} (hk : k < n) : 0 ≤ xs.getD k 0 ∧ xs.getD k 0 ≤ 255 := h.byt _ (getD_mem (by rw [h.len]; exact hk))
theorem By.nil (w : World) (B : Nat) (a : Option Addr) : By w B a 0 [] := ⟨rfl, by simp, fun h => absurd h (by omega)⟩
theorem By.at_ (h : By w B a n xs) (hn : 0 < n) : ∃ b off, a = some ⟨b, off, none⟩ ∧ b < B ∧ ∀ k, k < n → w.cell? ⟨b, off + k, none⟩ = some (.int .u8 (xs.getD k 0)) := h.rd hn
end
theorem below_drewN {B : Nat} {a w : World} (h : Below B a w) (n : Nat) : Below B a (w.drewN n) := ⟨h.os, h.tape, h.output, h.size, h.block⟩
theorem By.head {w : World} {B n k : Nat} {a : Option Addr} {xs : List Int} (h : By w B a n xs) (hk : k ≤ n) : By w B a k (xs.take k) :=
  ⟨by have := h.len; simp; omega, fun b hb => h.byt b (List.mem_of_mem_take hb), fun hp => by
    obtain ⟨b, off, e, hb, hc⟩ := h.rd (by omega)
    refine ⟨b, off, e, hb, fun i hi => ?_⟩
    rw [hc i (by omega)]
    simp [List.getD, hi]⟩
theorem By.tail {w : World} {B n k b off : Nat} {xs : List Int} (h : By w B (some ⟨b, off, none⟩) n xs) (hk : k ≤ n) : By w B (some ⟨b, off + k, none⟩) (n - k) (xs.drop k) :=
  ⟨by have := h.len; simp; omega, fun b hb => h.byt b (List.mem_of_mem_drop hb), fun hp => by
    obtain ⟨b', off', e, hb, hc⟩ := h.rd (by omega)
    simp only [Option.some.injEq, Addr.mk.injEq] at e
    obtain ⟨rfl, rfl, _⟩ := e
    refine ⟨b, off + k, rfl, hb, fun i hi => ?_⟩
    rw [Nat.add_assoc, hc (k + i) (by omega)]
    simp [List.getD]⟩
/-- Bytes that were written out. -/
theorem By.lit (w : World) (xs : List Int) (t : TypeId) (fr : Nat × Nat) (B n : Nat) (hl : xs.length = n) (hx : ∀ b ∈ xs, Fn.Byt b) (hB : w.heap.size < B) : By (w.alloc (.cells (xs.map (Value.int .u8)).toArray t fr)) B (some ⟨w.heap.size, 0, none⟩) n xs := by
  refine ⟨hl, hx, fun _ => ⟨_, _, rfl, hB, fun k hk => ?_⟩⟩
  rw [Nat.zero_add, World.cell?_alloc_mark]
  simp [List.getD, List.getElem?_eq_getElem (show k < xs.length by omega)]
theorem ri {k : IntKind} {a b : Int} (h : a = b) : Ending.returned (.int k a) = .returned (.int k b) := by rw [h]
/-- A value that owns these bytes. -/
def OwnB (w : World) (base : Nat) (v : Value) (n : Nat) (xs : List Int) : Prop := xs.length = n ∧ (∀ b ∈ xs, Fn.Byt b) ∧ w.ownsRow base 5 1 v n (xs.map (Value.int .u8))
theorem OwnB.lt {w : World} {base n : Nat} {v : Value} {xs : List Int} (h : OwnB w base v n xs) : ∀ k, v.ownBlock = some k → base ≤ k ∧ k < w.heap.size := h.2.2.lt
theorem OwnB.by_ {w : World} {base n : Nat} {v : Value} {xs : List Int} (h : OwnB w base v n xs) : ∃ a c, v = .slice a n c ∧ n ≤ c ∧ By w w.heap.size a n xs ∧ (∀ b off, a = some ⟨b, off, none⟩ → base ≤ b ∧ off = 0 ∧ w.frozen? ⟨b, 0, none⟩ = false) := by
  obtain ⟨h1, h2, h3⟩ := h
  have h3' := h3
  rcases h3.2 with ⟨rfl, rfl⟩ | ⟨g, cap, cur, rfl, hg, hh, hc, hm, hs, ht⟩
  · exact ⟨none, 0, rfl, by omega, ⟨h1, h2, fun h => absurd h (by omega)⟩, fun b off h => by cases h⟩
  · refine ⟨_, _, rfl, hc, ⟨h1, h2, fun hn => ⟨g, 0, rfl, lt_of_block hh, fun k hk => ?_⟩⟩, fun b off e => ?_⟩
    · have := h3'.cellAt k (by omega)
      rw [Nat.zero_add, this]
      simp [List.getElem?_map, List.getD, List.getElem?_eq_getElem (show k < xs.length by omega)]
    · simp only [Option.some.injEq, Addr.mk.injEq] at e
      obtain ⟨rfl, rfl, _⟩ := e
      exact ⟨hg, rfl, h3'.frozenAt 0⟩
theorem OwnB.below {w w' : World} {base n : Nat} {v : Value} {xs : List Int} (h : OwnB w base v n xs) (hb : Below w.heap.size w w') : OwnB w' base v n xs := by
  refine ⟨h.1, h.2.1, h.2.2.kept (row := none) ⟨hb.os, hb.tape, hb.output, hb.size, fun i hi _ => hb.block i hi⟩ ?_⟩
  cases h' : v.ownBlock
  · exact .inl rfl
  · exact .inr (by simp)
theorem OwnB.weak {w : World} {base base' n : Nat} {v : Value} {xs : List Int} (h : OwnB w base v n xs) (hb : base' ≤ base) : OwnB w base' v n xs := by
  refine ⟨h.1, h.2.1, h.2.2.1, ?_⟩
  rcases h.2.2.2 with e | ⟨g, cap, cur, e1, hg, e2⟩
  · exact .inl e
  · exact .inr ⟨g, cap, cur, e1, by omega, e2⟩
theorem OwnB.set_ {w : World} {base n c g : Nat} {xs : List Int} (h : OwnB w base (.slice (some ⟨g, 0, none⟩) n c) n xs) (j : Nat) {y : Int} (hy : Fn.Byt y) : OwnB (w.setCell ⟨g, j, none⟩ (.int .u8 y)) base (.slice (some ⟨g, 0, none⟩) n c) n (xs.set j y) := by
  refine ⟨by rw [List.length_set]; exact h.1, fun b hb => ?_, ?_⟩
  · rcases List.mem_or_eq_of_mem_set hb with h1 | rfl
    · exact h.2.1 b h1
    · exact hy
  · have := (h.2.2.stored j (.int .u8 y)).1
    rwa [List.map_set]
theorem OwnB.drewN {w : World} {base n : Nat} {v : Value} {xs : List Int} (h : OwnB w base v n xs) (k : Nat) : OwnB (w.drewN k) base v n xs := h
theorem OwnB.drew {w : World} {base n : Nat} {v : Value} {xs : List Int} (h : OwnB w base v n xs) : OwnB w.drew base v n xs := h
theorem info_u8 : (Try.prog.info? 5).map (fun i => (i.zero, i.size, i.bytes)) = some (some (.int .u8 0), 1, 1) := by kernel_rfl
theorem take_map (xs : List Int) (k : Nat) (h : k < xs.length) : List.take k (List.map (Value.int .u8) xs) ++ [.int .u8 (xs[k]?.getD 0)] = (xs.take (k + 1)).map (Value.int .u8) := by
  rw [List.take_succ_eq_append_getElem h, List.map_append, List.map_take]
  simp [List.getElem?_eq_getElem h]
theorem one_new (w : World) (v : Value) (t : TypeId) : ∀ (j : Nat) (u : Value), [v][j]? = some u → (w.alloc (.cells #[v] t)).cell? ((⟨w.heap.size, 0, none⟩ : Addr).add j) = some u := by
  intro j u hj
  match j, hj with
  | 0, hj => simp at hj; subst hj; simp [Addr.add]
theorem eq_of_getD {xs ys : List Int} (hl : xs.length = ys.length) (h : ∀ k, k < xs.length → xs.getD k 0 = ys.getD k 0) : xs = ys := by
  refine List.ext_getElem hl fun k h1 h2 => ?_
  have := h k h1
  simpa [List.getD, List.getElem?_eq_getElem h1, List.getElem?_eq_getElem h2] using this
end Go.Proofs.Ytcgilmjhbdehpaa
/- Regions whose orders meet: states are merged; blocks that the region itself makes are known whole. -/
namespace Go.Proofs.Ytcgilmjhbdehpaa
open Go.RowKit
theorem reg_merge {p q : Prop} (f : Hk p → q) (x : p) : q := f ⟨x⟩
theorem reg_cast {P : Program} {md : Region.Mode} {ops : Array Oper} {Q : Exit → Act → World → Prop} {S : World → Prop} {n : Nat} {l l' : Array Bool} {a : Act} {w : World} (h : l = l') (k : wpAnyH P md ops Q S n l' a w) : wpAnyH P md ops Q S n l a w := h ▸ k
/-- The block holds just these cells, and may be written. -/
structure Bk (w : World) (P : Nat) (cs : Array Value) : Prop where
  bl : ∃ T, w.heap[P]? = some (.cells cs T (0, 0))
theorem Bk.lt {w : World} {P : Nat} {cs : Array Value} (h : Bk w P cs) : P < w.heap.size := by
  obtain ⟨T, h⟩ := h.bl; exact lt_of_block h
theorem Bk.c {w : World} {P : Nat} {cs : Array Value} (h : Bk w P cs) (i : Nat) : w.cell? ⟨P, i, none⟩ = cs[i]? := by
  obtain ⟨T, h⟩ := h.bl; simp [World.cell?, h]
theorem Bk.f {w : World} {P : Nat} {cs : Array Value} (h : Bk w P cs) (i : Nat) : w.frozen? ⟨P, i, none⟩ = false := by
  obtain ⟨T, h⟩ := h.bl; simp [World.frozen?, h]
theorem Bk.new (w : World) (cs : Array Value) (T : TypeId) : Bk (w.alloc (.cells cs T)) w.heap.size cs := ⟨T, heap_alloc_new w _⟩
theorem Bk.al {w : World} {P : Nat} {cs : Array Value} (h : Bk w P cs) (o : Obj) : Bk (w.alloc o) P cs := by
  have hlt := h.lt
  obtain ⟨T, h⟩ := h.bl; exact ⟨T, by rw [Below.heap_alloc w o P hlt]; exact h⟩
theorem Bk.below {w w' : World} {P : Nat} {cs : Array Value} (h : Bk w P cs) (hb : Below w.heap.size w w') : Bk w' P cs := by
  have hlt := h.lt
  obtain ⟨T, h⟩ := h.bl; exact ⟨T, by rw [hb.block P hlt]; exact h⟩
theorem Bk.drew {w : World} {P : Nat} {cs : Array Value} (h : Bk w P cs) : Bk w.drew P cs := ⟨h.bl⟩
theorem Bk.drewN {w : World} {P : Nat} {cs : Array Value} (h : Bk w P cs) (n : Nat) : Bk (w.drewN n) P cs := ⟨h.bl⟩
theorem Bk.oth {w : World} {P Q : Nat} {cs : Array Value} (h : Bk w P cs) (hn : ¬ P = Q) (i : Nat) (v : Value) : Bk (w.setCell ⟨Q, i, none⟩ v) P cs := by
  obtain ⟨T, h⟩ := h.bl; exact ⟨T, by rw [Below.heap_setCell _ _ _ _ (by simpa using hn)]; exact h⟩
theorem Bk.set {w : World} {P : Nat} {cs : Array Value} (h : Bk w P cs) (i : Nat) (v : Value) : Bk (w.setCell ⟨P, i, none⟩ v) P (cs.setIfInBounds i v) := by
  have hlt := h.lt
  obtain ⟨T, h⟩ := h.bl
  refine ⟨T, ?_⟩
  have h' : w.heap[P] = .cells cs T (0, 0) := by simpa [Array.getElem?_eq_getElem hlt] using h
  show (w.heap.modify P _)[P]? = _
  rw [Array.getElem?_eq_getElem (by simpa using hlt), Array.getElem_modify_self, h']
  rfl
theorem Bk.ne {w : World} {P : Nat} {cs : Array Value} (h : Bk w P cs) : ¬ P = w.heap.size := by have := h.lt; omega
theorem Bk.ne' {w : World} {P : Nat} {cs : Array Value} (h : Bk w P cs) : ¬ w.heap.size = P := by have := h.lt; omega
theorem kw_al {N : Nat} {W X : World} (h : Below N W X) (hN : N ≤ W.heap.size) (o : Obj) : Below N W (X.alloc o) := h.alloc (Nat.le_trans hN h.size) o
theorem kw_le {N : Nat} {W X : World} (h : Below N W X) (hN : N ≤ W.heap.size) : N ≤ X.heap.size := Nat.le_trans hN h.size
theorem kw_s {N : Nat} {W X : World} (h : Below N W X) : ∀ b o, b < N → X.cell? ⟨b, o, none⟩ = W.cell? ⟨b, o, none⟩ := fun b o hb => h.cell (p := ⟨b, o, none⟩) hb
end Go.Proofs.Ytcgilmjhbdehpaa
/- Plain words of layer 11: runs of pairs along a border. -/
namespace Go.Proofs.Ytcgilmjhbdehpaa
open Go.RowKit
set_option linter.unusedVariables false
set_option linter.unusedSimpArgs false
/-- Is a run shut ahead of place i, where w pairs are open? -/
def rnC (pr : Nat → Bool) (i w : Nat) : Bool := decide (0 < w ∧ (pr i = false ∨ i % 8 = 0))
/-- Runs that are shut, and how long the open one is. -/
def rnS (pr : Nat → Bool) : Nat → List (Nat × Nat) × Nat
  | 0 => ([], 0)
  | i + 1 => (if rnC pr i (rnS pr i).2 = true then (rnS pr i).1 ++ [(i - (rnS pr i).2, (rnS pr i).2)] else (rnS pr i).1, (if rnC pr i (rnS pr i).2 = true then 0 else (rnS pr i).2) + (if pr i = true then 1 else 0))
structure RunOK (pr : Nat → Bool) (r : Nat × Nat) : Prop where
  w1 : 1 ≤ r.2
  on : ∀ k, r.1 ≤ k → k < r.1 + r.2 → pr k = true
  oct : r.1 / 8 = (r.1 + r.2 - 1) / 8
theorem RunOK.w8 {pr : Nat → Bool} {r : Nat × Nat} (h : RunOK pr r) : r.2 ≤ 8 := by
  have := h.oct
  have := h.w1
  omega
structure RunI (pr : Nat → Bool) (i : Nat) (R : List (Nat × Nat)) (w : Nat) : Prop where
  le : w ≤ i
  op : ∀ k, i - w ≤ k → k < i → pr k = true
  oct : 0 < w → (i - w) / 8 = (i - 1) / 8
  ok : ∀ r, r ∈ R → RunOK pr r ∧ r.1 + r.2 ≤ i - w
  asc : R.Pairwise fun a b => a.1 + a.2 ≤ b.1
  cov : ∀ k, k < i - w → pr k = true → ∃ r, r ∈ R ∧ r.1 ≤ k ∧ k < r.1 + r.2
theorem runI (pr : Nat → Bool) : ∀ i, RunI pr i (rnS pr i).1 (rnS pr i).2
  | 0 => ⟨Nat.le_refl _, fun k _ h => absurd h (by omega), fun h => absurd h (Nat.lt_irrefl 0), fun r h => (by cases h), List.Pairwise.nil, fun k h => absurd h (by omega)⟩
  | i + 1 => by
    have ih := runI pr i
    show RunI pr (i + 1) (if rnC pr i (rnS pr i).2 = true then _ else _) ((if rnC pr i (rnS pr i).2 = true then 0 else _) + _)
    generalize (rnS pr i).1 = R at *
    generalize (rnS pr i).2 = w at *
    cases hc : rnC pr i w
    · have hc := of_decide_eq_false hc
      rw [if_neg (by decide), if_neg (by decide)]
      cases hp : pr i
      · have hw : w = 0 := by
          apply Classical.byContradiction
          intro h
          exact hc ⟨by omega, Or.inl hp⟩
        subst hw
        rw [if_neg (by decide)]
        refine ⟨by omega, fun k a b => absurd b (by omega), fun h => absurd h (by omega), fun r h => ⟨(ih.ok r h).1, by have := (ih.ok r h).2; omega⟩, ih.asc, fun k a b => ?_⟩
        by_cases e : k = i
        · subst e; rw [hp] at b; cases b
        · exact ih.cov k (by omega) b
      · rw [if_pos rfl]
        have hle := ih.le
        refine ⟨by omega, fun k a b => ?_, fun _ => ?_, fun r h => ⟨(ih.ok r h).1, by have := (ih.ok r h).2; omega⟩, ih.asc, fun k a b => ih.cov k (by omega) b⟩
        · by_cases e : k = i
          · subst e; exact hp
          · exact ih.op k (by omega) (by omega)
        · by_cases h0 : 0 < w
          · have h8 : ¬ i % 8 = 0 := fun e => hc ⟨h0, Or.inr e⟩
            have := ih.oct h0
            omega
          · omega
    · have hc := of_decide_eq_true hc
      rw [if_pos rfl, if_pos rfl]
      have hle := ih.le
      have hrun : RunOK pr (i - w, w) := ⟨by show 1 ≤ w; omega, fun k a b => ih.op k a (by show k < i; simp only at b; omega), by have := ih.oct hc.1; show (i - w) / 8 = (i - w + w - 1) / 8; rw [show i - w + w - 1 = i - 1 by omega]; exact this⟩
      have hall : ∀ (w' : Nat), w' ≤ 1 → ∀ r, r ∈ R ++ [(i - w, w)] → RunOK pr r ∧ r.1 + r.2 ≤ i + 1 - w' := fun w' hw' r h => by
        rcases List.mem_append.1 h with h | h
        · exact ⟨(ih.ok r h).1, by have := (ih.ok r h).2; omega⟩
        · have := List.mem_singleton.1 h
          subst this
          exact ⟨hrun, by show i - w + w ≤ _; omega⟩
      have hasc : (R ++ [(i - w, w)]).Pairwise fun a b => a.1 + a.2 ≤ b.1 := List.pairwise_append.2 ⟨ih.asc, List.pairwise_singleton _ _, fun a ha b hb => by
        have := List.mem_singleton.1 hb
        subst this
        exact (ih.ok a ha).2⟩
      have hcov : ∀ k, k < i → pr k = true → ∃ r, r ∈ R ++ [(i - w, w)] ∧ r.1 ≤ k ∧ k < r.1 + r.2 := fun k a b => by
        by_cases e : k < i - w
        · obtain ⟨r, h1, h2⟩ := ih.cov k e b
          exact ⟨r, List.mem_append_left _ h1, h2⟩
        · exact ⟨(i - w, w), List.mem_append_right _ (List.mem_singleton.2 rfl), by show i - w ≤ k; omega, by show k < i - w + w; omega⟩
      cases hp : pr i
      · rw [if_neg (by decide)]
        refine ⟨by omega, fun k a b => absurd b (by omega), fun h => absurd h (by omega), hall 0 (by omega), hasc, fun k a b => ?_⟩
        by_cases e : k = i
        · subst e; rw [hp] at b; cases b
        · exact hcov k (by omega) b
      · rw [if_pos rfl]
        refine ⟨by omega, fun k a b => ?_, fun _ => by omega, hall 1 (by omega), hasc, fun k a b => hcov k (by omega) b⟩
        rw [show k = i by omega]; exact hp
/-- How many pairs there are. -/
def cntR (pr : Nat → Bool) : Nat → Nat
  | 0 => 0
  | i + 1 => cntR pr i + (if pr i = true then 1 else 0)
def sumR : List (Nat × Nat) → Nat
  | [] => 0
  | r :: l => r.2 + sumR l
theorem sumR_app (l : List (Nat × Nat)) (r : Nat × Nat) : sumR (l ++ [r]) = sumR l + r.2 := by
  induction l with
  | nil => show r.2 + 0 = 0 + r.2; omega
  | cons a l ih => show a.2 + sumR (l ++ [r]) = a.2 + sumR l + r.2; omega
theorem rnS_sum (pr : Nat → Bool) : ∀ i, sumR (rnS pr i).1 + (rnS pr i).2 = cntR pr i
  | 0 => rfl
  | i + 1 => by
    have ih := rnS_sum pr i
    show sumR (if rnC pr i (rnS pr i).2 = true then _ else _) + ((if rnC pr i (rnS pr i).2 = true then 0 else _) + _) = cntR pr i + _
    generalize (rnS pr i).1 = R at *
    generalize (rnS pr i).2 = w at *
    split
    · rw [sumR_app]; show sumR R + w + _ = _; omega
    · omega
/-- The last place has no pair: nothing is open. -/
theorem rnS_end {pr : Nat → Bool} {n : Nat} (h : pr n = false) : (rnS pr (n + 1)).2 = 0 := by
  show (if rnC pr n (rnS pr n).2 = true then 0 else (rnS pr n).2) + (if pr n = true then 1 else 0) = 0
  rw [h]
  cases hc : rnC pr n (rnS pr n).2
  · have := of_decide_eq_false hc
    have hw : (rnS pr n).2 = 0 := by
      apply Classical.byContradiction
      intro e
      exact this ⟨by omega, Or.inl h⟩
    rw [hw]; rfl
  · rfl
theorem rnS_len (pr : Nat → Bool) : ∀ i, (rnS pr i).1.length ≤ i
  | 0 => Nat.le_refl _
  | i + 1 => by
    have ih := rnS_len pr i
    show (if rnC pr i (rnS pr i).2 = true then _ else _ : List (Nat × Nat)).length ≤ i + 1
    split
    · rw [List.length_append]; simp; omega
    · omega
/-- A run's portal. -/
def ptOf (T : Nat → Int) (ac : Int) (r : Nat × Nat) : Int × Int × Int := (T (r.1 + (r.2 - 1) / 2), T (r.1 + (r.2 - 1) / 2) + ac, r.2)
end Go.Proofs.Ytcgilmjhbdehpaa
/- Plain words of layer 10: parts of a map: who can be come to, the least number of those. -/
namespace Go.Proofs.Ytcgilmjhbdehpaa
open Go.RowKit
set_option linter.unusedVariables false
set_option linter.unusedSimpArgs false
/-- Whoever can be come to over neighbours. -/
inductive Rch (N : Nat → Nat → Prop) (t : Nat) : Nat → Prop
  | refl : Rch N t t
  | step {u v : Nat} : Rch N t u → N u v → Rch N t v
theorem Rch.trans {N : Nat → Nat → Prop} {a b c : Nat} (h : Rch N a b) (k : Rch N b c) : Rch N a c := by
  induction k with
  | refl => exact h
  | step _ hn ih => exact ih.step hn
theorem Rch.symm {N : Nat → Nat → Prop} (hs : ∀ a b, N a b → N b a) {a b : Nat} (h : Rch N a b) : Rch N b a := by
  induction h with
  | refl => exact .refl
  | step _ hn ih => exact (Rch.step .refl (hs _ _ hn)).trans ih
theorem Rch.lt {N : Nat → Nat → Prop} {n a b : Nat} (hb : ∀ a b, N a b → b < n) (ha : a < n) (h : Rch N a b) : b < n := by
  cases h with
  | refl => exact ha
  | step _ hn => exact hb _ _ hn
theorem Rch.free {N : Nat → Nat → Prop} {fr : Nat → Bool} (hf : ∀ a b, N a b → fr a = true ∧ fr b = true) {a b : Nat} (h : Rch N a b) (ha : fr a = true) : fr b = true := by
  cases h with
  | refl => exact ha
  | step _ hn => exact (hf _ _ hn).2
/-- Each free tile is called by the least one that it can come to. -/
structure IsPart (n : Nat) (N : Nat → Nat → Prop) (fr : Nat → Bool) (P : Nat → Int) : Prop where
  no : ∀ t, t < n → fr t = false → P t = -1
  yes : ∀ t, t < n → fr t = true → ∃ m : Nat, P t = (m : Int) ∧ Rch N t m ∧ ∀ u, Rch N t u → m ≤ u
theorem IsPart.eq {n : Nat} {N : Nat → Nat → Prop} {fr : Nat → Bool} {P P' : Nat → Int} (h : IsPart n N fr P) (h' : IsPart n N fr P') {t : Nat} (ht : t < n) : P t = P' t := by
  cases e : fr t
  · rw [h.no t ht e, h'.no t ht e]
  · obtain ⟨m, e1, r1, l1⟩ := h.yes t ht e
    obtain ⟨k, e2, r2, l2⟩ := h'.yes t ht e
    have := l1 k r2
    have := l2 m r1
    omega
/-- Between two fills: all parts that begin below s are done, the others are not begun. -/
structure Upto (n : Nat) (N : Nat → Nat → Prop) (fr : Nat → Bool) (s : Nat) (P : Nat → Int) : Prop where
  no : ∀ t, t < n → fr t = false → P t = -1
  yes : ∀ t, t < n → fr t = true → (∃ m : Nat, m < s ∧ P t = (m : Int) ∧ Rch N t m ∧ ∀ u, Rch N t u → m ≤ u) ∨ (P t = -1 ∧ ∀ u, Rch N t u → s ≤ u)
theorem Upto.start {n : Nat} {N : Nat → Nat → Prop} {fr : Nat → Bool} {P : Nat → Int} (h : ∀ t, t < n → P t = -1) : Upto n N fr 0 P :=
  ⟨fun t ht _ => h t ht, fun t ht _ => Or.inr ⟨h t ht, fun u _ => Nat.zero_le u⟩⟩
theorem Upto.all {n : Nat} {N : Nat → Nat → Prop} {fr : Nat → Bool} {P : Nat → Int} (h : Upto n N fr n P) (hs : ∀ a b, N a b → N b a) : IsPart n N fr P := by
  refine ⟨h.no, fun t ht e => ?_⟩
  rcases h.yes t ht e with ⟨m, _, e1, r, l⟩ | ⟨_, l⟩
  · exact ⟨m, e1, r, l⟩
  · exact absurd (l t .refl) (by omega)
/-- Nothing is to be filled from s. -/
theorem Upto.skip {n s : Nat} {N : Nat → Nat → Prop} {fr : Nat → Bool} {P : Nat → Int} (h : Upto n N fr s P) (hs : ∀ a b, N a b → N b a) (hf : ∀ a b, N a b → fr a = true ∧ fr b = true) (hlt : s < n) (hk : fr s = false ∨ 0 ≤ P s) : Upto n N fr (s + 1) P := by
  refine ⟨h.no, fun t ht e => ?_⟩
  rcases h.yes t ht e with ⟨m, hm, e1, r, l⟩ | ⟨e1, l⟩
  · exact Or.inl ⟨m, by omega, e1, r, l⟩
  · refine Or.inr ⟨e1, fun u hu => ?_⟩
    have h1 := l u hu
    by_cases c : u = s
    · subst c
      exfalso
      have hfu := hu.free hf e
      rcases hk with hk | hk
      · rw [hk] at hfu; cases hfu
      · rcases h.yes u hlt hfu with ⟨m, hm, e2, r2, l2⟩ | ⟨e2, l2⟩
        · have := l m (hu.trans r2)
          omega
        · omega
    · omega
/-- While it is filled from s: what waits, what is done. -/
structure Fil (n : Nat) (N : Nat → Nat → Prop) (s : Nat) (P0 P : Nat → Int) (wait : Nat → Prop) : Prop where
  old : ∀ t, t < n → P t = P0 t ∨ (P t = (s : Int) ∧ Rch N s t)
  at0 : P s = (s : Int)
  keep : ∀ t, t < n → 0 ≤ P0 t → P t = P0 t
  rel : ∀ t, t < n → Rch N s t → P t = (s : Int) → wait t ∨ ∀ u, N t u → 0 ≤ P u
theorem Upto.fill {n s : Nat} {N : Nat → Nat → Prop} {fr : Nat → Bool} {P0 P : Nat → Int} {wait : Nat → Prop} (h : Upto n N fr s P0) (hs : ∀ a b, N a b → N b a) (hb : ∀ a b, N a b → b < n) (hf : ∀ a b, N a b → fr a = true ∧ fr b = true) (hlt : s < n) (hfs : fr s = true) (h0 : P0 s < 0)
    (k : Fil n N s P0 P wait) (hw : ∀ t, ¬ wait t) : Upto n N fr (s + 1) P := by
  -- all that s can come to is called by s
  have hl : ∀ u, Rch N s u → s ≤ u := by
    rcases h.yes s hlt hfs with ⟨m, _, e, _⟩ | ⟨_, l⟩
    · omega
    · exact l
  have hm1 : ∀ t, Rch N s t → P0 t = -1 := fun t ht => by
    have htn := ht.lt hb hlt
    rcases h.yes t htn (ht.free hf hfs) with ⟨m, hm, e, r, l⟩ | ⟨e, _⟩
    · have := hl m (ht.trans r)
      omega
    · exact e
  have hall : ∀ t, Rch N s t → P t = (s : Int) := fun t ht => by
    induction ht with
    | refl => exact k.at0
    | @step u v hu hn ih =>
      have hun := hu.lt hb hlt
      have hvn := hb _ _ hn
      rcases k.rel u hun hu ih with hw' | hr
      · exact absurd hw' (hw u)
      · have h1 := hr v hn
        rcases k.old v hvn with e | ⟨e, _⟩
        · rw [e, hm1 v (hu.step hn)] at h1
          omega
        · exact e
  refine ⟨fun t ht e => ?_, fun t ht e => ?_⟩
  · rcases k.old t ht with q | ⟨_, r⟩
    · rw [q]; exact h.no t ht e
    · have := r.free hf hfs
      rw [e] at this
      cases this
  · by_cases c : Rch N s t
    · exact Or.inl ⟨s, by omega, hall t c, c.symm hs, fun u hu => hl u (c.trans hu)⟩
    · have hq : P t = P0 t := by
        rcases k.old t ht with q | ⟨_, r⟩
        · exact q
        · exact absurd r c
      rw [hq]
      rcases h.yes t ht e with ⟨m, hm, e1, r, l⟩ | ⟨e1, l⟩
      · exact Or.inl ⟨m, by omega, e1, r, l⟩
      · refine Or.inr ⟨e1, fun u hu => ?_⟩
        have h1 := l u hu
        by_cases d : u = s
        · subst d
          exact absurd (hu.symm hs) c
        · omega
/-- The least numbers spread till nothing changes: that is it, too. -/
structure Spr (n : Nat) (N : Nat → Nat → Prop) (fr : Nat → Bool) (P : Nat → Int) : Prop where
  no : ∀ t, t < n → fr t = false → P t = -1
  yes : ∀ t, t < n → fr t = true → ∃ m : Nat, P t = (m : Int) ∧ Rch N t m ∧ m ≤ t
theorem Spr.done {n : Nat} {N : Nat → Nat → Prop} {fr : Nat → Bool} {P : Nat → Int} (h : Spr n N fr P) (hs : ∀ a b, N a b → N b a) (hb : ∀ a b, N a b → b < n) (hf : ∀ a b, N a b → fr a = true ∧ fr b = true) (hd : ∀ t u, t < n → N t u → P t ≤ P u) : IsPart n N fr P := by
  have hle : ∀ t u, t < n → Rch N t u → P t ≤ P u := fun t u ht r => by
    induction r with
    | refl => exact Int.le_refl _
    | @step u v hu hn ih => exact Int.le_trans ih (hd u v (hu.lt hb ht) hn)
  refine ⟨h.no, fun t ht e => ?_⟩
  obtain ⟨m, e1, r, hm⟩ := h.yes t ht e
  refine ⟨m, e1, r, fun u hu => ?_⟩
  have hun := hu.lt hb ht
  obtain ⟨k, e2, _, hk⟩ := h.yes u hun (hu.free hf e)
  have := hle t u ht hu
  omega
theorem Spr.start {n : Nat} {N : Nat → Nat → Prop} {fr : Nat → Bool} : Spr n N fr (fun t => if fr t = true then (t : Int) else -1) :=
  ⟨fun t _ e => by simp [e], fun t _ e => ⟨t, by simp [e], .refl, Nat.le_refl _⟩⟩
theorem Spr.take {n t u : Nat} {N : Nat → Nat → Prop} {fr : Nat → Bool} {P : Nat → Int} (h : Spr n N fr P) (hf : ∀ a b, N a b → fr a = true ∧ fr b = true) (hn : N t u) (hu : u < n) (hl : P u < P t) : Spr n N fr (fun k => if k = t then P u else P k) := by
  refine ⟨fun k hk e => ?_, fun k hk e => ?_⟩
  · by_cases c : k = t
    · subst c
      rw [(hf _ _ hn).1] at e
      cases e
    · simp only [if_neg c]; exact h.no k hk e
  · by_cases c : k = t
    · subst c
      simp only [if_pos rfl]
      obtain ⟨m, e1, r1, _⟩ := h.yes u hu (hf _ _ hn).2
      obtain ⟨j, e2, _, hj⟩ := h.yes k hk e
      exact ⟨m, e1, (Rch.step .refl hn).trans r1, by omega⟩
    · simp only [if_neg c]; exact h.yes k hk e
end Go.Proofs.Ytcgilmjhbdehpaa
