import Derived.WalkKit
import Derived.Below
import Derived.Test.YthabjihpjdlmoaaDoorProg
import Derived.Laws.BitsAllLaws
import Derived.RowKit
import Derived.WalkLawsBesides
import Derived.WalkSpells
import Derived.Outline
import Derived.Deep.QuietTactic
import Derived.BigQuiet
import Derived.Deep.RegionHeld3
import Derived.Deep.RegionWith
import Derived.Maps.AppendAt
import Derived.Lib.SlBytesConst
import Derived.OneCell
import Derived.Laws.Rows
import Derived.Deep.DeepCutAuto
import Derived.Deep.DeepFit
/- Rules by which a walk reads old cells in a later world. -/
namespace Go.Proofs.YthabjihpjdlmoaaDoor
open Go.RowKit
theorem kw_rules {N : Nat} {W X : World} (h : Below N W X) (hN : N ≤ W.heap.size) :
    (∀ b o, b < N → X.cell? ⟨b, o, none⟩ = W.cell? ⟨b, o, none⟩) ∧ (∀ b o, b < N → X.frozen? ⟨b, o, none⟩ = W.frozen? ⟨b, o, none⟩) ∧ (∀ b, b < N → b < X.heap.size) ∧ (∀ b, b < N → ¬ b = X.heap.size) ∧ (∀ b, b < N → ¬ X.heap.size = b) := by
  have hs := h.size
  exact ⟨fun b o hb => h.cell (p := ⟨b, o, none⟩) hb, fun b o hb => h.frozen (p := ⟨b, o, none⟩) hb, fun b hb => by omega, fun b hb => by omega, fun b hb => by omega⟩
theorem kw_step {N : Nat} {W X Y : World} (h : Below N W X) (hN : N ≤ W.heap.size) (hb : Below X.heap.size X Y) : Below N W Y := h.trans (hb.mono (Nat.le_trans hN h.size))
theorem kw_drew {N : Nat} {W X : World} (h : Below N W X) : Below N W X.drew := h.drew
theorem bset {B : Nat} {w X : World} (h : Below B w X) {b : Nat} (off : Nat) (hb : B ≤ b) (v : Value) : Below B w (X.setCell ⟨b, off, none⟩ v) := Below.setCell (p := ⟨b, off, none⟩) h hb v
theorem kw_S {N : Nat} {W X : World} (h : Below N W X) : (∀ b o, b < N → X.cell? ⟨b, o, none⟩ = W.cell? ⟨b, o, none⟩) ∧ Below N W X := ⟨fun b o hb => h.cell (p := ⟨b, o, none⟩) hb, h⟩
theorem kw_size {N : Nat} {W X : World} (h : Below N W X) (hN : N ≤ W.heap.size) : N ≤ X.heap.size := Nat.le_trans hN h.size
end Go.Proofs.YthabjihpjdlmoaaDoor
/- Plain arithmetic for layer 3 (fnv): a byte's step can be told apart. No program in it. -/
namespace Go.Proofs.YthabjihpjdlmoaaDoor.Fn
open Go
/-- One byte's step. -/
def stepS (s b : Int) : Int := IntKind.u64.wrap (bits BinOp.xor IntKind.u64 s b * 1099511628211)
def sumS (s : Int) (l : List Int) : Int := l.foldl stepS s
def U64 (s : Int) : Prop := 0 ≤ s ∧ s ≤ 18446744073709551615
def Byt (b : Int) : Prop := 0 ≤ b ∧ b ≤ 255
theorem wrapu (x : Int) : IntKind.u64.wrap x = x % 18446744073709551616 := by simp [IntKind.wrap, IntKind.bits, IntKind.signed]
theorem step_bd (s b : Int) : U64 (stepS s b) := by unfold stepS U64; rw [wrapu]; omega
theorem xor_eq {s b : Int} (hs : U64 s) (hb : Byt b) : bits BinOp.xor IntKind.u64 s b = ((s.toNat ^^^ b.toNat : Nat) : Int) := by
  unfold U64 at hs; unfold Byt at hb
  exact u64_xor s b (by omega) (by omega) (by omega) (by omega)
theorem xor_lt {s b : Int} (hs : U64 s) (hb : Byt b) : s.toNat ^^^ b.toNat < 18446744073709551616 := by
  unfold U64 at hs; unfold Byt at hb
  exact Nat.xor_lt_two_pow (n := 64) (by omega) (by omega)
/-- The factor is odd: what it has multiplied can be told. -/
theorem unit_mod (z : Int) : (z * 1099511628211 % 18446744073709551616) * 14886173955864302971 % 18446744073709551616 = z % 18446744073709551616 := by
  rw [Int.mul_emod, Int.emod_emod, ← Int.mul_emod, Int.mul_assoc, Int.mul_emod]
  have e : (1099511628211 * 14886173955864302971 : Int) % 18446744073709551616 = 1 := by decide +kernel
  rw [e, Int.mul_one, Int.emod_emod]
theorem prime_inj {x y : Nat} (hx : x < 18446744073709551616) (hy : y < 18446744073709551616) (h : ((x : Int) * 1099511628211) % 18446744073709551616 = ((y : Int) * 1099511628211) % 18446744073709551616) : x = y := by
  have a := unit_mod x
  have b := unit_mod y
  rw [h, b] at a
  clear b h
  omega
theorem step_inj {s t b c : Int} (hs : U64 s) (ht : U64 t) (hb : Byt b) (hc : Byt c) (h : stepS s b = stepS t c) : s.toNat ^^^ b.toNat = t.toNat ^^^ c.toNat := by
  unfold stepS at h
  rw [wrapu, wrapu, xor_eq hs hb, xor_eq ht hc] at h
  exact prime_inj (xor_lt hs hb) (xor_lt ht hc) h
theorem step_inj_s {s t b : Int} (hs : U64 s) (ht : U64 t) (hb : Byt b) (h : stepS s b = stepS t b) : s = t := by
  have e := step_inj hs ht hb hb h
  have e2 := congrArg (· ^^^ b.toNat) e
  simp only [Nat.xor_assoc, Nat.xor_self, Nat.xor_zero] at e2
  unfold U64 at hs ht; omega
theorem step_inj_b {s b c : Int} (hs : U64 s) (hb : Byt b) (hc : Byt c) (h : stepS s b = stepS s c) : b = c := by
  have e := step_inj hs hs hb hc h
  have e2 := congrArg (s.toNat ^^^ ·) e
  simp only [← Nat.xor_assoc, Nat.xor_self, Nat.zero_xor] at e2
  unfold Byt at hb hc; omega
theorem sum_bd {s : Int} (hs : U64 s) (l : List Int) : U64 (sumS s l) := by
  unfold sumS
  induction l generalizing s with
  | nil => exact hs
  | cons b l ih => exact ih (step_bd s b)
theorem sum_inj {s t : Int} (hs : U64 s) (ht : U64 t) {l : List Int} (hl : ∀ b ∈ l, Byt b) (h : sumS s l = sumS t l) : s = t := by
  unfold sumS at h
  induction l generalizing s t with
  | nil => exact h
  | cons b l ih =>
    have := ih (step_bd s b) (step_bd t b) (fun x hx => hl x (List.mem_cons_of_mem _ hx)) h
    exact step_inj_s hs ht (hl b (List.mem_cons_self ..)) this
theorem sum_append (s : Int) (l m : List Int) : sumS s (l ++ m) = sumS (sumS s l) m := by unfold sumS; exact List.foldl_append
theorem sum_snoc (s : Int) (l : List Int) (b : Int) : sumS s (l ++ [b]) = stepS (sumS s l) b := by rw [sum_append]; rfl
theorem sum_take {s : Int} {l : List Int} {k : Nat} (h : k < l.length) : sumS s (l.take (k + 1)) = stepS (sumS s (l.take k)) (l.getD k 0) := by
  rw [List.take_succ_eq_append_getElem h, sum_snoc]
  simp [List.getD, List.getElem?_eq_getElem h]
theorem sum_changed {s : Int} (hs : U64 s) {l : List Int} (hl : ∀ b ∈ l, Byt b) {k : Nat} (hk : k < l.length) {c : Int} (hc : Byt c) (hne : c ≠ l.getD k 0) : sumS s (l.set k c) ≠ sumS s l := by
  intro h
  have e1 : l = l.take k ++ (l.getD k 0 :: l.drop (k + 1)) := by
    have : l.getD k 0 = l[k] := by simp [List.getD, List.getElem?_eq_getElem hk]
    rw [this, List.getElem_cons_drop, List.take_append_drop]
  have e2 : l.set k c = l.take k ++ (c :: l.drop (k + 1)) := List.set_eq_take_append_cons_drop.trans (by rw [if_pos hk])
  have hb : Byt (l.getD k 0) := by
    have : l.getD k 0 = l[k] := by simp [List.getD, List.getElem?_eq_getElem hk]
    rw [this]; exact hl _ (List.getElem_mem hk)
  rw [e2] at h
  have h' : sumS s (l.take k ++ (c :: l.drop (k + 1))) = sumS s (l.take k ++ (l.getD k 0 :: l.drop (k + 1))) := h.trans (congrArg _ e1)
  rw [sum_append, sum_append] at h'
  have h2 : sumS (stepS (sumS s (l.take k)) c) (l.drop (k + 1)) = sumS (stepS (sumS s (l.take k)) (l.getD k 0)) (l.drop (k + 1)) := h'
  have h3 := sum_inj (step_bd _ _) (step_bd _ _) (fun x hx => hl x (List.mem_of_mem_drop hx)) h2
  exact hne (step_inj_b (sum_bd hs _) hc hb h3)
/-- A number brought from 0 below n. -/
def wiS (i n : Int) : Int := i % 18446744073709551616 % n
theorem wi_bd (i : Int) {n : Int} (h : 1 ≤ n) : 0 ≤ wiS i n ∧ wiS i n < n := by
  unfold wiS
  exact ⟨Int.emod_nonneg _ (by omega), Int.emod_lt_of_pos _ (by omega)⟩
theorem xor8 {x d : Int} (hx : Byt x) (hd : 1 ≤ d ∧ d ≤ 255) : Byt (bits BinOp.xor IntKind.u8 x d) ∧ bits BinOp.xor IntKind.u8 x d ≠ x := by
  unfold Byt at hx
  rw [u8_xor x d (by omega) (by omega) (by omega) (by omega)]
  have hl : x.toNat ^^^ d.toNat < 256 := Nat.xor_lt_two_pow (n := 8) (by omega) (by omega)
  refine ⟨by unfold Byt; omega, fun h => ?_⟩
  have e : x.toNat ^^^ d.toNat = x.toNat := by omega
  have e2 := congrArg (x.toNat ^^^ ·) e
  simp only [← Nat.xor_assoc, Nat.xor_self, Nat.zero_xor] at e2
  omega
end Go.Proofs.YthabjihpjdlmoaaDoor.Fn
/- Slices of bytes: what it means that one reads as a list; bytes copied, compared. -/
namespace Go.Proofs.YthabjihpjdlmoaaDoor
open Go.RowKit
set_option linter.unusedVariables false
/-- A fact kept behind a name. -/
structure Hk (p : Prop) : Prop where
  out : p
/-- The n cells that a slice at this address holds, below block B. -/
def Rd (w : World) (B : Nat) (a : Option Addr) (n : Nat) (f : Nat → Value) : Prop :=
  0 < n → ∃ b off, a = some ⟨b, off, none⟩ ∧ b < B ∧ ∀ k, k < n → w.cell? ⟨b, off + k, none⟩ = some (f k)
theorem Rd.below {w w' : World} {B B' n : Nat} {a : Option Addr} {f : Nat → Value} (h : Rd w B a n f) (hb : Below B' w w') (hB : B ≤ B') : Rd w' B a n f := fun hn => by
  obtain ⟨b, off, e, hlt, hc⟩ := h hn
  exact ⟨b, off, e, hlt, fun k hk => (hb.cell (p := ⟨b, off + k, none⟩) (Nat.lt_of_lt_of_le hlt hB)).trans (hc k hk)⟩
theorem Rd.grown {w w' : World} {B n : Nat} {a : Option Addr} {f : Nat → Value} {row : Option Nat} (h : Rd w B a n f) (hg : w.grownBy w' row) (hB : B ≤ w.heap.size) (hr : ∀ g, row = some g → B ≤ g) : Rd w' B a n f := fun hn => by
  obtain ⟨b, off, e, hlt, hc⟩ := h hn
  exact ⟨b, off, e, hlt, fun k hk => (World.cell?_of_block (hg.block b (by omega) (fun e => by have := hr _ e.symm; omega))).trans (hc k hk)⟩
theorem Rd.mono {w : World} {B B' n : Nat} {a : Option Addr} {f : Nat → Value} (h : Rd w B a n f) (hB : B ≤ B') : Rd w B' a n f := fun hn => by
  obtain ⟨b, off, e, hlt, hc⟩ := h hn
  exact ⟨b, off, e, by omega, hc⟩
def u8 (x : Int) : Value := .int .u8 x
/-- The slice reads as these bytes. -/
structure By (w : World) (B : Nat) (a : Option Addr) (n : Nat) (xs : List Int) : Prop where
  len : xs.length = n
  byt : ∀ b ∈ xs, Fn.Byt b
  rd : Rd w B a n (fun k => .int .u8 (xs.getD k 0))
theorem getD_mem {xs : List Int} {k : Nat} (h : k < xs.length) : xs.getD k 0 ∈ xs := by
  have : xs.getD k 0 = xs[k] := by simp [List.getD, List.getElem?_eq_getElem h]
  rw [this]; exact List.getElem_mem h
section
variable {w w' : World} {B B' n : Nat} {a : Option Addr} {xs : List Int}
theorem By.below (h : By w B a n xs) (hb : Below B' w w') (hB : B ≤ B') : By w' B a n xs := ⟨h.len, h.byt, h.rd.below hb hB⟩
theorem By.mono (h : By w B a n xs) (hB : B ≤ B') : By w B' a n xs := ⟨h.len, h.byt, h.rd.mono hB⟩
theorem By.grown {row : Option Nat} (h : By w B a n xs) (hg : w.grownBy w' row) (hB : B ≤ w.heap.size) (hr : ∀ g, row = some g → B ≤ g) : By w' B a n xs := ⟨h.len, h.byt, h.rd.grown hg hB hr⟩
theorem By.drew (h : By w B a n xs) : By w.drew B a n xs := ⟨h.len, h.byt, h.rd⟩
theorem By.drewN (h : By w B a n xs) (k : Nat) : By (w.drewN k) B a n xs := ⟨h.len, h.byt, h.rd⟩
theorem By.alloc (h : By w B a n xs) (hB : B ≤ w.heap.size) (o : Obj) : By (w.alloc o) B a n xs := h.below ((Below.refl _ _).alloc (Nat.le_refl _) o) hB
theorem By.bd (h : By w B a n xs) {k : Nat} (hk : k < n) : 0 ≤ xs.getD k 0 ∧ xs.getD k 0 ≤ 255 := h.byt _ (getD_mem (by rw [h.len]; exact hk))
theorem By.nil (w : World) (B : Nat) (a : Option Addr) : By w B a 0 [] := ⟨rfl, by simp, fun h => absurd h (by omega)⟩
theorem By.at_ (h : By w B a n xs) (hn : 0 < n) : ∃ b off, a = some ⟨b, off, none⟩ ∧ b < B ∧ ∀ k, k < n → w.cell? ⟨b, off + k, none⟩ = some (.int .u8 (xs.getD k 0)) := h.rd hn
end
theorem below_drewN {B : Nat} {a w : World} (h : Below B a w) (n : Nat) : Below B a (w.drewN n) := ⟨h.os, h.tape, h.output, h.size, h.block⟩
theorem By.head {w : World} {B n k : Nat} {a : Option Addr} {xs : List Int} (h : By w B a n xs) (hk : k ≤ n) : By w B a k (xs.take k) :=
  ⟨by have := h.len; simp; omega, fun b hb => h.byt b (List.mem_of_mem_take hb), fun hp => by
    obtain ⟨b, off, e, hb, hc⟩ := h.rd (by omega)
    refine ⟨b, off, e, hb, fun i hi => ?_⟩
    rw [hc i (by omega)]
    simp [List.getD, hi]⟩
theorem By.tail {w : World} {B n k b off : Nat} {xs : List Int} (h : By w B (some ⟨b, off, none⟩) n xs) (hk : k ≤ n) : By w B (some ⟨b, off + k, none⟩) (n - k) (xs.drop k) :=
  ⟨by have := h.len; simp; omega, fun b hb => h.byt b (List.mem_of_mem_drop hb), fun hp => by
    obtain ⟨b', off', e, hb, hc⟩ := h.rd (by omega)
    simp only [Option.some.injEq, Addr.mk.injEq] at e
    obtain ⟨rfl, rfl, _⟩ := e
    refine ⟨b, off + k, rfl, hb, fun i hi => ?_⟩
    rw [Nat.add_assoc, hc (k + i) (by omega)]
    simp [List.getD]⟩
/-- Bytes that were written out. -/
theorem By.lit (w : World) (xs : List Int) (t : TypeId) (fr : Nat × Nat) (B n : Nat) (hl : xs.length = n) (hx : ∀ b ∈ xs, Fn.Byt b) (hB : w.heap.size < B) : By (w.alloc (.cells (xs.map (Value.int .u8)).toArray t fr)) B (some ⟨w.heap.size, 0, none⟩) n xs := by
  refine ⟨hl, hx, fun _ => ⟨_, _, rfl, hB, fun k hk => ?_⟩⟩
  rw [Nat.zero_add, World.cell?_alloc_mark]
  simp [List.getD, List.getElem?_eq_getElem (show k < xs.length by omega)]
theorem ri {k : IntKind} {a b : Int} (h : a = b) : Ending.returned (.int k a) = .returned (.int k b) := by rw [h]
/-- A value that owns these bytes. -/
def OwnB (w : World) (base : Nat) (v : Value) (n : Nat) (xs : List Int) : Prop := xs.length = n ∧ (∀ b ∈ xs, Fn.Byt b) ∧ w.ownsRow base 5 1 v n (xs.map (Value.int .u8))
theorem OwnB.lt {w : World} {base n : Nat} {v : Value} {xs : List Int} (h : OwnB w base v n xs) : ∀ k, v.ownBlock = some k → base ≤ k ∧ k < w.heap.size := h.2.2.lt
theorem OwnB.by_ {w : World} {base n : Nat} {v : Value} {xs : List Int} (h : OwnB w base v n xs) : ∃ a c, v = .slice a n c ∧ n ≤ c ∧ By w w.heap.size a n xs ∧ (∀ b off, a = some ⟨b, off, none⟩ → base ≤ b ∧ off = 0 ∧ w.frozen? ⟨b, 0, none⟩ = false) := by
  obtain ⟨h1, h2, h3⟩ := h
  have h3' := h3
  rcases h3.2 with ⟨rfl, rfl⟩ | ⟨g, cap, cur, rfl, hg, hh, hc, hm, hs, ht⟩
  · exact ⟨none, 0, rfl, by omega, ⟨h1, h2, fun h => absurd h (by omega)⟩, fun b off h => by cases h⟩
  · refine ⟨_, _, rfl, hc, ⟨h1, h2, fun hn => ⟨g, 0, rfl, lt_of_block hh, fun k hk => ?_⟩⟩, fun b off e => ?_⟩
    · have := h3'.cellAt k (by omega)
      rw [Nat.zero_add, this]
      simp [List.getElem?_map, List.getD, List.getElem?_eq_getElem (show k < xs.length by omega)]
    · simp only [Option.some.injEq, Addr.mk.injEq] at e
      obtain ⟨rfl, rfl, _⟩ := e
      exact ⟨hg, rfl, h3'.frozenAt 0⟩
theorem OwnB.below {w w' : World} {base n : Nat} {v : Value} {xs : List Int} (h : OwnB w base v n xs) (hb : Below w.heap.size w w') : OwnB w' base v n xs := by
  refine ⟨h.1, h.2.1, h.2.2.kept (row := none) ⟨hb.os, hb.tape, hb.output, hb.size, fun i hi _ => hb.block i hi⟩ ?_⟩
  cases h' : v.ownBlock
  · exact .inl rfl
  · exact .inr (by simp)
theorem OwnB.weak {w : World} {base base' n : Nat} {v : Value} {xs : List Int} (h : OwnB w base v n xs) (hb : base' ≤ base) : OwnB w base' v n xs := by
  refine ⟨h.1, h.2.1, h.2.2.1, ?_⟩
  rcases h.2.2.2 with e | ⟨g, cap, cur, e1, hg, e2⟩
  · exact .inl e
  · exact .inr ⟨g, cap, cur, e1, by omega, e2⟩
theorem OwnB.set_ {w : World} {base n c g : Nat} {xs : List Int} (h : OwnB w base (.slice (some ⟨g, 0, none⟩) n c) n xs) (j : Nat) {y : Int} (hy : Fn.Byt y) : OwnB (w.setCell ⟨g, j, none⟩ (.int .u8 y)) base (.slice (some ⟨g, 0, none⟩) n c) n (xs.set j y) := by
  refine ⟨by rw [List.length_set]; exact h.1, fun b hb => ?_, ?_⟩
  · rcases List.mem_or_eq_of_mem_set hb with h1 | rfl
    · exact h.2.1 b h1
    · exact hy
  · have := (h.2.2.stored j (.int .u8 y)).1
    rwa [List.map_set]
theorem OwnB.drewN {w : World} {base n : Nat} {v : Value} {xs : List Int} (h : OwnB w base v n xs) (k : Nat) : OwnB (w.drewN k) base v n xs := h
theorem OwnB.drew {w : World} {base n : Nat} {v : Value} {xs : List Int} (h : OwnB w base v n xs) : OwnB w.drew base v n xs := h
theorem info_u8 : (Tryd.prog.info? 5).map (fun i => (i.zero, i.size, i.bytes)) = some (some (.int .u8 0), 1, 1) := by kernel_rfl
theorem take_map (xs : List Int) (k : Nat) (h : k < xs.length) : List.take k (List.map (Value.int .u8) xs) ++ [.int .u8 (xs[k]?.getD 0)] = (xs.take (k + 1)).map (Value.int .u8) := by
  rw [List.take_succ_eq_append_getElem h, List.map_append, List.map_take]
  simp [List.getElem?_eq_getElem h]
theorem one_new (w : World) (v : Value) (t : TypeId) : ∀ (j : Nat) (u : Value), [v][j]? = some u → (w.alloc (.cells #[v] t)).cell? ((⟨w.heap.size, 0, none⟩ : Addr).add j) = some u := by
  intro j u hj
  match j, hj with
  | 0, hj => simp at hj; subst hj; simp [Addr.add]
/-- Bytes copied lie in new memory. -/
theorem copy_any (a : Option Addr) (n c : Nat) (xs : List Int) (w : World) (h : By w w.heap.size a n xs) (hn : n ≤ 1099511627776) :
    Calls Tryd.prog 56 #[.slice a n c] w fun e w' => ∃ v, e = .returned v ∧ OwnB w' w.heap.size v n xs ∧ Below w.heap.size w w' := by
  obtain ⟨i0, hi, hz0, hz1, hz2⟩ := info_parts info_u8
  have H := Hk.mk h
  clear h
  go_enter Tryd.func56, Tryd.ntmps56
  go_wp2
  go_loopw [3, 4] (fun m i wr => ∃ k : Nat, k ≤ n ∧ i = .int .i64 k ∧ Hk (wr.ownsRow w.heap.size 5 1 m k ((xs.take k).map (Value.int .u8))) ∧ Hk (Below w.heap.size w wr)) (fun _ i _ => n - (intOf i).toNat)
  case atStart => exact ⟨0, Nat.zero_le _, rfl, ⟨World.ownsRow_nil _ _ _ _⟩, ⟨Below.refl _ _⟩⟩
  case round =>
    obtain ⟨k, hk, rfl, HO, HB⟩ := hrel
    by_cases hlt : k < n
    · obtain ⟨b, off, rfl, hbl, hc⟩ := H.out.at_ (by omega)
      have hcx := (HB.out.cell (p := ⟨b, off + k, none⟩) hbl).trans (hc k hlt)
      have hsz := HB.out.size
      have hown := HO.out
      clear hc
      go_wp2_with (at_builtin; refine wpList_append_own _ rfl _ _ 22 rfl w.heap.size 5 i0 (.int .u8 0) 1 1 Tryd.underlying22 hi hz0 hz1 hz2 rfl (by decide) _ _ _ rfl (hown.alloc _) ⟨wr.heap.size, 0, none⟩ 1 1 [.int .u8 (xs.getD k 0)] rfl rfl ?c1 ?c2 ?c3 ?c4 ?c5 ?_)
      case c1 =>
        intro j u hj
        match j, hj with
        | 0, hj => simp at hj; subst hj; simp [Addr.add]
      case c2 => intro u hu; simp at hu; subst hu; rfl
      case c3 => unfold maxLen; omega
      case c4 => omega
      case c5 => simp; omega
      · intro v' w1 hown' hgrow _
        rw [take_map xs k (by rw [H.out.len]; exact hlt)] at hown'
        have HO2 := Hk.mk hown'
        have HB2 := Hk.mk ((HB.out.alloc hsz (.cells #[.int .u8 (xs.getD k 0)] 5)).grown hgrow (by simp; omega) (fun g hg => (hown.lt g hg).1))
        clear hown' hgrow hown HO HB hcx
        go_wp2
        go_roundw
        case rel => exact ⟨k + 1, by omega, by go_num, HO2, HB2⟩
        case measure => simp [intOf]; omega
    · have hkn : k = n := by omega
      subst hkn
      go_wp2
      go_ret
      exact ⟨_, rfl, ⟨H.out.len, H.out.byt, by have := HO.out; rwa [List.take_of_length_le (by rw [H.out.len]; omega)] at this⟩, HB.out⟩
theorem eq_of_getD {xs ys : List Int} (hl : xs.length = ys.length) (h : ∀ k, k < xs.length → xs.getD k 0 = ys.getD k 0) : xs = ys := by
  refine List.ext_getElem hl fun k h1 h2 => ?_
  have := h k h1
  simpa [List.getD, List.getElem?_eq_getElem h1, List.getElem?_eq_getElem h2] using this
/-- Two slices of bytes compared, where they are known to be the same or not. -/
theorem eqb_yes (a a' : Option Addr) (n c c' : Nat) (xs : List Int) (w : World) (h : By w w.heap.size a n xs) (h' : By w w.heap.size a' n xs) (hn : n ≤ 1099511627776) :
    Calls Tryd.prog 58 #[.slice a n c, .slice a' n c'] w fun e w' => e = .returned (.bool true) ∧ ∃ m, w' = w.drewN m := by
  have H := Hk.mk h
  have H' := Hk.mk h'
  clear h h'
  go_enter Tryd.func58, Tryd.ntmps58
  go_wp2
  go_loopw [5] (fun i wr => ∃ k : Nat, k ≤ n ∧ i = .int .i64 k ∧ Hk (∃ m, wr = w.drewN m)) (fun i _ => n - (intOf i).toNat)
  case atStart => exact ⟨0, Nat.zero_le _, rfl, ⟨0, rfl⟩⟩
  case round =>
    obtain ⟨k, hk, rfl, HB⟩ := hrel
    by_cases hlt : k < n
    · obtain ⟨b, off, rfl, hbl, hc⟩ := H.out.at_ (by omega)
      obtain ⟨b', off', rfl, hbl', hc'⟩ := H'.out.at_ (by omega)
      have hcx : wr.cell? ⟨b, off + k, none⟩ = some (.int .u8 (xs.getD k 0)) := by obtain ⟨m, rfl⟩ := HB.out; exact hc k hlt
      have hcy : wr.cell? ⟨b', off' + k, none⟩ = some (.int .u8 (xs.getD k 0)) := by obtain ⟨m, rfl⟩ := HB.out; exact hc' k hlt
      clear hc hc'
      generalize xs.getD k 0 = x at *
      have i1 : (0 : Int) ≤ (k : Int) := by omega
      have i2 : (k : Int) < (n : Int) := by omega
      go_wp2
      go_quiet (fail)
      go_wp2
      go_roundw
      case rel => exact ⟨k + 1, by omega, by go_num, ⟨by obtain ⟨m, rfl⟩ := HB.out; exact ⟨_, by rw [World.drewN_drewN]⟩⟩⟩
      case measure => simp [intOf]; omega
    · have hkn : k = n := by omega
      subst hkn
      go_wp2
      go_ret
      exact ⟨rfl, HB.out⟩
end Go.Proofs.YthabjihpjdlmoaaDoor
/- Regions whose orders meet: states are merged; blocks that the region itself makes are known whole. -/
namespace Go.Proofs.YthabjihpjdlmoaaDoor
open Go.RowKit
theorem reg_merge {p q : Prop} (f : Hk p → q) (x : p) : q := f ⟨x⟩
theorem reg_cast {P : Program} {md : Region.Mode} {ops : Array Oper} {Q : Exit → Act → World → Prop} {S : World → Prop} {n : Nat} {l l' : Array Bool} {a : Act} {w : World} (h : l = l') (k : wpAnyH P md ops Q S n l' a w) : wpAnyH P md ops Q S n l a w := h ▸ k
/-- The block holds just these cells, and may be written. -/
structure Bk (w : World) (P : Nat) (cs : Array Value) : Prop where
  bl : ∃ T, w.heap[P]? = some (.cells cs T (0, 0))
theorem Bk.lt {w : World} {P : Nat} {cs : Array Value} (h : Bk w P cs) : P < w.heap.size := by
  obtain ⟨T, h⟩ := h.bl; exact lt_of_block h
theorem Bk.c {w : World} {P : Nat} {cs : Array Value} (h : Bk w P cs) (i : Nat) : w.cell? ⟨P, i, none⟩ = cs[i]? := by
  obtain ⟨T, h⟩ := h.bl; simp [World.cell?, h]
theorem Bk.f {w : World} {P : Nat} {cs : Array Value} (h : Bk w P cs) (i : Nat) : w.frozen? ⟨P, i, none⟩ = false := by
  obtain ⟨T, h⟩ := h.bl; simp [World.frozen?, h]
theorem Bk.new (w : World) (cs : Array Value) (T : TypeId) : Bk (w.alloc (.cells cs T)) w.heap.size cs := ⟨T, heap_alloc_new w _⟩
theorem Bk.al {w : World} {P : Nat} {cs : Array Value} (h : Bk w P cs) (o : Obj) : Bk (w.alloc o) P cs := by
  have hlt := h.lt
  obtain ⟨T, h⟩ := h.bl; exact ⟨T, by rw [Below.heap_alloc w o P hlt]; exact h⟩
theorem Bk.below {w w' : World} {P : Nat} {cs : Array Value} (h : Bk w P cs) (hb : Below w.heap.size w w') : Bk w' P cs := by
  have hlt := h.lt
  obtain ⟨T, h⟩ := h.bl; exact ⟨T, by rw [hb.block P hlt]; exact h⟩
theorem Bk.drew {w : World} {P : Nat} {cs : Array Value} (h : Bk w P cs) : Bk w.drew P cs := ⟨h.bl⟩
theorem Bk.drewN {w : World} {P : Nat} {cs : Array Value} (h : Bk w P cs) (n : Nat) : Bk (w.drewN n) P cs := ⟨h.bl⟩
theorem Bk.oth {w : World} {P Q : Nat} {cs : Array Value} (h : Bk w P cs) (hn : ¬ P = Q) (i : Nat) (v : Value) : Bk (w.setCell ⟨Q, i, none⟩ v) P cs := by
  obtain ⟨T, h⟩ := h.bl; exact ⟨T, by rw [Below.heap_setCell _ _ _ _ (by simpa using hn)]; exact h⟩
theorem Bk.set {w : World} {P : Nat} {cs : Array Value} (h : Bk w P cs) (i : Nat) (v : Value) : Bk (w.setCell ⟨P, i, none⟩ v) P (cs.setIfInBounds i v) := by
  have hlt := h.lt
  obtain ⟨T, h⟩ := h.bl
  refine ⟨T, ?_⟩
  have h' : w.heap[P] = .cells cs T (0, 0) := by simpa [Array.getElem?_eq_getElem hlt] using h
  show (w.heap.modify P _)[P]? = _
  rw [Array.getElem?_eq_getElem (by simpa using hlt), Array.getElem_modify_self, h']
  rfl
theorem Bk.ne {w : World} {P : Nat} {cs : Array Value} (h : Bk w P cs) : ¬ P = w.heap.size := by have := h.lt; omega
theorem Bk.ne' {w : World} {P : Nat} {cs : Array Value} (h : Bk w P cs) : ¬ w.heap.size = P := by have := h.lt; omega
theorem kw_al {N : Nat} {W X : World} (h : Below N W X) (hN : N ≤ W.heap.size) (o : Obj) : Below N W (X.alloc o) := h.alloc (Nat.le_trans hN h.size) o
theorem kw_le {N : Nat} {W X : World} (h : Below N W X) (hN : N ≤ W.heap.size) : N ≤ X.heap.size := Nat.le_trans hN h.size
theorem kw_s {N : Nat} {W X : World} (h : Below N W X) : ∀ b o, b < N → X.cell? ⟨b, o, none⟩ = W.cell? ⟨b, o, none⟩ := fun b o hb => h.cell (p := ⟨b, o, none⟩) hb
end Go.Proofs.YthabjihpjdlmoaaDoor
/- Plain words of layer 13: walks over steps, tables that no step betters, what is still to be looked at. -/
namespace Go.Proofs.YthabjihpjdlmoaaDoor
open Go.RowKit
set_option linter.unusedVariables false
/-- The steps: T t i the tile, C t i the cost; below 0: there is none. -/
structure Stp (n : Nat) (T C : Nat → Nat → Int) : Prop where
  lt : ∀ t i, t < n → T t i < n
  pos : ∀ t i, t < n → 0 ≤ T t i → 0 < C t i
  top : ∀ t i, t < n → C t i ≤ 84
def Wk (n : Nat) (T C : Nat → Nat → Int) (g : Nat) : Nat → Nat → Int → Prop
  | 0, t, d => t = g ∧ d = 0
  | k + 1, u, d => ∃ t i, t < n ∧ i < 8 ∧ T t i = (u : Int) ∧ Wk n T C g k t (d - C t i)
structure Tab (n : Nat) (T C : Nat → Nat → Int) (g : Nat) (D : Nat → Int) : Prop where
  at0 : D g = 0
  low : ∀ t, t < n → -1 ≤ D t
  real : ∀ t, t < n → 0 ≤ D t → ∃ k, Wk n T C g k t (D t)
  rel : ∀ t i, t < n → i < 8 → 0 ≤ D t → 0 ≤ T t i → 0 ≤ D (T t i).toNat ∧ D (T t i).toNat ≤ D t + C t i
theorem Tab.le {n g : Nat} {T C : Nat → Nat → Int} {D : Nat → Int} (h : Tab n T C g D) : ∀ k t d, Wk n T C g k t d → 0 ≤ D t ∧ D t ≤ d
  | 0, t, d, ⟨e, e'⟩ => by subst e e'; rw [h.at0]; omega
  | k + 1, u, d, ⟨t, i, ht, hi, e, hw⟩ => by
    have h1 := h.le k t _ hw
    have h2 := h.rel t i ht hi h1.1 (by omega)
    rw [e] at h2
    simp at h2
    omega
theorem Tab.leq {n g : Nat} {T C : Nat → Nat → Int} {D D' : Nat → Int} (h : Tab n T C g D) (h' : Tab n T C g D') {t : Nat} (ht : t < n) (h0 : 0 ≤ D' t) : 0 ≤ D t ∧ D t ≤ D' t := by
  obtain ⟨k, hk⟩ := h'.real t ht h0
  exact h.le k t _ hk
theorem Tab.eq {n g : Nat} {T C : Nat → Nat → Int} {D D' : Nat → Int} (h : Tab n T C g D) (h' : Tab n T C g D') {t : Nat} (ht : t < n) : D t = D' t := by
  have a := h.low t ht
  have b := h'.low t ht
  have c := fun q => h.leq h' ht q
  have d := fun q => h'.leq h ht q
  omega
def Rlx (T C : Nat → Nat → Int) (D : Nat → Int) (t i : Nat) : Prop := 0 ≤ T t i → 0 ≤ D (T t i).toNat ∧ D (T t i).toNat ≤ D t + C t i
/-- How many tiles have been come to. -/
def cntD (D : Nat → Int) : Nat → Nat
  | 0 => 0
  | k + 1 => cntD D k + (if 0 ≤ D k then 1 else 0)
theorem cntD_le (D : Nat → Int) : ∀ n, cntD D n ≤ n
  | 0 => Nat.le_refl _
  | k + 1 => by
    have := cntD_le D k
    unfold cntD
    split <;> omega
def updD (D : Nat → Int) (u : Nat) (v : Int) (k : Nat) : Int := if k = u then v else D k
theorem updD_at (D : Nat → Int) (u : Nat) (v : Int) : updD D u v u = v := by unfold updD; rw [if_pos rfl]
theorem updD_far {D : Nat → Int} {u k : Nat} {v : Int} (h : k ≠ u) : updD D u v k = D k := by unfold updD; rw [if_neg h]
theorem cntD_far {D : Nat → Int} {u : Nat} {v : Int} : ∀ {n}, n ≤ u → cntD (updD D u v) n = cntD D n
  | 0, _ => rfl
  | k + 1, h => by
    show cntD (updD D u v) k + _ = cntD D k + _
    rw [cntD_far (n := k) (by omega), updD_far (by omega)]
theorem cntD_upd {D : Nat → Int} {u : Nat} {v : Int} (hv : 0 ≤ v) : ∀ {n}, u < n → cntD (updD D u v) n = cntD D n + (if 0 ≤ D u then 0 else 1)
  | 0, h => by omega
  | k + 1, h => by
    show cntD (updD D u v) k + _ = cntD D k + _ + _
    by_cases e : k = u
    · subst e
      rw [cntD_far (Nat.le_refl _), updD_at, if_pos hv]
      split <;> omega
    · rw [cntD_upd hv (n := k) (by omega), updD_far e]
      omega
/-- What may still be taken off. -/
def potD (D : Nat → Int) : Nat → Nat
  | 0 => 0
  | k + 1 => potD D k + (if D k < 0 then 1400001 else (D k).toNat)
theorem potD_far {D : Nat → Int} {u : Nat} {v : Int} : ∀ {n}, n ≤ u → potD (updD D u v) n = potD D n
  | 0, _ => rfl
  | k + 1, h => by
    show potD (updD D u v) k + _ = potD D k + _
    rw [potD_far (n := k) (by omega), updD_far (by omega)]
theorem potD_upd {D : Nat → Int} {u : Nat} {v : Int} (hv : 0 ≤ v) (hb : v ≤ 1400000) (hd : D u < 0 ∨ v < D u) : ∀ {n}, u < n → potD (updD D u v) n + 1 ≤ potD D n
  | 0, h => by omega
  | k + 1, h => by
    show potD (updD D u v) k + _ + 1 ≤ potD D k + _
    by_cases e : k = u
    · subst e
      rw [potD_far (Nat.le_refl _), updD_at, if_neg (by omega)]
      split <;> omega
    · have := potD_upd hv hb hd (n := k) (by omega)
      rw [updD_far e]
      omega
theorem potD_le {D : Nat → Int} : ∀ n, (∀ t, t < n → D t ≤ 1400001) → potD D n ≤ n * 1400001
  | 0, _ => Nat.le_refl _
  | k + 1, h => by
    have h1 := potD_le k (fun t ht => h t (by omega))
    have h2 := h k (by omega)
    show potD D k + _ ≤ _
    split <;> omega
/-- Between two tiles. -/
structure Lab0 (n : Nat) (T C : Nat → Nat → Int) (g : Nat) (D : Nat → Int) (pend : Nat → Prop) : Prop where
  at0 : D g = 0
  low : ∀ t, t < n → -1 ≤ D t
  real : ∀ t, t < n → 0 ≤ D t → ∃ k, Wk n T C g k t (D t)
  hi : ∀ t, t < n → D t ≤ ((cntD D n : Int) - 1) * 84
  rel : ∀ t, t < n → 0 ≤ D t → pend t ∨ ∀ i, i < 8 → Rlx T C D t i
/-- In a tile, i of its steps done. -/
structure Lab (n : Nat) (T C : Nat → Nat → Int) (g : Nat) (D : Nat → Int) (pend : Nat → Prop) (t i : Nat) : Prop where
  at0 : D g = 0
  low : ∀ t, t < n → -1 ≤ D t
  real : ∀ t, t < n → 0 ≤ D t → ∃ k, Wk n T C g k t (D t)
  hi : ∀ t, t < n → D t ≤ ((cntD D n : Int) - 1) * 84
  rel : ∀ s, s < n → 0 ≤ D s → pend s ∨ (s = t ∧ ∀ j, j < i → Rlx T C D t j) ∨ ∀ j, j < 8 → Rlx T C D s j
  lt : t < n
  nn : 0 ≤ D t
theorem Lab0.bd {n g t : Nat} {T C : Nat → Nat → Int} {D : Nat → Int} {pend : Nat → Prop} (h : Lab0 n T C g D pend) (hn : n ≤ 16384) (ht : t < n) : D t ≤ 1376172 := by
  have := h.hi t ht
  have := cntD_le D n
  omega
theorem Lab.bd {n g s t i : Nat} {T C : Nat → Nat → Int} {D : Nat → Int} {pend : Nat → Prop} (h : Lab n T C g D pend t i) (hn : n ≤ 16384) (ht : s < n) : D s ≤ 1376172 := by
  have := h.hi s ht
  have := cntD_le D n
  omega
def oneD (g k : Nat) : Int := if k = g then 0 else -1
theorem oneD_at (g : Nat) : oneD g g = 0 := if_pos rfl
theorem oneD_no {g k : Nat} (h : k ≠ g) : oneD g k = -1 := if_neg h
theorem cntD_none : ∀ {n g : Nat}, n ≤ g → cntD (oneD g) n = 0
  | 0, _, _ => rfl
  | k + 1, g, h => by
    show cntD (oneD g) k + _ = 0
    rw [cntD_none (n := k) (by omega), oneD_no (by omega)]
    rfl
theorem cntD_one : ∀ {n g : Nat}, g < n → cntD (oneD g) n = 1
  | 0, g, h => by omega
  | k + 1, g, h => by
    show cntD (oneD g) k + _ = 1
    by_cases e : k = g
    · subst e
      rw [cntD_none (Nat.le_refl _), oneD_at]
      rfl
    · rw [cntD_one (n := k) (by omega), oneD_no e]
      rfl
theorem Lab0.start {n g : Nat} {T C : Nat → Nat → Int} {pend : Nat → Prop} (hg : g < n) (hp : pend g) : Lab0 n T C g (oneD g) pend := by
  refine ⟨oneD_at g, fun t _ => ?_, fun t _ h0 => ?_, fun t _ => ?_, fun t _ h0 => ?_⟩
  · unfold oneD; split <;> omega
  · by_cases e : t = g
    · subst e; exact ⟨0, rfl, oneD_at t⟩
    · rw [oneD_no e] at h0; omega
  · rw [cntD_one hg]; unfold oneD; split <;> omega
  · by_cases e : t = g
    · subst e; exact Or.inl hp
    · rw [oneD_no e] at h0; omega
theorem Lab0.take {n g t : Nat} {T C : Nat → Nat → Int} {D : Nat → Int} {pend pend' : Nat → Prop} (h : Lab0 n T C g D pend) (hp : ∀ s, s ≠ t → pend s → pend' s) (ht : t < n) (h0 : 0 ≤ D t) : Lab n T C g D pend' t 0 := by
  refine ⟨h.at0, h.low, h.real, h.hi, fun s hs h1 => ?_, ht, h0⟩
  by_cases e : s = t
  · exact Or.inr (Or.inl ⟨e, fun j hj => by omega⟩)
  · exact (h.rel s hs h1).elim (fun q => Or.inl (hp s e q)) (fun q => Or.inr (Or.inr q))
theorem Lab0.drop {n g : Nat} {T C : Nat → Nat → Int} {D : Nat → Int} {pend pend' : Nat → Prop} (h : Lab0 n T C g D pend) (hp : ∀ s, s < n → 0 ≤ D s → pend s → pend' s) : Lab0 n T C g D pend' :=
  ⟨h.at0, h.low, h.real, h.hi, fun s hs h1 => (h.rel s hs h1).imp (hp s hs h1) id⟩
theorem Lab.skip {n g t i : Nat} {T C : Nat → Nat → Int} {D : Nat → Int} {pend : Nat → Prop} (h : Lab n T C g D pend t i) (hr : Rlx T C D t i) : Lab n T C g D pend t (i + 1) := by
  refine ⟨h.at0, h.low, h.real, h.hi, fun s hs h1 => ?_, h.lt, h.nn⟩
  rcases h.rel s hs h1 with q | ⟨e, q⟩ | q
  · exact Or.inl q
  · refine Or.inr (Or.inl ⟨e, fun j hj => ?_⟩)
    by_cases ej : j = i
    · rw [ej]; exact hr
    · exact q j (by omega)
  · exact Or.inr (Or.inr q)
theorem Lab.done {n g t : Nat} {T C : Nat → Nat → Int} {D : Nat → Int} {pend : Nat → Prop} (h : Lab n T C g D pend t 8) : Lab0 n T C g D pend := by
  refine ⟨h.at0, h.low, h.real, h.hi, fun s hs h1 => ?_⟩
  rcases h.rel s hs h1 with q | ⟨e, q⟩ | q
  · exact Or.inl q
  · subst e; exact Or.inr q
  · exact Or.inr q
theorem Lab0.out {n g : Nat} {T C : Nat → Nat → Int} {D : Nat → Int} {pend : Nat → Prop} (h : Lab0 n T C g D pend) (hp : ∀ s, s < n → 0 ≤ D s → ¬ pend s) : Tab n T C g D :=
  ⟨h.at0, h.low, h.real, fun t i ht hi h0 h1 => ((h.rel t ht h0).resolve_left (hp t ht h0)) i hi h1⟩
theorem Rlx.down {T C : Nat → Nat → Int} {D : Nat → Int} {s j u : Nat} {v : Int} (h : Rlx T C D s j) (hs : s ≠ u) (hv : 0 ≤ v) (hd : D u < 0 ∨ v < D u) : Rlx T C (updD D u v) s j := fun h0 => by
  have h1 := h h0
  rw [updD_far hs]
  by_cases e : (T s j).toNat = u
  · rw [e] at h1 ⊢; rw [updD_at]; omega
  · rw [updD_far e]; exact h1
/-- A step that betters. -/
theorem Lab.put {n g t i u : Nat} {T C : Nat → Nat → Int} {D : Nat → Int} {pend pend' : Nat → Prop} {v : Int} (h : Lab n T C g D pend t i) (hS : Stp n T C) (hi : i < 8) (hu : T t i = (u : Int)) (hv : v = D t + C t i) (hd : D u < 0 ∨ v < D u)
    (hp : ∀ s, s ≠ u → pend s → pend' s) (hq : pend' u) : Lab n T C g (updD D u v) pend' t (i + 1) := by
  have hun : u < n := by have := hS.lt t i h.lt; omega
  have hc := hS.pos t i h.lt (by omega)
  have hc2 := hS.top t i h.lt
  have h0 := h.nn
  have hut : t ≠ u := by
    rintro e
    subst e
    omega
  have hgu : g ≠ u := by
    rintro e
    subst e
    have := h.at0
    omega
  have hv0 : 0 ≤ v := by omega
  refine ⟨by rw [updD_far hgu]; exact h.at0, fun s hs => ?_, fun s hs h1 => ?_, fun s hs => ?_, fun s hs h1 => ?_, h.lt, by rw [updD_far hut]; exact h0⟩
  · by_cases e : s = u
    · rw [e, updD_at]; omega
    · rw [updD_far e]; exact h.low s hs
  · by_cases e : s = u
    · obtain ⟨k, hk⟩ := h.real t h.lt h0
      subst e
      refine ⟨k + 1, t, i, h.lt, hi, hu, ?_⟩
      rw [updD_at, hv, show D t + C t i - C t i = D t by omega]
      exact hk
    · rw [updD_far e] at h1 ⊢
      exact h.real s hs h1
  · rw [cntD_upd hv0 hun]
    have h1 := h.hi t h.lt
    by_cases e : s = u
    · subst e
      rw [updD_at]
      have h2 := h.hi s hs
      split <;> omega
    · rw [updD_far e]
      have h2 := h.hi s hs
      split <;> omega
  · by_cases e : s = u
    · rw [e]; exact Or.inl hq
    · rw [updD_far e] at h1
      rcases h.rel s hs h1 with q | ⟨e', q⟩ | q
      · exact Or.inl (hp s e q)
      · subst e'
        refine Or.inr (Or.inl ⟨rfl, fun j hj => ?_⟩)
        by_cases ej : j = i
        · subst ej
          intro _
          rw [hu]
          simp only [Int.toNat_natCast]
          rw [updD_at, updD_far hut]
          omega
        · exact (q j (by omega)).down e hv0 hd
      · exact Or.inr (Or.inr (fun j hj => (q j hj).down e hv0 hd))
theorem Lab.putBd {n g t i u : Nat} {T C : Nat → Nat → Int} {D : Nat → Int} {pend : Nat → Prop} {v : Int} (h : Lab n T C g D pend t i) (hS : Stp n T C) (hn : n ≤ 16384) (hu : T t i = (u : Int)) (hv : v = D t + C t i) (hd : D u < 0 ∨ v < D u) : u < n ∧ 0 ≤ v ∧ v ≤ 1400000 ∧ potD (updD D u v) n + 1 ≤ potD D n := by
  have hun : u < n := by have := hS.lt t i h.lt; omega
  have hc := hS.pos t i h.lt (by omega)
  have hc2 := hS.top t i h.lt
  have h0 := h.nn
  have hb := h.bd hn h.lt
  exact ⟨hun, by omega, by omega, potD_upd (by omega) (by omega) hd hun⟩
/-- The table at a goal that may be good, or not. -/
def TabG (n : Nat) (T C : Nat → Nat → Int) (g : Nat) (ok : Bool) (D : Nat → Int) : Prop := if ok = true then Tab n T C g D else ∀ t, t < n → D t = -1
theorem TabG.eq {n g : Nat} {T C : Nat → Nat → Int} {ok : Bool} {D D' : Nat → Int} (h : TabG n T C g ok D) (h' : TabG n T C g ok D') {t : Nat} (ht : t < n) : D t = D' t := by
  unfold TabG at h h'
  cases ok
  · rw [if_neg (by decide)] at h h'; rw [h t ht, h' t ht]
  · rw [if_pos rfl] at h h'; exact h.eq h' ht
end Go.Proofs.YthabjihpjdlmoaaDoor
/- Plain words of layer 13: walks mapped, turned round, laid one behind the other. -/
namespace Go.Proofs.YthabjihpjdlmoaaDoor
open Go.RowKit
set_option linter.unusedVariables false
theorem Wk.lt {n : Nat} {T C : Nat → Nat → Int} {g : Nat} (hS : Stp n T C) (hg : g < n) : ∀ {k t : Nat} {d : Int}, Wk n T C g k t d → t < n ∧ 0 ≤ d
  | 0, t, d, ⟨e, e'⟩ => by subst e; omega
  | k + 1, u, d, ⟨t, i, ht, hi, e, hw⟩ => by
    have h1 := hw.lt hS hg
    have h2 := hS.lt t i ht
    have h3 := hS.pos t i ht (by omega)
    omega
theorem Wk.map {n : Nat} {T C T' C' : Nat → Nat → Int} (hm : ∀ t i, t < n → i < 8 → 0 ≤ T t i → ∃ j, j < 8 ∧ T' t j = T t i ∧ C' t j ≤ C t i) {g : Nat} : ∀ {k t : Nat} {d : Int}, Wk n T C g k t d → ∃ d', d' ≤ d ∧ Wk n T' C' g k t d'
  | 0, t, d, h => ⟨d, Int.le_refl _, h⟩
  | k + 1, u, d, ⟨t, i, ht, hi, e, hw⟩ => by
    obtain ⟨d', h1, h2⟩ := hw.map hm
    obtain ⟨j, hj, e1, e2⟩ := hm t i ht hi (by omega)
    exact ⟨d' + C' t j, by omega, t, j, ht, hj, by rw [e1, e], by rw [show d' + C' t j - C' t j = d' by omega]; exact h2⟩
theorem Tab.mono {n g : Nat} {T C T' C' : Nat → Nat → Int} {D D' : Nat → Int} (h : Tab n T C g D) (h' : Tab n T' C' g D') (hm : ∀ t i, t < n → i < 8 → 0 ≤ T t i → ∃ j, j < 8 ∧ T' t j = T t i ∧ C' t j ≤ C t i) {t : Nat} (ht : t < n) (h0 : 0 ≤ D t) : 0 ≤ D' t ∧ D' t ≤ D t := by
  obtain ⟨k, hk⟩ := h.real t ht h0
  obtain ⟨d', h1, h2⟩ := hk.map hm
  have := h'.le k t _ h2
  omega
theorem Wk.front {n : Nat} {T C : Nat → Nat → Int} {u t i : Nat} (ht : t < n) (hi : i < 8) (e : T t i = (u : Int)) : ∀ {k v : Nat} {d : Int}, Wk n T C u k v d → Wk n T C t (k + 1) v (d + C t i)
  | 0, v, d, ⟨e1, e2⟩ => by
    subst e1 e2
    exact ⟨t, i, ht, hi, e, rfl, by omega⟩
  | k + 1, v, d, ⟨s, j, hs, hj, e1, hw⟩ => by
    have := Wk.front ht hi e hw
    exact ⟨s, j, hs, hj, e1, by rw [show d + C t i - C s j = d - C s j + C t i by omega]; exact this⟩
theorem Wk.rev {n : Nat} {T C : Nat → Nat → Int} (hS : Stp n T C) (hm : ∀ t i, t < n → i < 8 → 0 ≤ T t i → ∃ j, j < 8 ∧ T (T t i).toNat j = (t : Int) ∧ C (T t i).toNat j = C t i) {g : Nat} : ∀ {k t : Nat} {d : Int}, Wk n T C g k t d → Wk n T C t k g d
  | 0, t, d, ⟨e1, e2⟩ => ⟨e1.symm, e2⟩
  | k + 1, u, d, ⟨t, i, ht, hi, e, hw⟩ => by
    obtain ⟨j, hj, e1, e2⟩ := hm t i ht hi (by omega)
    have hu : u < n := by have := hS.lt t i ht; omega
    rw [e] at e1 e2
    simp only [Int.toNat_natCast] at e1 e2
    have := Wk.front hu hj e1 (hw.rev hS hm)
    rw [e2, show d - C t i + C t i = d by omega] at this
    exact this
theorem Wk.cat {n : Nat} {T C : Nat → Nat → Int} {g t k : Nat} {d : Int} (h : Wk n T C g k t d) : ∀ {k' u : Nat} {d' : Int}, Wk n T C t k' u d' → Wk n T C g (k + k') u (d + d')
  | 0, u, d', ⟨e1, e2⟩ => by subst e1 e2; rw [show d + 0 = d by omega]; exact h
  | k' + 1, u, d', ⟨s, j, hs, hj, e1, hw⟩ => ⟨s, j, hs, hj, e1, by rw [show d + d' - C s j = d + (d' - C s j) by omega]; exact h.cat hw⟩
theorem Tab.sym {n g t : Nat} {T C : Nat → Nat → Int} {D D' : Nat → Int} (h : Tab n T C g D) (h' : Tab n T C t D') (hS : Stp n T C) (hm : ∀ t i, t < n → i < 8 → 0 ≤ T t i → ∃ j, j < 8 ∧ T (T t i).toNat j = (t : Int) ∧ C (T t i).toNat j = C t i) (hg : g < n) (ht : t < n) : D t = D' g := by
  have a := h.low t ht
  have b := h'.low g hg
  have c : 0 ≤ D t → 0 ≤ D' g ∧ D' g ≤ D t := fun q => by
    obtain ⟨k, hk⟩ := h.real t ht q
    exact h'.le k g _ (hk.rev hS hm)
  have d : 0 ≤ D' g → 0 ≤ D t ∧ D t ≤ D' g := fun q => by
    obtain ⟨k, hk⟩ := h'.real g hg q
    exact h.le k t _ (hk.rev hS hm)
  omega
theorem Tab.tri {n g t u : Nat} {T C : Nat → Nat → Int} {D D' : Nat → Int} (h : Tab n T C g D) (h' : Tab n T C t D') (ht : t < n) (hu : u < n) (h0 : 0 ≤ D t) (h1 : 0 ≤ D' u) : 0 ≤ D u ∧ D u ≤ D t + D' u := by
  obtain ⟨k, hk⟩ := h.real t ht h0
  obtain ⟨k', hk'⟩ := h'.real u hu h1
  exact h.le _ _ _ (hk.cat hk')
/-- Whoever is come to was the goal, or stands at a step's end. -/
theorem Tab.last {n g : Nat} {T C : Nat → Nat → Int} {D : Nat → Int} (h : Tab n T C g D) {t : Nat} (ht : t < n) (h0 : 0 ≤ D t) : t = g ∨ ∃ s i, s < n ∧ i < 8 ∧ T s i = (t : Int) := by
  obtain ⟨k, hk⟩ := h.real t ht h0
  cases k with
  | zero => exact Or.inl hk.1
  | succ k =>
    obtain ⟨s, i, hs, hi, e, _⟩ := hk
    exact Or.inr ⟨s, i, hs, hi, e⟩
/-- One step less. -/
theorem Tab.prev {n g : Nat} {T C : Nat → Nat → Int} {D : Nat → Int} (h : Tab n T C g D) (hS : Stp n T C) (hg : g < n) {t : Nat} (ht : t < n) (h0 : 0 < D t) : ∃ s i, s < n ∧ i < 8 ∧ T s i = (t : Int) ∧ 0 ≤ D s ∧ D s + C s i = D t := by
  obtain ⟨k, hk⟩ := h.real t ht (by omega)
  cases k with
  | zero => have := hk.2; omega
  | succ k =>
    obtain ⟨s, i, hs, hi, e, hw⟩ := hk
    have h1 := h.le k s _ hw
    have h2 := h.rel s i hs hi h1.1 (by omega)
    rw [e] at h2
    simp at h2
    exact ⟨s, i, hs, hi, e, h1.1, by omega⟩
end Go.Proofs.YthabjihpjdlmoaaDoor
