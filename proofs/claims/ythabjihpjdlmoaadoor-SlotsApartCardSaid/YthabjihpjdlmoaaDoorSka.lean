import Derived.WalkKit
import Derived.Below
import Derived.Test.YthabjihpjdlmoaaDoorProg
import Derived.Laws.BitsAllLaws
import Derived.RowKit
import Derived.WalkLawsBesides
import Derived.WalkSpells
import Derived.Outline
import Derived.Deep.QuietTactic
import Derived.BigQuiet
import Derived.Deep.RegionHeld3
import Derived.Deep.RegionWith
import Derived.Maps.AppendAt
import Derived.Lib.SlBytesConst
import Derived.OneCell
import Derived.Laws.Rows
import Derived.Deep.DeepCutAuto
import Derived.Deep.DeepFit
/- Rules by which a walk reads old cells in a later world. -/
namespace Go.Proofs.YthabjihpjdlmoaaDoor
open Go.RowKit
theorem kw_rules {N : Nat} {W X : World} (h : Below N W X) (hN : N ≤ W.heap.size) :
    (∀ b o, b < N → X.cell? ⟨b, o, none⟩ = W.cell? ⟨b, o, none⟩) ∧ (∀ b o, b < N → X.frozen? ⟨b, o, none⟩ = W.frozen? ⟨b, o, none⟩) ∧ (∀ b, b < N → b < X.heap.size) ∧ (∀ b, b < N → ¬ b = X.heap.size) ∧ (∀ b, b < N → ¬ X.heap.size = b) := by
  have hs := h.size
  exact ⟨fun b o hb => h.cell (p := ⟨b, o, none⟩) hb, fun b o hb => h.frozen (p := ⟨b, o, none⟩) hb, fun b hb => by omega, fun b hb => by omega, fun b hb => by omega⟩
theorem kw_step {N : Nat} {W X Y : World} (h : Below N W X) (hN : N ≤ W.heap.size) (hb : Below X.heap.size X Y) : Below N W Y := h.trans (hb.mono (Nat.le_trans hN h.size))
theorem kw_drew {N : Nat} {W X : World} (h : Below N W X) : Below N W X.drew := h.drew
theorem bset {B : Nat} {w X : World} (h : Below B w X) {b : Nat} (off : Nat) (hb : B ≤ b) (v : Value) : Below B w (X.setCell ⟨b, off, none⟩ v) := Below.setCell (p := ⟨b, off, none⟩) h hb v
theorem kw_S {N : Nat} {W X : World} (h : Below N W X) : (∀ b o, b < N → X.cell? ⟨b, o, none⟩ = W.cell? ⟨b, o, none⟩) ∧ Below N W X := ⟨fun b o hb => h.cell (p := ⟨b, o, none⟩) hb, h⟩
theorem kw_size {N : Nat} {W X : World} (h : Below N W X) (hN : N ≤ W.heap.size) : N ≤ X.heap.size := Nat.le_trans hN h.size
end Go.Proofs.YthabjihpjdlmoaaDoor
/- Plain arithmetic for layer 3 (fnv): a byte's step can be told apart. No program in it. -/
namespace Go.Proofs.YthabjihpjdlmoaaDoor.Fn
open Go
/-- One byte's step. -/
def stepS (s b : Int) : Int := IntKind.u64.wrap (bits BinOp.xor IntKind.u64 s b * 1099511628211)
def sumS (s : Int) (l : List Int) : Int := l.foldl stepS s
def U64 (s : Int) : Prop := 0 ≤ s ∧ s ≤ 18446744073709551615
def Byt (b : Int) : Prop := 0 ≤ b ∧ b ≤ 255
theorem wrapu (x : Int) : IntKind.u64.wrap x = x % 18446744073709551616 := by simp [IntKind.wrap, IntKind.bits, IntKind.signed]
theorem step_bd (s b : Int) : U64 (stepS s b) := by unfold stepS U64; rw [wrapu]; omega
theorem xor_eq {s b : Int} (hs : U64 s) (hb : Byt b) : bits BinOp.xor IntKind.u64 s b = ((s.toNat ^^^ b.toNat : Nat) : Int) := by
  unfold U64 at hs; unfold Byt at hb
  exact u64_xor s b (by omega) (by omega) (by omega) (by omega)
theorem xor_lt {s b : Int} (hs : U64 s) (hb : Byt b) : s.toNat ^^^ b.toNat < 18446744073709551616 := by
  unfold U64 at hs; unfold Byt at hb
  exact Nat.xor_lt_two_pow (n := 64) (by omega) (by omega)
/-- The factor is odd: what it has multiplied can be told. -/
theorem unit_mod (z : Int) : (z * 1099511628211 % 18446744073709551616) * 14886173955864302971 % 18446744073709551616 = z % 18446744073709551616 := by
  rw [Int.mul_emod, Int.emod_emod, ← Int.mul_emod, Int.mul_assoc, Int.mul_emod]
  have e : (1099511628211 * 14886173955864302971 : Int) % 18446744073709551616 = 1 := by decide +kernel
  rw [e, Int.mul_one, Int.emod_emod]
theorem prime_inj {x y : Nat} (hx : x < 18446744073709551616) (hy : y < 18446744073709551616) (h : ((x : Int) * 1099511628211) % 18446744073709551616 = ((y : Int) * 1099511628211) % 18446744073709551616) : x = y := by
  have a := unit_mod x
  have b := unit_mod y
  rw [h, b] at a
  clear b h
  omega
theorem step_inj {s t b c : Int} (hs : U64 s) (ht : U64 t) (hb : Byt b) (hc : Byt c) (h : stepS s b = stepS t c) : s.toNat ^^^ b.toNat = t.toNat ^^^ c.toNat := by
  unfold stepS at h
  rw [wrapu, wrapu, xor_eq hs hb, xor_eq ht hc] at h
  exact prime_inj (xor_lt hs hb) (xor_lt ht hc) h
theorem step_inj_s {s t b : Int} (hs : U64 s) (ht : U64 t) (hb : Byt b) (h : stepS s b = stepS t b) : s = t := by
  have e := step_inj hs ht hb hb h
  have e2 := congrArg (· ^^^ b.toNat) e
  simp only [Nat.xor_assoc, Nat.xor_self, Nat.xor_zero] at e2
  unfold U64 at hs ht; omega
theorem step_inj_b {s b c : Int} (hs : U64 s) (hb : Byt b) (hc : Byt c) (h : stepS s b = stepS s c) : b = c := by
  have e := step_inj hs hs hb hc h
  have e2 := congrArg (s.toNat ^^^ ·) e
  simp only [← Nat.xor_assoc, Nat.xor_self, Nat.zero_xor] at e2
  unfold Byt at hb hc; omega
theorem sum_bd {s : Int} (hs : U64 s) (l : List Int) : U64 (sumS s l) := by
  unfold sumS
  induction l generalizing s with
  | nil => exact hs
  | cons b l ih => exact ih (step_bd s b)
theorem sum_inj {s t : Int} (hs : U64 s) (ht : U64 t) {l : List Int} (hl : ∀ b ∈ l, Byt b) (h : sumS s l = sumS t l) : s = t := by
  unfold sumS at h
  induction l generalizing s t with
  | nil => exact h
  | cons b l ih =>
    have := ih (step_bd s b) (step_bd t b) (fun x hx => hl x (List.mem_cons_of_mem _ hx)) h
    exact step_inj_s hs ht (hl b (List.mem_cons_self ..)) this
theorem sum_append (s : Int) (l m : List Int) : sumS s (l ++ m) = sumS (sumS s l) m := by unfold sumS; exact List.foldl_append
theorem sum_snoc (s : Int) (l : List Int) (b : Int) : sumS s (l ++ [b]) = stepS (sumS s l) b := by rw [sum_append]; rfl
theorem sum_take {s : Int} {l : List Int} {k : Nat} (h : k < l.length) : sumS s (l.take (k + 1)) = stepS (sumS s (l.take k)) (l.getD k 0) := by
  rw [List.take_succ_eq_append_getElem h, sum_snoc]
  simp [List.getD, List.getElem?_eq_getElem h]
theorem sum_changed {s : Int} (hs : U64 s) {l : List Int} (hl : ∀ b ∈ l, Byt b) {k : Nat} (hk : k < l.length) {c : Int} (hc : Byt c) (hne : c ≠ l.getD k 0) : sumS s (l.set k c) ≠ sumS s l := by
  intro h
  have e1 : l = l.take k ++ (l.getD k 0 :: l.drop (k + 1)) := by
    have : l.getD k 0 = l[k] := by simp [List.getD, List.getElem?_eq_getElem hk]
    rw [this, List.getElem_cons_drop, List.take_append_drop]
  have e2 : l.set k c = l.take k ++ (c :: l.drop (k + 1)) := List.set_eq_take_append_cons_drop.trans (by rw [if_pos hk])
  have hb : Byt (l.getD k 0) := by
    have : l.getD k 0 = l[k] := by simp [List.getD, List.getElem?_eq_getElem hk]
    rw [this]; exact hl _ (List.getElem_mem hk)
  rw [e2] at h
  have h' : sumS s (l.take k ++ (c :: l.drop (k + 1))) = sumS s (l.take k ++ (l.getD k 0 :: l.drop (k + 1))) := h.trans (congrArg _ e1)
  rw [sum_append, sum_append] at h'
  have h2 : sumS (stepS (sumS s (l.take k)) c) (l.drop (k + 1)) = sumS (stepS (sumS s (l.take k)) (l.getD k 0)) (l.drop (k + 1)) := h'
  have h3 := sum_inj (step_bd _ _) (step_bd _ _) (fun x hx => hl x (List.mem_of_mem_drop hx)) h2
  exact hne (step_inj_b (sum_bd hs _) hc hb h3)
/-- A number brought from 0 below n. -/
def wiS (i n : Int) : Int := i % 18446744073709551616 % n
theorem wi_bd (i : Int) {n : Int} (h : 1 ≤ n) : 0 ≤ wiS i n ∧ wiS i n < n := by
  unfold wiS
  exact ⟨Int.emod_nonneg _ (by omega), Int.emod_lt_of_pos _ (by omega)⟩
theorem xor8 {x d : Int} (hx : Byt x) (hd : 1 ≤ d ∧ d ≤ 255) : Byt (bits BinOp.xor IntKind.u8 x d) ∧ bits BinOp.xor IntKind.u8 x d ≠ x := by
  unfold Byt at hx
  rw [u8_xor x d (by omega) (by omega) (by omega) (by omega)]
  have hl : x.toNat ^^^ d.toNat < 256 := Nat.xor_lt_two_pow (n := 8) (by omega) (by omega)
  refine ⟨by unfold Byt; omega, fun h => ?_⟩
  have e : x.toNat ^^^ d.toNat = x.toNat := by omega
  have e2 := congrArg (x.toNat ^^^ ·) e
  simp only [← Nat.xor_assoc, Nat.xor_self, Nat.zero_xor] at e2
  omega
end Go.Proofs.YthabjihpjdlmoaaDoor.Fn
/- Slices of bytes: what it means that one reads as a list; bytes copied, compared. -/
namespace Go.Proofs.YthabjihpjdlmoaaDoor
open Go.RowKit
set_option linter.unusedVariables false
/-- A fact kept behind a name. -/
structure Hk (p : Prop) : Prop where
  out : p
/-- The n cells that a slice at this address holds, below block B. -/
def Rd (w : World) (B : Nat) (a : Option Addr) (n : Nat) (f : Nat → Value) : Prop :=
  0 < n → ∃ b off, a = some ⟨b, off, none⟩ ∧ b < B ∧ ∀ k, k < n → w.cell? ⟨b, off + k, none⟩ = some (f k)
theorem Rd.below {w w' : World} {B B' n : Nat} {a : Option Addr} {f : Nat → Value} (h : Rd w B a n f) (hb : Below B' w w') (hB : B ≤ B') : Rd w' B a n f := fun hn => by
  obtain ⟨b, off, e, hlt, hc⟩ := h hn
  exact ⟨b, off, e, hlt, fun k hk => (hb.cell (p := ⟨b, off + k, none⟩) (Nat.lt_of_lt_of_le hlt hB)).trans (hc k hk)⟩
theorem Rd.grown {w w' : World} {B n : Nat} {a : Option Addr} {f : Nat → Value} {row : Option Nat} (h : Rd w B a n f) (hg : w.grownBy w' row) (hB : B ≤ w.heap.size) (hr : ∀ g, row = some g → B ≤ g) : Rd w' B a n f := fun hn => by
  obtain ⟨b, off, e, hlt, hc⟩ := h hn
  exact ⟨b, off, e, hlt, fun k hk => (World.cell?_of_block (hg.block b (by omega) (fun e => by have := hr _ e.symm; omega))).trans (hc k hk)⟩
theorem Rd.mono {w : World} {B B' n : Nat} {a : Option Addr} {f : Nat → Value} (h : Rd w B a n f) (hB : B ≤ B') : Rd w B' a n f := fun hn => by
  obtain ⟨b, off, e, hlt, hc⟩ := h hn
  exact ⟨b, off, e, by omega, hc⟩
def u8 (x : Int) : Value := .int .u8 x
/-- The slice reads as these bytes. -/
structure By (w : World) (B : Nat) (a : Option Addr) (n : Nat) (xs : List Int) : Prop where
  len : xs.length = n
  byt : ∀ b ∈ xs, Fn.Byt b
  rd : Rd w B a n (fun k => .int .u8 (xs.getD k 0))
theorem getD_mem {xs : List Int} {k : Nat} (h : k < xs.length) : xs.getD k 0 ∈ xs := by
  have : xs.getD k 0 = xs[k] := by simp [List.getD, List.getElem?_eq_getElem h]
  rw [this]; exact List.getElem_mem h
section
variable {w w' : World} {B B' n : Nat} {a : Option Addr} {xs : List Int}
theorem By.below (h : By w B a n xs) (hb : Below B' w w') (hB : B ≤ B') : By w' B a n xs := ⟨h.len, h.byt, h.rd.below hb hB⟩
theorem By.mono (h : By w B a n xs) (hB : B ≤ B') : By w B' a n xs := ⟨h.len, h.byt, h.rd.mono hB⟩
theorem By.grown {row : Option Nat} (h : By w B a n xs) (hg : w.grownBy w' row) (hB : B ≤ w.heap.size) (hr : ∀ g, row = some g → B ≤ g) : By w' B a n xs := ⟨h.len, h.byt, h.rd.grown hg hB hr⟩
theorem By.drew (h : By w B a n xs) : By w.drew B a n xs := ⟨h.len, h.byt, h.rd⟩
theorem By.drewN (h : By w B a n xs) (k : Nat) : By (w.drewN k) B a n xs := ⟨h.len, h.byt, h.rd⟩
theorem By.alloc (h : By w B a n xs) (hB : B ≤ w.heap.size) (o : Obj) : By (w.alloc o) B a n xs := h.below ((Below.refl _ _).alloc (Nat.le_refl _) o) hB
theorem By.bd (h : By w B a n xs) {k : Nat} (hk : k < n) : 0 ≤ xs.getD k 0 ∧ xs.getD k 0 ≤ 255 := h.byt _ (getD_mem (by rw [h.len]; exact hk))
theorem By.nil (w : World) (B : Nat) (a : Option Addr) : By w B a 0 [] := ⟨rfl, by simp, fun h => absurd h (by omega)⟩
theorem By.at_ (h : By w B a n xs) (hn : 0 < n) : ∃ b off, a = some ⟨b, off, none⟩ ∧ b < B ∧ ∀ k, k < n → w.cell? ⟨b, off + k, none⟩ = some (.int .u8 (xs.getD k 0)) := h.rd hn
end
theorem below_drewN {B : Nat} {a w : World} (h : Below B a w) (n : Nat) : Below B a (w.drewN n) := ⟨h.os, h.tape, h.output, h.size, h.block⟩
theorem By.head {w : World} {B n k : Nat} {a : Option Addr} {xs : List Int} (h : By w B a n xs) (hk : k ≤ n) : By w B a k (xs.take k) :=
  ⟨by have := h.len; simp; omega, fun b hb => h.byt b (List.mem_of_mem_take hb), fun hp => by
    obtain ⟨b, off, e, hb, hc⟩ := h.rd (by omega)
    refine ⟨b, off, e, hb, fun i hi => ?_⟩
    rw [hc i (by omega)]
    simp [List.getD, hi]⟩
theorem By.tail {w : World} {B n k b off : Nat} {xs : List Int} (h : By w B (some ⟨b, off, none⟩) n xs) (hk : k ≤ n) : By w B (some ⟨b, off + k, none⟩) (n - k) (xs.drop k) :=
  ⟨by have := h.len; simp; omega, fun b hb => h.byt b (List.mem_of_mem_drop hb), fun hp => by
    obtain ⟨b', off', e, hb, hc⟩ := h.rd (by omega)
    simp only [Option.some.injEq, Addr.mk.injEq] at e
    obtain ⟨rfl, rfl, _⟩ := e
    refine ⟨b, off + k, rfl, hb, fun i hi => ?_⟩
    rw [Nat.add_assoc, hc (k + i) (by omega)]
    simp [List.getD]⟩
/-- Bytes that were written out. -/
theorem By.lit (w : World) (xs : List Int) (t : TypeId) (fr : Nat × Nat) (B n : Nat) (hl : xs.length = n) (hx : ∀ b ∈ xs, Fn.Byt b) (hB : w.heap.size < B) : By (w.alloc (.cells (xs.map (Value.int .u8)).toArray t fr)) B (some ⟨w.heap.size, 0, none⟩) n xs := by
  refine ⟨hl, hx, fun _ => ⟨_, _, rfl, hB, fun k hk => ?_⟩⟩
  rw [Nat.zero_add, World.cell?_alloc_mark]
  simp [List.getD, List.getElem?_eq_getElem (show k < xs.length by omega)]
theorem ri {k : IntKind} {a b : Int} (h : a = b) : Ending.returned (.int k a) = .returned (.int k b) := by rw [h]
/-- A value that owns these bytes. -/
def OwnB (w : World) (base : Nat) (v : Value) (n : Nat) (xs : List Int) : Prop := xs.length = n ∧ (∀ b ∈ xs, Fn.Byt b) ∧ w.ownsRow base 5 1 v n (xs.map (Value.int .u8))
theorem OwnB.lt {w : World} {base n : Nat} {v : Value} {xs : List Int} (h : OwnB w base v n xs) : ∀ k, v.ownBlock = some k → base ≤ k ∧ k < w.heap.size := h.2.2.lt
theorem OwnB.by_ {w : World} {base n : Nat} {v : Value} {xs : List Int} (h : OwnB w base v n xs) : ∃ a c, v = .slice a n c ∧ n ≤ c ∧ By w w.heap.size a n xs ∧ (∀ b off, a = some ⟨b, off, none⟩ → base ≤ b ∧ off = 0 ∧ w.frozen? ⟨b, 0, none⟩ = false) := by
  obtain ⟨h1, h2, h3⟩ := h
  have h3' := h3
  rcases h3.2 with ⟨rfl, rfl⟩ | ⟨g, cap, cur, rfl, hg, hh, hc, hm, hs, ht⟩
  · exact ⟨none, 0, rfl, by omega, ⟨h1, h2, fun h => absurd h (by omega)⟩, fun b off h => by cases h⟩
  · refine ⟨_, _, rfl, hc, ⟨h1, h2, fun hn => ⟨g, 0, rfl, lt_of_block hh, fun k hk => ?_⟩⟩, fun b off e => ?_⟩
    · have := h3'.cellAt k (by omega)
      rw [Nat.zero_add, this]
      simp [List.getElem?_map, List.getD, List.getElem?_eq_getElem (show k < xs.length by omega)]
    · simp only [Option.some.injEq, Addr.mk.injEq] at e
      obtain ⟨rfl, rfl, _⟩ := e
      exact ⟨hg, rfl, h3'.frozenAt 0⟩
theorem OwnB.below {w w' : World} {base n : Nat} {v : Value} {xs : List Int} (h : OwnB w base v n xs) (hb : Below w.heap.size w w') : OwnB w' base v n xs := by
  refine ⟨h.1, h.2.1, h.2.2.kept (row := none) ⟨hb.os, hb.tape, hb.output, hb.size, fun i hi _ => hb.block i hi⟩ ?_⟩
  cases h' : v.ownBlock
  · exact .inl rfl
  · exact .inr (by simp)
theorem OwnB.weak {w : World} {base base' n : Nat} {v : Value} {xs : List Int} (h : OwnB w base v n xs) (hb : base' ≤ base) : OwnB w base' v n xs := by
  refine ⟨h.1, h.2.1, h.2.2.1, ?_⟩
  rcases h.2.2.2 with e | ⟨g, cap, cur, e1, hg, e2⟩
  · exact .inl e
  · exact .inr ⟨g, cap, cur, e1, by omega, e2⟩
theorem OwnB.set_ {w : World} {base n c g : Nat} {xs : List Int} (h : OwnB w base (.slice (some ⟨g, 0, none⟩) n c) n xs) (j : Nat) {y : Int} (hy : Fn.Byt y) : OwnB (w.setCell ⟨g, j, none⟩ (.int .u8 y)) base (.slice (some ⟨g, 0, none⟩) n c) n (xs.set j y) := by
  refine ⟨by rw [List.length_set]; exact h.1, fun b hb => ?_, ?_⟩
  · rcases List.mem_or_eq_of_mem_set hb with h1 | rfl
    · exact h.2.1 b h1
    · exact hy
  · have := (h.2.2.stored j (.int .u8 y)).1
    rwa [List.map_set]
theorem OwnB.drewN {w : World} {base n : Nat} {v : Value} {xs : List Int} (h : OwnB w base v n xs) (k : Nat) : OwnB (w.drewN k) base v n xs := h
theorem OwnB.drew {w : World} {base n : Nat} {v : Value} {xs : List Int} (h : OwnB w base v n xs) : OwnB w.drew base v n xs := h
theorem info_u8 : (Tryd.prog.info? 5).map (fun i => (i.zero, i.size, i.bytes)) = some (some (.int .u8 0), 1, 1) := by kernel_rfl
theorem take_map (xs : List Int) (k : Nat) (h : k < xs.length) : List.take k (List.map (Value.int .u8) xs) ++ [.int .u8 (xs[k]?.getD 0)] = (xs.take (k + 1)).map (Value.int .u8) := by
  rw [List.take_succ_eq_append_getElem h, List.map_append, List.map_take]
  simp [List.getElem?_eq_getElem h]
theorem one_new (w : World) (v : Value) (t : TypeId) : ∀ (j : Nat) (u : Value), [v][j]? = some u → (w.alloc (.cells #[v] t)).cell? ((⟨w.heap.size, 0, none⟩ : Addr).add j) = some u := by
  intro j u hj
  match j, hj with
  | 0, hj => simp at hj; subst hj; simp [Addr.add]
/-- Bytes copied lie in new memory. -/
theorem copy_any (a : Option Addr) (n c : Nat) (xs : List Int) (w : World) (h : By w w.heap.size a n xs) (hn : n ≤ 1099511627776) :
    Calls Tryd.prog 56 #[.slice a n c] w fun e w' => ∃ v, e = .returned v ∧ OwnB w' w.heap.size v n xs ∧ Below w.heap.size w w' := by
  obtain ⟨i0, hi, hz0, hz1, hz2⟩ := info_parts info_u8
  have H := Hk.mk h
  clear h
  go_enter Tryd.func56, Tryd.ntmps56
  go_wp2
  go_loopw [3, 4] (fun m i wr => ∃ k : Nat, k ≤ n ∧ i = .int .i64 k ∧ Hk (wr.ownsRow w.heap.size 5 1 m k ((xs.take k).map (Value.int .u8))) ∧ Hk (Below w.heap.size w wr)) (fun _ i _ => n - (intOf i).toNat)
  case atStart => exact ⟨0, Nat.zero_le _, rfl, ⟨World.ownsRow_nil _ _ _ _⟩, ⟨Below.refl _ _⟩⟩
  case round =>
    obtain ⟨k, hk, rfl, HO, HB⟩ := hrel
    by_cases hlt : k < n
    · obtain ⟨b, off, rfl, hbl, hc⟩ := H.out.at_ (by omega)
      have hcx := (HB.out.cell (p := ⟨b, off + k, none⟩) hbl).trans (hc k hlt)
      have hsz := HB.out.size
      have hown := HO.out
      clear hc
      go_wp2_with (at_builtin; refine wpList_append_own _ rfl _ _ 22 rfl w.heap.size 5 i0 (.int .u8 0) 1 1 Tryd.underlying22 hi hz0 hz1 hz2 rfl (by decide) _ _ _ rfl (hown.alloc _) ⟨wr.heap.size, 0, none⟩ 1 1 [.int .u8 (xs.getD k 0)] rfl rfl ?c1 ?c2 ?c3 ?c4 ?c5 ?_)
      case c1 =>
        intro j u hj
        match j, hj with
        | 0, hj => simp at hj; subst hj; simp [Addr.add]
      case c2 => intro u hu; simp at hu; subst hu; rfl
      case c3 => unfold maxLen; omega
      case c4 => omega
      case c5 => simp; omega
      · intro v' w1 hown' hgrow _
        rw [take_map xs k (by rw [H.out.len]; exact hlt)] at hown'
        have HO2 := Hk.mk hown'
        have HB2 := Hk.mk ((HB.out.alloc hsz (.cells #[.int .u8 (xs.getD k 0)] 5)).grown hgrow (by simp; omega) (fun g hg => (hown.lt g hg).1))
        clear hown' hgrow hown HO HB hcx
        go_wp2
        go_roundw
        case rel => exact ⟨k + 1, by omega, by go_num, HO2, HB2⟩
        case measure => simp [intOf]; omega
    · have hkn : k = n := by omega
      subst hkn
      go_wp2
      go_ret
      exact ⟨_, rfl, ⟨H.out.len, H.out.byt, by have := HO.out; rwa [List.take_of_length_le (by rw [H.out.len]; omega)] at this⟩, HB.out⟩
theorem eq_of_getD {xs ys : List Int} (hl : xs.length = ys.length) (h : ∀ k, k < xs.length → xs.getD k 0 = ys.getD k 0) : xs = ys := by
  refine List.ext_getElem hl fun k h1 h2 => ?_
  have := h k h1
  simpa [List.getD, List.getElem?_eq_getElem h1, List.getElem?_eq_getElem h2] using this
/-- Two slices of bytes compared, where they are known to be the same or not. -/
theorem eqb_yes (a a' : Option Addr) (n c c' : Nat) (xs : List Int) (w : World) (h : By w w.heap.size a n xs) (h' : By w w.heap.size a' n xs) (hn : n ≤ 1099511627776) :
    Calls Tryd.prog 58 #[.slice a n c, .slice a' n c'] w fun e w' => e = .returned (.bool true) ∧ ∃ m, w' = w.drewN m := by
  have H := Hk.mk h
  have H' := Hk.mk h'
  clear h h'
  go_enter Tryd.func58, Tryd.ntmps58
  go_wp2
  go_loopw [5] (fun i wr => ∃ k : Nat, k ≤ n ∧ i = .int .i64 k ∧ Hk (∃ m, wr = w.drewN m)) (fun i _ => n - (intOf i).toNat)
  case atStart => exact ⟨0, Nat.zero_le _, rfl, ⟨0, rfl⟩⟩
  case round =>
    obtain ⟨k, hk, rfl, HB⟩ := hrel
    by_cases hlt : k < n
    · obtain ⟨b, off, rfl, hbl, hc⟩ := H.out.at_ (by omega)
      obtain ⟨b', off', rfl, hbl', hc'⟩ := H'.out.at_ (by omega)
      have hcx : wr.cell? ⟨b, off + k, none⟩ = some (.int .u8 (xs.getD k 0)) := by obtain ⟨m, rfl⟩ := HB.out; exact hc k hlt
      have hcy : wr.cell? ⟨b', off' + k, none⟩ = some (.int .u8 (xs.getD k 0)) := by obtain ⟨m, rfl⟩ := HB.out; exact hc' k hlt
      clear hc hc'
      generalize xs.getD k 0 = x at *
      have i1 : (0 : Int) ≤ (k : Int) := by omega
      have i2 : (k : Int) < (n : Int) := by omega
      go_wp2
      go_quiet (fail)
      go_wp2
      go_roundw
      case rel => exact ⟨k + 1, by omega, by go_num, ⟨by obtain ⟨m, rfl⟩ := HB.out; exact ⟨_, by rw [World.drewN_drewN]⟩⟩⟩
      case measure => simp [intOf]; omega
    · have hkn : k = n := by omega
      subst hkn
      go_wp2
      go_ret
      exact ⟨rfl, HB.out⟩
end Go.Proofs.YthabjihpjdlmoaaDoor
/- Regions whose orders meet: states are merged; blocks that the region itself makes are known whole. -/
namespace Go.Proofs.YthabjihpjdlmoaaDoor
open Go.RowKit
theorem reg_merge {p q : Prop} (f : Hk p → q) (x : p) : q := f ⟨x⟩
theorem reg_cast {P : Program} {md : Region.Mode} {ops : Array Oper} {Q : Exit → Act → World → Prop} {S : World → Prop} {n : Nat} {l l' : Array Bool} {a : Act} {w : World} (h : l = l') (k : wpAnyH P md ops Q S n l' a w) : wpAnyH P md ops Q S n l a w := h ▸ k
/-- The block holds just these cells, and may be written. -/
structure Bk (w : World) (P : Nat) (cs : Array Value) : Prop where
  bl : ∃ T, w.heap[P]? = some (.cells cs T (0, 0))
theorem Bk.lt {w : World} {P : Nat} {cs : Array Value} (h : Bk w P cs) : P < w.heap.size := by
  obtain ⟨T, h⟩ := h.bl; exact lt_of_block h
theorem Bk.c {w : World} {P : Nat} {cs : Array Value} (h : Bk w P cs) (i : Nat) : w.cell? ⟨P, i, none⟩ = cs[i]? := by
  obtain ⟨T, h⟩ := h.bl; simp [World.cell?, h]
theorem Bk.f {w : World} {P : Nat} {cs : Array Value} (h : Bk w P cs) (i : Nat) : w.frozen? ⟨P, i, none⟩ = false := by
  obtain ⟨T, h⟩ := h.bl; simp [World.frozen?, h]
theorem Bk.new (w : World) (cs : Array Value) (T : TypeId) : Bk (w.alloc (.cells cs T)) w.heap.size cs := ⟨T, heap_alloc_new w _⟩
theorem Bk.al {w : World} {P : Nat} {cs : Array Value} (h : Bk w P cs) (o : Obj) : Bk (w.alloc o) P cs := by
  have hlt := h.lt
  obtain ⟨T, h⟩ := h.bl; exact ⟨T, by rw [Below.heap_alloc w o P hlt]; exact h⟩
theorem Bk.below {w w' : World} {P : Nat} {cs : Array Value} (h : Bk w P cs) (hb : Below w.heap.size w w') : Bk w' P cs := by
  have hlt := h.lt
  obtain ⟨T, h⟩ := h.bl; exact ⟨T, by rw [hb.block P hlt]; exact h⟩
theorem Bk.drew {w : World} {P : Nat} {cs : Array Value} (h : Bk w P cs) : Bk w.drew P cs := ⟨h.bl⟩
theorem Bk.drewN {w : World} {P : Nat} {cs : Array Value} (h : Bk w P cs) (n : Nat) : Bk (w.drewN n) P cs := ⟨h.bl⟩
theorem Bk.oth {w : World} {P Q : Nat} {cs : Array Value} (h : Bk w P cs) (hn : ¬ P = Q) (i : Nat) (v : Value) : Bk (w.setCell ⟨Q, i, none⟩ v) P cs := by
  obtain ⟨T, h⟩ := h.bl; exact ⟨T, by rw [Below.heap_setCell _ _ _ _ (by simpa using hn)]; exact h⟩
theorem Bk.set {w : World} {P : Nat} {cs : Array Value} (h : Bk w P cs) (i : Nat) (v : Value) : Bk (w.setCell ⟨P, i, none⟩ v) P (cs.setIfInBounds i v) := by
  have hlt := h.lt
  obtain ⟨T, h⟩ := h.bl
  refine ⟨T, ?_⟩
  have h' : w.heap[P] = .cells cs T (0, 0) := by simpa [Array.getElem?_eq_getElem hlt] using h
  show (w.heap.modify P _)[P]? = _
  rw [Array.getElem?_eq_getElem (by simpa using hlt), Array.getElem_modify_self, h']
  rfl
theorem Bk.ne {w : World} {P : Nat} {cs : Array Value} (h : Bk w P cs) : ¬ P = w.heap.size := by have := h.lt; omega
theorem Bk.ne' {w : World} {P : Nat} {cs : Array Value} (h : Bk w P cs) : ¬ w.heap.size = P := by have := h.lt; omega
theorem kw_al {N : Nat} {W X : World} (h : Below N W X) (hN : N ≤ W.heap.size) (o : Obj) : Below N W (X.alloc o) := h.alloc (Nat.le_trans hN h.size) o
theorem kw_le {N : Nat} {W X : World} (h : Below N W X) (hN : N ≤ W.heap.size) : N ≤ X.heap.size := Nat.le_trans hN h.size
theorem kw_s {N : Nat} {W X : World} (h : Below N W X) : ∀ b o, b < N → X.cell? ⟨b, o, none⟩ = W.cell? ⟨b, o, none⟩ := fun b o hb => h.cell (p := ⟨b, o, none⟩) hb
end Go.Proofs.YthabjihpjdlmoaaDoor
/- Plain words of layer 20: the places about a goal, ring by ring. -/
namespace Go.Proofs.YthabjihpjdlmoaaDoor
open Go.RowKit
set_option linter.unusedVariables false
set_option linter.unusedSimpArgs false
/-- Is t on the ring d about g, its column and row by multiples of gap? -/
def slX (gap d : Int) (x y a b : Int) : Bool := decide (max (max (x - a) (-(x - a))) (max (y - b) (-(y - b))) = d ∧ (x - a) % gap = 0 ∧ (y - b) % gap = 0)
def slP (W : Int) (g : Nat) (gap d : Int) (t : Nat) : Bool := slX gap d ((t : Int) % W) ((t : Int) / W) ((g : Int) % W) ((g : Int) / W)
def ringL (W : Int) (g n : Nat) (gap d : Int) : List Nat := (List.range n).filter (slP W g gap d)
def slF (W : Int) (g n : Nat) (gd : Nat → Bool) (gap d : Int) : List Nat := (ringL W g n gap d).filter gd
/-- All of the first f rings. -/
def slL (W : Int) (g n : Nat) (gd : Nat → Bool) (gap : Int) : Nat → List Nat
  | 0 => []
  | f + 1 => slL W g n gd gap f ++ slF W g n gd gap f
theorem filter_range_step {n : Nat} {p q : Nat → Bool} {k : Nat} (hk : k < n) (h1 : ∀ t, t < n → q t = (p t || decide (t = k))) (h2 : ∀ t, t < n → p t = true → t < k) : (List.range n).filter q = (List.range n).filter p ++ [k] := by
  obtain ⟨m, rfl⟩ : ∃ m, n = k + 1 + m := ⟨n - (k + 1), by omega⟩
  rw [List.range_add, List.range_succ]
  simp only [List.filter_append]
  have e1 : (List.range k).filter q = (List.range k).filter p := List.filter_congr fun t ht => by
    have := List.mem_range.1 ht
    rw [h1 t (by omega)]
    have : decide (t = k) = false := decide_eq_false (by omega)
    rw [this, Bool.or_false]
  have e2 : (List.map (fun x => k + 1 + x) (List.range m)).filter q = [] := by
    rw [List.filter_eq_nil_iff]
    intro t ht
    obtain ⟨j, hj, rfl⟩ := List.mem_map.1 ht
    have hj := List.mem_range.1 hj
    rw [h1 _ (by omega)]
    intro hh
    rw [Bool.or_eq_true] at hh
    rcases hh with hh | hh
    · have := h2 _ (by omega) hh; omega
    · have := of_decide_eq_true hh; omega
  have e3 : (List.map (fun x => k + 1 + x) (List.range m)).filter p = [] := by
    rw [List.filter_eq_nil_iff]
    intro t ht
    obtain ⟨j, hj, rfl⟩ := List.mem_map.1 ht
    have hj := List.mem_range.1 hj
    intro hh
    have := h2 _ (by omega) hh
    omega
  have e4 : [k].filter q = [k] := by
    rw [List.filter_cons_of_pos]
    · rfl
    · rw [h1 k (by omega)]; simp
  have e5 : [k].filter p = [] := by
    rw [List.filter_cons_of_neg]
    · rfl
    · intro hh
      have := h2 k (by omega) hh
      omega
  rw [e1, e2, e3, e4, e5]
  simp
theorem filter_range_same {n : Nat} {p q : Nat → Bool} (h : ∀ t, t < n → q t = p t) : (List.range n).filter q = (List.range n).filter p :=
  List.filter_congr fun t ht => h t (List.mem_range.1 ht)
/-- Before a row, and in it before a column. -/
def befP (W : Int) (g : Nat) (gap d row col : Int) (t : Nat) : Bool := slP W g gap d t && decide ((t : Int) / W < row ∨ ((t : Int) / W = row ∧ (t : Int) % W < col))
def befL (W : Int) (g n : Nat) (gap d row col : Int) : List Nat := (List.range n).filter (befP W g gap d row col)
structure SlOk (W H : Int) (n g : Nat) (gap d : Int) : Prop where
  w1 : 1 ≤ W
  w2 : W ≤ 128
  h1 : 1 ≤ H
  h2 : H ≤ 128
  nn : (n : Int) = W * H
  gn : g < n
  gp : gap = 1 ∨ gap = 3 ∨ gap = 5 ∨ gap = 7
  d0 : 0 ≤ d
  d1 : d % gap = 0
  d2 : d ≤ 300
section
variable {W H : Int} {n g : Nat} {gap d row col nx : Int}
theorem SlOk.xy (h : SlOk W H n g gap d) {t : Nat} (ht : t < n) : 0 ≤ (t : Int) % W ∧ (t : Int) % W < W ∧ 0 ≤ (t : Int) / W ∧ (t : Int) / W < H ∧ (t : Int) % W + W * ((t : Int) / W) = t := by
  have := h.w1
  have := h.nn
  exact ⟨Int.emod_nonneg _ (by omega), Int.emod_lt_of_pos _ (by omega), Int.ediv_nonneg (by omega) (by omega), Int.ediv_lt_of_lt_mul (by omega) (by rw [Int.mul_comm]; omega), Int.emod_add_mul_ediv _ _⟩
theorem slX_iff (x y a b : Int) : slX gap d x y a b = true ↔ max (max (x - a) (-(x - a))) (max (y - b) (-(y - b))) = d ∧ (x - a) % gap = 0 ∧ (y - b) % gap = 0 := by unfold slX; rw [decide_eq_true_iff]
/-- Nothing lies before the first row. -/
theorem bef_start (h : SlOk W H n g gap d) : befL W g n gap d ((g : Int) / W - d) ((g : Int) % W - d) = [] := by
  unfold befL
  rw [List.filter_eq_nil_iff]
  intro t ht hh
  have ht := List.mem_range.1 ht
  unfold befP at hh
  rw [Bool.and_eq_true] at hh
  obtain ⟨h1, h2⟩ := hh
  have h2 := of_decide_eq_true h2
  have h1 := (slX_iff _ _ _ _).1 h1
  omega
/-- A row's end is the next one's beginning. -/
theorem bef_row (h : SlOk W H n g gap d) {c c' : Int} (hr : (row - (g : Int) / W) % gap = 0) (hc : (g : Int) % W + d < c) (hc' : c' = (g : Int) % W - d) : befL W g n gap d (row + gap) c' = befL W g n gap d row c := by
  unfold befL
  refine filter_range_same fun t ht => ?_
  unfold befP
  by_cases hs : slP W g gap d t = true
  · rw [hs]
    have h1 := (slX_iff _ _ _ _).1 hs
    obtain ⟨a, b, e⟩ := h1
    congr 1
    have hd := h.d1
    have : ((t : Int) / W < row + gap ∨ (t : Int) / W = row + gap ∧ (t : Int) % W < c') ↔ ((t : Int) / W < row ∨ (t : Int) / W = row ∧ (t : Int) % W < c) := by
      rcases h.gp with q | q | q | q <;> subst q <;> omega
    exact decide_eq_decide.2 this
  · rw [Bool.not_eq_true] at hs
    rw [hs]
    rfl
/-- All is before a row behind the last one. -/
theorem bef_end (h : SlOk W H n g gap d) (hr : (g : Int) / W + d < row) : befL W g n gap d row col = ringL W g n gap d := by
  unfold befL ringL
  refine filter_range_same fun t ht => ?_
  unfold befP
  by_cases hs : slP W g gap d t = true
  · rw [hs]
    have h1 := (slX_iff _ _ _ _).1 hs
    have : decide ((t : Int) / W < row ∨ ((t : Int) / W = row ∧ (t : Int) % W < col)) = true := decide_eq_true (by omega)
    rw [this]
    rfl
  · rw [Bool.not_eq_true] at hs
    rw [hs]
    rfl
/-- What is known of a place in the loops. -/
structure SlAt (gx gy gap d row col nx : Int) : Prop where
  r0 : gy - d ≤ row
  r1 : row ≤ gy + d
  rm : (row - gy) % gap = 0
  c0 : gx - d ≤ col
  c1 : col ≤ gx + d
  cm : (col - gx) % gap = 0
  nx : ((row = gy - d ∨ row = gy + d) ∧ nx = gap) ∨ (gy - d < row ∧ row < gy + d ∧ nx = 2 * d ∧ (col = gx - d ∨ col = gx + d))
theorem SlAt.on (q : SlAt ((g : Int) % W) ((g : Int) / W) gap d row col nx) : slX gap d col row ((g : Int) % W) ((g : Int) / W) = true := by
  rw [slX_iff]
  obtain ⟨a, b, c, d, e, f, i⟩ := q
  exact ⟨by omega, f, c⟩
theorem bef_in (h : SlOk W H n g gap d) (q : SlAt ((g : Int) % W) ((g : Int) / W) gap d row col nx) (k : Nat) (hk : (k : Int) = col + W * row) (x0 : 0 ≤ col) (x1 : col < W) (y0 : 0 ≤ row) (y1 : row < H) : k < n ∧ befL W g n gap d row (col + nx) = befL W g n gap d row col ++ [k] := by
  have w1 := h.w1
  have hn := h.nn
  have hkn : k < n := by
    have q : W * (row + 1) ≤ W * H := Int.mul_le_mul_of_nonneg_left (by omega) (by omega)
    rw [Int.mul_add] at q
    omega
  have kx : (k : Int) % W = col := by rw [hk, Int.add_mul_emod_self_left, Int.emod_eq_of_lt x0 x1]
  have ky : (k : Int) / W = row := by rw [hk, Int.add_mul_ediv_left _ _ (by omega), Int.ediv_eq_zero_of_lt x0 x1]; omega
  refine ⟨hkn, ?_⟩
  have hon := q.on
  unfold befL
  refine filter_range_step hkn (fun t ht => ?_) (fun t ht hp => ?_)
  · obtain ⟨t0, t1, t2, t3, te⟩ := h.xy ht
    by_cases e : t = k
    · subst e
      unfold befP slP
      rw [kx, ky, hon]
      have hd := h.d0
      have hg := h.gp
      have hnx : 0 < nx := by have := q.nx; omega
      have : decide (row < row ∨ row = row ∧ col < col + nx) = true := decide_eq_true (by omega)
      rw [this]
      simp
    · have e' : decide (t = k) = false := decide_eq_false e
      rw [e', Bool.or_false]
      unfold befP
      by_cases hs : slP W g gap d t = true
      · rw [hs]
        obtain ⟨s1, s2, s3⟩ := (slX_iff _ _ _ _).1 hs
        have hne : ¬ ((t : Int) / W = row ∧ (t : Int) % W = col) := by
          rintro ⟨e1, e2⟩
          rw [e1, e2] at te
          omega
        congr 1
        have hd0 := h.d0
        have hd1 := h.d1
        obtain ⟨a, b, c, d', e', f, i⟩ := q
        refine decide_eq_decide.2 ?_
        generalize (t : Int) / W = ty at *
        generalize (t : Int) % W = tx at *
        generalize (g : Int) / W = gy at *
        generalize (g : Int) % W = gx at *
        rcases h.gp with q | q | q | q <;> subst q <;> omega
      · rw [Bool.not_eq_true] at hs
        rw [hs]
        rfl
  · obtain ⟨t0, t1, t2, t3, te⟩ := h.xy ht
    unfold befP at hp
    rw [Bool.and_eq_true] at hp
    have hp := of_decide_eq_true hp.2
    rcases hp with hp | ⟨hp, hp2⟩
    · have q : W * ((t : Int) / W + 1) ≤ W * row := Int.mul_le_mul_of_nonneg_left (by omega) (by omega)
      rw [Int.mul_add] at q
      omega
    · rw [hp] at te
      omega
theorem bef_out (h : SlOk W H n g gap d) (q : SlAt ((g : Int) % W) ((g : Int) / W) gap d row col nx) (ho : ¬ (0 ≤ col ∧ col < W ∧ 0 ≤ row ∧ row < H)) : befL W g n gap d row (col + nx) = befL W g n gap d row col := by
  unfold befL
  refine filter_range_same fun t ht => ?_
  obtain ⟨t0, t1, t2, t3, te⟩ := h.xy ht
  unfold befP
  by_cases hs : slP W g gap d t = true
  · rw [hs]
    obtain ⟨s1, s2, s3⟩ := (slX_iff _ _ _ _).1 hs
    congr 1
    have hd0 := h.d0
    have hd1 := h.d1
    obtain ⟨a, b, c, d', e', f, i⟩ := q
    refine decide_eq_decide.2 ?_
    generalize (t : Int) / W = ty at *
    generalize (t : Int) % W = tx at *
    generalize (g : Int) / W = gy at *
    generalize (g : Int) % W = gx at *
    rcases h.gp with q | q | q | q <;> subst q <;> omega
  · rw [Bool.not_eq_true] at hs
    rw [hs]
    rfl
/-- No ring that is no multiple of the gap has a place. -/
theorem ring_none (h : gap = 1 ∨ gap = 3 ∨ gap = 5 ∨ gap = 7) {f : Int} (hf : f % gap ≠ 0) : ringL W g n gap f = [] := by
  unfold ringL
  rw [List.filter_eq_nil_iff]
  intro t ht hh
  obtain ⟨s1, s2, s3⟩ := (slX_iff _ _ _ _).1 hh
  generalize (t : Int) / W = ty at *
  generalize (t : Int) % W = tx at *
  generalize (g : Int) / W = gy at *
  generalize (g : Int) % W = gx at *
  rcases h with q | q | q | q <;> subst q <;> omega
end
theorem slL_skip (W : Int) (g n : Nat) (gd : Nat → Bool) {gap : Int} (h : gap = 1 ∨ gap = 3 ∨ gap = 5 ∨ gap = 7) {f : Nat} (hf : (f : Int) % gap = 0) : ∀ k : Nat, (k : Int) < gap → slL W g n gd gap (f + 1 + k) = slL W g n gd gap (f + 1)
  | 0, _ => rfl
  | k + 1, hk => by
    show slL W g n gd gap (f + 1 + k) ++ slF W g n gd gap (f + 1 + k : Nat) = _
    rw [slL_skip W g n gd h hf k (by omega)]
    unfold slF
    rw [ring_none h (by rcases h with q | q | q | q <;> subst q <;> omega)]
    simp
end Go.Proofs.YthabjihpjdlmoaaDoor
/- Worlds that differ in some blocks alone. -/
namespace Go.Proofs.YthabjihpjdlmoaaDoor
open Go.RowKit
set_option linter.unusedVariables false
/-- A block of bytes. -/
def U8 (w : World) (j : Nat) : Prop := ∃ cur fr, w.heap[j]? = some (.cells cur 5 fr)
theorem not_u8 (w : World) (cs : Array Value) (T : TypeId) (h : T ≠ 5) : ¬ U8 (w.alloc (.cells cs T)) w.heap.size := by
  rintro ⟨cur, fr, e⟩
  rw [Go.heap_alloc_new] at e
  injection e with e
  injection e with e1 e2
  exact h e2
theorem not_u8_of {w w' : World} {j : Nat} (h : ¬ U8 w j) (e : w'.heap[j]? = w.heap[j]?) : ¬ U8 w' j := fun ⟨cur, fr, x⟩ => h ⟨cur, fr, by rw [← e]; exact x⟩
/-- Old blocks but those of M are as they were. -/
structure Fr (M : Nat → Prop) (w w' : World) : Prop where
  os : w'.os = w.os
  tape : w'.tape = w.tape
  output : w'.output = w.output
  size : w.heap.size ≤ w'.heap.size
  block : ∀ k, k < w.heap.size → ¬ M k → w'.heap[k]? = w.heap[k]?
theorem Fr.refl (M : Nat → Prop) (w : World) : Fr M w w := ⟨rfl, rfl, rfl, Nat.le_refl _, fun _ _ _ => rfl⟩
theorem Fr.andThen {M N : Nat → Prop} {a b c : World} (h : Fr M a b) (k : Fr N b c) (hN : ∀ j, j < a.heap.size → N j → M j) : Fr M a c :=
  ⟨k.os.trans h.os, k.tape.trans h.tape, k.output.trans h.output, Nat.le_trans h.size k.size, fun j hj hm => (k.block j (Nat.lt_of_lt_of_le hj h.size) (fun n => hm (hN j hj n))).trans (h.block j hj hm)⟩
theorem Fr.trans {M : Nat → Prop} {a b c : World} (h : Fr M a b) (k : Fr M b c) : Fr M a c := h.andThen k fun _ _ x => x
theorem Fr.mono {M N : Nat → Prop} {a b : World} (h : Fr M a b) (hM : ∀ j, j < a.heap.size → M j → N j) : Fr N a b := (Fr.refl N a).andThen h hM
theorem Fr.of_below {B : Nat} {a b : World} (h : Below B a b) : Fr (fun k => B ≤ k) a b := ⟨h.os, h.tape, h.output, h.size, fun k _ hm => h.block k (by omega)⟩
theorem Fr.of_all {M : Nat → Prop} {a b : World} (h : Below a.heap.size a b) : Fr M a b := (Fr.of_below h).mono fun j hj h => by omega
theorem Fr.below {M : Nat → Prop} {B : Nat} {a b : World} (h : Fr M a b) (hB : B ≤ a.heap.size) (hM : ∀ j, j < a.heap.size → M j → B ≤ j) : Below B a b :=
  ⟨h.os, h.tape, h.output, h.size, fun k hk => h.block k (by omega) fun m => by have := hM k (by omega) m; omega⟩
theorem Fr.grown {M : Nat → Prop} {a b c : World} {row : Option Nat} (h : Fr M a b) (k : b.grownBy c row) (hM : ∀ j, j < a.heap.size → row = some j → M j) : Fr M a c :=
  h.andThen (N := fun j => row = some j) ⟨k.os, k.tape, k.output, k.size, fun j hj hm => k.block j hj fun e => hm e.symm⟩ hM
theorem Fr.setCell {M : Nat → Prop} {a b : World} (h : Fr M a b) {p : Addr} (hp : p.block < a.heap.size → M p.block) (u : Value) : Fr M a (b.setCell p u) :=
  h.andThen (N := fun j => j = p.block) ⟨rfl, rfl, rfl, by simp, fun j hj hm => Go.heap_setCell_other _ _ _ _ hm⟩ fun j hj e => by subst e; exact hp hj
theorem Fr.alloc {M : Nat → Prop} {a b : World} (h : Fr M a b) (o : Obj) : Fr M a (b.alloc o) :=
  h.andThen (Fr.of_all (M := M) ((Below.refl _ _).alloc (Nat.le_refl _) o)) fun _ _ x => x
theorem Fr.drewN {M : Nat → Prop} {a b : World} (h : Fr M a b) (n : Nat) : Fr M a (b.drewN n) := ⟨h.os, h.tape, h.output, h.size, h.block⟩
theorem Fr.drew {M : Nat → Prop} {a b : World} (h : Fr M a b) : Fr M a b.drew := ⟨h.os, h.tape, h.output, h.size, h.block⟩
theorem Fr.cell {M : Nat → Prop} {a b : World} (h : Fr M a b) {q o : Nat} (hq : q < a.heap.size) (hm : ¬ M q) : b.cell? ⟨q, o, none⟩ = a.cell? ⟨q, o, none⟩ := World.cell?_of_block (h.block q hq hm)
theorem Fr.frozen {M : Nat → Prop} {a b : World} (h : Fr M a b) {q o : Nat} (hq : q < a.heap.size) (hm : ¬ M q) : b.frozen? ⟨q, o, none⟩ = a.frozen? ⟨q, o, none⟩ := World.frozen?_of_block (h.block q hq hm)
theorem Fr.rd {M : Nat → Prop} {w w' : World} {B n : Nat} {a : Option Addr} {f : Nat → Value} (h : Rd w B a n f) (k : Fr M w w') (hB : B ≤ w.heap.size) (hm : ∀ b off, a = some ⟨b, off, none⟩ → b < w.heap.size → ¬ M b) : Rd w' B a n f := fun hn => by
  obtain ⟨b, off, e, hlt, hc⟩ := h hn
  exact ⟨b, off, e, hlt, fun j hj => (k.cell (by omega) (hm b off e (by omega))).trans (hc j hj)⟩
theorem Fr.by_ {M : Nat → Prop} {w w' : World} {B n : Nat} {a : Option Addr} {xs : List Int} (h : By w B a n xs) (k : Fr M w w') (hB : B ≤ w.heap.size) (hm : ∀ b off, a = some ⟨b, off, none⟩ → b < w.heap.size → ¬ M b) : By w' B a n xs := ⟨h.len, h.byt, k.rd h.rd hB hm⟩
theorem Fr.row {M : Nat → Prop} {w w' : World} {base size n : Nat} {e : TypeId} {v : Value} {xs : List Value} (h : w.ownsRow base e size v n xs) (k : Fr M w w') (hm : ∀ j, v.ownBlock = some j → ¬ M j) : w'.ownsRow base e size v n xs := by
  refine ⟨h.1, ?_⟩
  rcases h.2 with hn | ⟨g, cap, cur, rfl, hb, hgg, rest⟩
  · exact .inl hn
  · exact .inr ⟨g, cap, cur, rfl, hb, by rw [k.block g (Array.getElem?_eq_some_iff.1 hgg).1 (hm g rfl)]; exact hgg, rest⟩
theorem Fr.own {M : Nat → Prop} {w w' : World} {base n : Nat} {v : Value} {xs : List Int} (h : OwnB w base v n xs) (k : Fr M w w') (hm : ∀ j, v.ownBlock = some j → ¬ M j) : OwnB w' base v n xs := ⟨h.1, h.2.1, k.row h.2.2 hm⟩
end Go.Proofs.YthabjihpjdlmoaaDoor
