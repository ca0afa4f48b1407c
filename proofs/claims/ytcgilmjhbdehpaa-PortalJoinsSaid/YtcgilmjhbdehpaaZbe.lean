import Derived.Deep.QuietTactic
import Derived.BigQuiet
import Derived.Deep.RegionWith
import Derived.Deep.RegionHeld3
import Derived.Deep.DeepCutAuto
import Derived.Deep.DeepFit
import Derived.Outline
import Derived.Test.YtcgilmjhbdehpaaZbb
import Derived.Test.YtcgilmjhbdehpaaZbd
import Derived.Laws.BitsAllLaws
import Derived.RowKit
import Derived.IntWalk
/- A block that holds n numbers, and room behind them. -/
namespace Go.Proofs.Ytcgilmjhbdehpaa
open Go.RowKit
set_option linter.unusedVariables false
set_option linter.unusedSimpArgs false
structure Arp (w : World) (J n c : Nat) (P : Nat → Int) : Prop where
  ex : ∃ g : Nat → Value, Arr w J c 3 (fun k => if k < n then .int .i64 (P k) else g k)
  le : n ≤ c
theorem Arp.of_arr {w : World} {J n : Nat} {P : Nat → Int} (h : Arr w J n 3 (fun k => .int .i64 (P k))) : Arp w J n n P :=
  ⟨⟨fun _ => .int .i64 0, h.congr fun k hk => by rw [if_pos hk]⟩, Nat.le_refl _⟩
theorem Arp.arr {w : World} {J n : Nat} {P : Nat → Int} (h : Arp w J n n P) : Arr w J n 3 (fun k => .int .i64 (P k)) := by
  obtain ⟨⟨g, h⟩, _⟩ := h
  exact h.congr fun k hk => by rw [if_pos hk]
theorem Arp.lt {w : World} {J n c : Nat} {P : Nat → Int} (h : Arp w J n c P) : J < w.heap.size := by
  obtain ⟨⟨g, h⟩, _⟩ := h
  exact h.lt
theorem Arp.cell {w : World} {J n c : Nat} {P : Nat → Int} (h : Arp w J n c P) {k : Nat} (hk : k < n) : w.cell? ⟨J, k, none⟩ = some (.int .i64 (P k)) := by
  obtain ⟨⟨g, h⟩, hl⟩ := h
  rw [h.cell (show k < c by omega), if_pos hk]
theorem Arp.frozen {w : World} {J n c : Nat} {P : Nat → Int} (h : Arp w J n c P) (k : Nat) : w.frozen? ⟨J, k, none⟩ = false := by
  obtain ⟨⟨g, h⟩, _⟩ := h
  exact h.frozen k
theorem Arp.of_block {w w' : World} {J n c : Nat} {P : Nat → Int} (h : Arp w J n c P) (e : w'.heap[J]? = w.heap[J]?) : Arp w' J n c P := by
  obtain ⟨⟨g, h⟩, hl⟩ := h
  exact ⟨⟨g, h.of_block e⟩, hl⟩
theorem Arp.later {w w' : World} {J n c : Nat} {P : Nat → Int} (h : Arp w J n c P) (k : Below w.heap.size w w') : Arp w' J n c P := h.of_block (k.block J h.lt)
theorem Arp.alloc {w : World} {J n c : Nat} {P : Nat → Int} (h : Arp w J n c P) (o : Obj) : Arp (w.alloc o) J n c P := h.later ((Below.refl _ _).alloc (Nat.le_refl _) o)
theorem Arp.drewN {w : World} {J n c : Nat} {P : Nat → Int} (h : Arp w J n c P) (m : Nat) : Arp (w.drewN m) J n c P := h.of_block rfl
theorem Arp.congr {w : World} {J n c : Nat} {P Q : Nat → Int} (h : Arp w J n c P) (e : ∀ k, k < n → Q k = P k) : Arp w J n c Q := by
  obtain ⟨⟨g, h⟩, hl⟩ := h
  exact ⟨⟨g, h.congr fun k hk => by
    by_cases c : k < n
    · rw [if_pos c, if_pos c, e k c]
    · rw [if_neg c, if_neg c]⟩, hl⟩
theorem Arp.put {w : World} {J n c : Nat} {P : Nat → Int} (h : Arp w J n c P) {v : Nat} (hv : v < n) (x : Int) : Arp (w.setCell ⟨J, v, none⟩ (.int .i64 x)) J n c (updP P v x) := by
  obtain ⟨⟨g, h⟩, hl⟩ := h
  refine ⟨⟨g, (h.set (show v < c by omega) (.int .i64 x)).congr fun k hk => ?_⟩, hl⟩
  by_cases e : k = v
  · subst e; rw [if_pos hv, if_pos rfl, updP_at]
  · rw [if_neg e, updP_far e]
theorem Arp.rd {w : World} {J n c B : Nat} {P : Nat → Int} (h : Arp w J n c P) (hg : J < B) : Rd w B (some ⟨J, 0, none⟩) n (fun k => .int .i64 (P k)) :=
  fun _ => ⟨J, 0, rfl, hg, fun k hk => by rw [Nat.zero_add]; exact h.cell hk⟩
/-- What a row of one's own holds. -/
theorem Arp.own {w : World} {base g n c : Nat} {xs : List Value} {P : Nat → Int} (h : w.ownsRow base 3 1 (.slice (some ⟨g, 0, none⟩) n c) n xs) (e : ∀ k, k < n → xs[k]? = some (.int .i64 (P k))) : Arp w g n c P := by
  rcases h.2 with ⟨hv, _⟩ | ⟨g', cap, cur, hv, hb, hg, h1, h2, h3, h4⟩
  · simp at hv
  · simp at hv
    obtain ⟨rfl, rfl⟩ := hv
    refine ⟨⟨fun k => cur.getD k (.int .i64 0), cur, hg, by omega, fun k hk => ?_⟩, by omega⟩
    by_cases d : k < n
    · rw [if_pos d]
      have := e k d
      rw [← h4, List.getElem?_take, if_pos (by omega)] at this
      simpa using this
    · rw [if_neg d, Array.getElem?_eq_getElem (by omega)]
      simp [Array.getD, show k < cur.size by omega]
theorem Arp.row {w : World} {base g n c : Nat} {P : Nat → Int} (h : Arp w g n c P) (hb : base ≤ g) (hm : c ≤ 1099511627776) : w.ownsRow base 3 1 (.slice (some ⟨g, 0, none⟩) n c) n ((List.range n).map fun k => .int .i64 (P k)) := by
  obtain ⟨⟨f, cur, e, hs, hc⟩, hl⟩ := h
  refine ⟨by simp, Or.inr ⟨g, c, cur, rfl, hb, e, by omega, by unfold maxLen; omega, by omega, ?_⟩⟩
  apply List.ext_getElem?
  intro k
  by_cases hk : k < n
  · have := hc k (by omega)
    rw [if_pos hk] at this
    simp [hk]
    simpa using this
  · rw [List.getElem?_eq_none (by simp; omega), List.getElem?_eq_none (by simp; omega)]
end Go.Proofs.Ytcgilmjhbdehpaa
/- Plain arithmetic for layer 1 (fixed, wide): no program in it. -/
namespace Go.Proofs.Ytcgilmjhbdehpaa.Fx
open Go
/-- A fact kept behind a name. -/
structure Hd (p : Prop) : Prop where
  out : p
def Most : Int := 9223372036854775807
/-- What a fixed number counts as. -/
def cnt (a : Int) : Int := if a < -Most then -Most else a
def lessB (a b c d : Int) : Bool := decide (a < c) || (decide (a = c) && decide (b < d))
theorem and_mask32 (x : Int) (h0 : 0 ≤ x) (h1 : x ≤ 18446744073709551615) : bits .and .u64 x 4294967295 = x % 4294967296 := by
  rw [u64_and x 4294967295 h0 (by omega) (by omega) (by omega)]
  have : x.toNat &&& (4294967295 : Int).toNat = x.toNat % 4294967296 := Nat.and_two_pow_sub_one_eq_mod x.toNat 32
  rw [this]; omega
theorem and_one (x : Int) (h0 : 0 ≤ x) (h1 : x ≤ 18446744073709551615) : bits .and .u64 x 1 = x % 2 := by
  rw [u64_and x 1 h0 (by omega) (by omega) (by omega)]
  have : x.toNat &&& (1 : Int).toNat = x.toNat % 2 := Nat.and_two_pow_sub_one_eq_mod x.toNat 1
  rw [this]; omega
theorem or_nat (k a b : Nat) (hb : b < 2 ^ k) : (2 ^ k * a) ||| b = 2 ^ k * a + b := (Nat.two_pow_add_eq_or_of_lt hb a).symm
theorem or_one (x y : Int) (h0 : 0 ≤ x) (h1 : 2 * x ≤ 18446744073709551615) (hy : 0 ≤ y) (hy' : y ≤ 1) : bits .or .u64 (2 * x) y = 2 * x + y := by
  rw [u64_or (2 * x) y (by omega) (by omega) hy (by omega)]
  have := or_nat 1 x.toNat y.toNat (by omega)
  have e : (2 * x).toNat = 2 ^ 1 * x.toNat := by omega
  rw [e, this]; omega
theorem or_mask32 (x y : Int) (h0 : 0 ≤ x) (h1 : 4294967296 * x ≤ 18446744073709551615) (hy : 0 ≤ y) (hy' : y ≤ 4294967295) : bits .or .u64 (4294967296 * x) y = 4294967296 * x + y := by
  rw [u64_or (4294967296 * x) y (by omega) (by omega) hy (by omega)]
  have := or_nat 32 x.toNat y.toNat (by omega)
  have e : (4294967296 * x).toNat = 2 ^ 32 * x.toNat := by omega
  rw [e, this]; omega
theorem ri {k : IntKind} {a b : Int} (h : a = b) : Ending.returned (.int k a) = .returned (.int k b) := by rw [h]
theorem rb {a b : Bool} (h : a = b) : Ending.returned (.bool a) = .returned (.bool b) := by rw [h]
theorem wrapu (x : Int) : IntKind.u64.wrap x = x % 18446744073709551616 := by simp [IntKind.wrap, IntKind.bits, IntKind.signed]
def clampM (x : Int) : Int := if Most < x then Most else if x < -Most then -Most else x
def sz (a : Int) : Int := if cnt a < 0 then -(cnt a) else cnt a
def cmpS (a b : Int) : Int := if cnt a < cnt b then -1 else if cnt b < cnt a then 1 else 0
def ab (a : Int) : Int := if a < 0 then -a else a
def addS (a b : Int) : Int := clampM (cnt a + cnt b)
def negS (a : Int) : Int := -(cnt a)
def subS (a b : Int) : Int := addS a (negS b)
def I64 (a : Int) : Prop := -9223372036854775808 ≤ a ∧ a ≤ 9223372036854775807
theorem cnt_bd {a : Int} (h : I64 a) : -9223372036854775807 ≤ cnt a ∧ cnt a ≤ 9223372036854775807 := by
  unfold I64 at h; unfold cnt Most; split <;> omega
theorem cnt_i64 {a : Int} (h : I64 a) : I64 (cnt a) := by have := cnt_bd h; unfold I64; omega
theorem neg_i64 {a : Int} (h : I64 a) : I64 (negS a) := by have := cnt_bd h; unfold I64 negS; omega
theorem sz_bd {a : Int} (h : I64 a) : 0 ≤ sz a ∧ sz a ≤ 9223372036854775807 := by have := cnt_bd h; unfold sz; split <;> omega
/-- The product of two numbers of 64 bits by halves: what is carried never passes 64 bits. -/
theorem halves (a b al ah bl bh low mid cr : Int) (ha : 0 ≤ a) (ha' : a ≤ 18446744073709551615) (hb : 0 ≤ b) (hb' : b ≤ 18446744073709551615)
    (e1 : al = a % 4294967296) (e2 : ah = a / 4294967296) (e3 : bl = b % 4294967296) (e4 : bh = b / 4294967296)
    (e5 : low = al * bl) (e6 : mid = ah * bl + low / 4294967296) (e7 : cr = al * bh + mid % 4294967296) :
    (0 ≤ low ∧ low ≤ 18446744065119617025) ∧ (0 ≤ ah * bl ∧ ah * bl ≤ 18446744065119617025) ∧ (0 ≤ mid ∧ mid ≤ 18446744073709551615) ∧ (0 ≤ al * bh ∧ al * bh ≤ 18446744065119617025) ∧ (0 ≤ cr ∧ cr ≤ 18446744073709551615) ∧
    (0 ≤ ah * bh ∧ ah * bh ≤ 18446744065119617025) ∧
    ah * bh + mid / 4294967296 + cr / 4294967296 = a * b / 18446744073709551616 ∧ cr % 4294967296 * 4294967296 + low % 4294967296 = a * b % 18446744073709551616 ∧ ah * bh + mid / 4294967296 + cr / 4294967296 ≤ 18446744073709551615 ∧ ah * bh + mid / 4294967296 ≤ 18446744073709551615 := by
  have hal : 0 ≤ al ∧ al ≤ 4294967295 := by omega
  have hah : 0 ≤ ah ∧ ah ≤ 4294967295 := by omega
  have hbl : 0 ≤ bl ∧ bl ≤ 4294967295 := by omega
  have hbh : 0 ≤ bh ∧ bh ≤ 4294967295 := by omega
  have m : ∀ x y : Int, 0 ≤ x ∧ x ≤ 4294967295 → 0 ≤ y ∧ y ≤ 4294967295 → 0 ≤ x * y ∧ x * y ≤ 18446744065119617025 := fun x y hx hy =>
    ⟨Int.mul_nonneg hx.1 hy.1, by have := Int.mul_le_mul hx.2 hy.2 hy.1 (by omega : (0:Int) ≤ 4294967295); omega⟩
  have p1 := m al bl hal hbl
  have p2 := m ah bl hah hbl
  have p3 := m al bh hal hbh
  have p4 := m ah bh hah hbh
  have ea : a = 4294967296 * ah + al := by omega
  have eb : b = 4294967296 * bh + bl := by omega
  have eab : a * b = 18446744073709551616 * (ah * bh) + 4294967296 * (ah * bl) + 4294967296 * (al * bh) + al * bl := by
    rw [ea, eb]
    have h1 : (4294967296 * ah + al) * (4294967296 * bh + bl) = 4294967296 * ah * (4294967296 * bh) + 4294967296 * ah * bl + al * (4294967296 * bh) + al * bl := by
      rw [Int.add_mul, Int.mul_add, Int.mul_add]; omega
    rw [h1]
    have h2 : 4294967296 * ah * (4294967296 * bh) = 18446744073709551616 * (ah * bh) := by
      rw [Int.mul_assoc, Int.mul_left_comm ah, ← Int.mul_assoc]; rfl
    have h3 : 4294967296 * ah * bl = 4294967296 * (ah * bl) := Int.mul_assoc _ _ _
    have h4 : al * (4294967296 * bh) = 4294967296 * (al * bh) := Int.mul_left_comm _ _ _
    omega
  generalize al * bl = P1 at *
  generalize ah * bl = P2 at *
  generalize al * bh = P3 at *
  generalize ah * bh = P4 at *
  generalize a * b = AB at *
  subst e5
  clear e1 e2 e3 e4 ea eb m
  have hlt : AB < 340282366920938463463374607431768211456 := by omega
  refine ⟨by omega, by omega, by omega, by omega, by omega, by omega, by omega, by omega, by omega, by omega⟩
def mLow (a b : Int) : Int := IntKind.u64.wrap (bits BinOp.and IntKind.u64 a 4294967295 * bits BinOp.and IntKind.u64 b 4294967295)
def mMid (a b : Int) : Int := IntKind.u64.wrap (IntKind.u64.wrap (a / 4294967296 * bits BinOp.and IntKind.u64 b 4294967295) + mLow a b / 4294967296)
def mCr (a b : Int) : Int := IntKind.u64.wrap (IntKind.u64.wrap (bits BinOp.and IntKind.u64 a 4294967295 * (b / 4294967296)) + bits BinOp.and IntKind.u64 (mMid a b) 4294967295)
def mHi (a b : Int) : Int := IntKind.u64.wrap (IntKind.u64.wrap (IntKind.u64.wrap (a / 4294967296 * (b / 4294967296)) + mMid a b / 4294967296) + mCr a b / 4294967296)
def mLo (a b : Int) : Int := bits BinOp.or IntKind.u64 (IntKind.u64.wrap (mCr a b * 4294967296)) (bits BinOp.and IntKind.u64 (mLow a b) 4294967295)
theorem mBoth (a b : Int) (ha : 0 ≤ a) (ha' : a ≤ 18446744073709551615) (hb : 0 ≤ b) (hb' : b ≤ 18446744073709551615) :
    mHi a b = a * b / 18446744073709551616 ∧ mLo a b = a * b % 18446744073709551616 := by
  obtain ⟨h1, h2, h3, h4, h5, h6, h7, h8, h9, h10⟩ := halves a b _ _ _ _ _ _ _ ha ha' hb hb' rfl rfl rfl rfl rfl rfl rfl
  have x1 : mLow a b = a % 4294967296 * (b % 4294967296) := by
    unfold mLow; rw [and_mask32 a ha ha', and_mask32 b hb hb', wrapu]; exact Int.emod_eq_of_lt h1.1 (by omega)
  have x2 : mMid a b = a / 4294967296 * (b % 4294967296) + a % 4294967296 * (b % 4294967296) / 4294967296 := by
    unfold mMid; rw [x1, and_mask32 b hb hb', wrapu, wrapu, Int.emod_eq_of_lt h2.1 (by omega)]; exact Int.emod_eq_of_lt h3.1 (by omega)
  have x3 : mCr a b = a % 4294967296 * (b / 4294967296) + (a / 4294967296 * (b % 4294967296) + a % 4294967296 * (b % 4294967296) / 4294967296) % 4294967296 := by
    unfold mCr; rw [x2, and_mask32 a ha ha', and_mask32 _ h3.1 h3.2, wrapu, wrapu, Int.emod_eq_of_lt h4.1 (by omega)]; exact Int.emod_eq_of_lt h5.1 (by omega)
  constructor
  · unfold mHi; rw [x3, x2, wrapu, wrapu, wrapu, ← h7]
    clear h7 h8 x1 x2 x3
    generalize a / 4294967296 * (b / 4294967296) = P4 at *
    generalize a % 4294967296 * (b / 4294967296) = P3 at *
    generalize a / 4294967296 * (b % 4294967296) = P2 at *
    generalize a % 4294967296 * (b % 4294967296) = P1 at *
    omega
  · unfold mLo; rw [x3, x1, and_mask32 _ h1.1 (by omega), wrapu, ← h8]
    generalize a % 4294967296 * (b / 4294967296) + (a / 4294967296 * (b % 4294967296) + a % 4294967296 * (b % 4294967296) / 4294967296) % 4294967296 = C at *
    generalize a % 4294967296 * (b % 4294967296) = L at *
    rw [show C * 4294967296 % 18446744073709551616 = 4294967296 * (C % 4294967296) by omega, or_mask32 _ _ (by omega) (by omega) (by omega) (by omega)]
    omega
theorem mHi_eq (a b : Int) (ha : 0 ≤ a) (ha' : a ≤ 18446744073709551615) (hb : 0 ≤ b) (hb' : b ≤ 18446744073709551615) : mHi a b = a * b / 18446744073709551616 := (mBoth a b ha ha' hb hb').1
theorem mLo_eq (a b : Int) (ha : 0 ≤ a) (ha' : a ≤ 18446744073709551615) (hb : 0 ≤ b) (hb' : b ≤ 18446744073709551615) : mLo a b = a * b % 18446744073709551616 := (mBoth a b ha ha' hb hb').2
/-! ### A long division, bit by bit -/
theorem half_pow (l : Int) (k : Nat) (hk : k < 64) : l / 2 ^ (63 - k) = 2 * (l / 2 ^ (64 - k)) + l / 2 ^ (63 - k) % 2 := by
  have e : (64 - k) = (63 - k) + 1 := by omega
  have e2 : (2 : Int) ^ (64 - k) = 2 ^ (63 - k) * 2 := by rw [e, Int.pow_succ]
  have hp : (0 : Int) ≤ 2 ^ (63 - k) := Int.le_of_lt (Int.pow_pos (by omega))
  rw [e2, ← Int.ediv_ediv_of_nonneg hp]
  omega
theorem pow_le63 (k : Nat) (hk : k ≤ 63) : (2 : Int) ^ k ≤ 9223372036854775808 := by
  have h : 2 ^ k ≤ 2 ^ 63 := Nat.pow_le_pow_right (by omega) hk
  have : ((2 ^ k : Nat) : Int) ≤ ((2 ^ 63 : Nat) : Int) := Int.ofNat_le.2 h
  rw [Int.natCast_pow] at this
  simpa using this
/-- What k rounds have brought: quotient Q and rest R of the first k bits. -/
structure Dv (r0 l b : Int) (k : Nat) (R Q : Int) : Prop where
  hk : k ≤ 64
  R0 : 0 ≤ R
  R1 : R < b
  Q0 : 0 ≤ Q
  Q1 : Q < 2 ^ k
  eq : Q * b + R = r0 * 2 ^ k + l / 2 ^ (64 - k)
theorem Dv.small {r0 l b R Q : Int} {k : Nat} (h : Dv r0 l b k R Q) (hk : k < 64) : Q ≤ 9223372036854775807 := by
  have := pow_le63 k (by omega); have := h.Q1; omega
theorem Dv.start (r0 l b : Int) (h0 : 0 ≤ r0) (h1 : r0 < b) (l0 : 0 ≤ l) (l1 : l ≤ 18446744073709551615) : Dv r0 l b 0 r0 0 :=
  ⟨by omega, h0, h1, by omega, by simp, by
    have : l / 2 ^ (64 - 0) = 0 := by
      refine Int.ediv_eq_zero_of_lt l0 ?_
      have e : (2 : Int) ^ (64 - 0) = 18446744073709551616 := rfl
      omega
    rw [this]; simp⟩
def bitAt (l : Int) (k : Nat) : Int := bits BinOp.and IntKind.u64 (l / 2 ^ (63 - k)) 1
theorem bitAt_eq (l : Int) (k : Nat) (l0 : 0 ≤ l) (l1 : l ≤ 18446744073709551615) : bitAt l k = l / 2 ^ (63 - k) % 2 := by
  unfold bitAt
  have hp : (0 : Int) < 2 ^ (63 - k) := Int.pow_pos (by omega)
  have a0 : 0 ≤ l / 2 ^ (63 - k) := Int.ediv_nonneg l0 (by omega)
  have a1 : l / 2 ^ (63 - k) ≤ l := Int.ediv_le_self _ l0
  exact and_one _ a0 (by omega)
theorem Dv.top {r0 l b R Q : Int} {k : Nat} (h : Dv r0 l b k R Q) (l0 : 0 ≤ l) (l1 : l ≤ 18446744073709551615) (b1 : b ≤ 9223372036854775808) :
    bits BinOp.or IntKind.u64 (R * 2) (bitAt l k) = 2 * R + bitAt l k ∧ 0 ≤ bitAt l k ∧ bitAt l k ≤ 1 := by
  have e := bitAt_eq l k l0 l1
  have := h.R0; have := h.R1
  refine ⟨?_, by omega, by omega⟩
  rw [Int.mul_comm R 2]
  exact or_one R _ h.R0 (by omega) (by omega) (by omega)
theorem Dv.less {r0 l b R Q : Int} {k : Nat} (h : Dv r0 l b k R Q) (hk : k < 64) (l0 : 0 ≤ l) (l1 : l ≤ 18446744073709551615)
    (hlt : 2 * R + bitAt l k < b) : Dv r0 l b (k + 1) (2 * R + bitAt l k) (2 * Q) := by
  have e := bitAt_eq l k l0 l1
  have hp := half_pow l k hk
  have := h.R0; have := h.R1; have := h.Q0; have := h.Q1; have heq := h.eq
  refine ⟨by omega, by omega, hlt, by omega, by rw [Int.pow_succ]; omega, ?_⟩
  rw [show 64 - (k + 1) = 63 - k by omega, hp, ← e, Int.pow_succ, ← Int.mul_assoc, Int.mul_assoc 2 Q b]
  omega
theorem Dv.more {r0 l b R Q : Int} {k : Nat} (h : Dv r0 l b k R Q) (hk : k < 64) (l0 : 0 ≤ l) (l1 : l ≤ 18446744073709551615)
    (hlt : b ≤ 2 * R + bitAt l k) : Dv r0 l b (k + 1) (2 * R + bitAt l k - b) (2 * Q + 1) := by
  have e := bitAt_eq l k l0 l1
  have hp := half_pow l k hk
  have := h.R0; have := h.R1; have := h.Q0; have := h.Q1; have heq := h.eq
  refine ⟨by omega, by omega, by omega, by omega, by rw [Int.pow_succ]; omega, ?_⟩
  rw [show 64 - (k + 1) = 63 - k by omega, hp, ← e, Int.pow_succ, ← Int.mul_assoc, Int.add_mul, Int.mul_assoc 2 Q b]
  omega
def dT (h l : Int) : Int := h * 18446744073709551616 + l
theorem divs (h l b Q R : Int) (b0 : 1 ≤ b) (R0 : 0 ≤ R) (R1 : R < b) (Q0 : 0 ≤ Q) (Q1 : Q < 18446744073709551616) (eq : Q * b + R = h % b * 18446744073709551616 + l) :
    dT h l / b / 18446744073709551616 = h / b ∧ dT h l / b % 18446744073709551616 = Q ∧ dT h l % b = R := by
  have hT : dT h l = R + b * (h / b * 18446744073709551616 + Q) := by
    have hm := Int.mul_ediv_add_emod h b
    unfold dT
    have e1 : h * 18446744073709551616 = b * (h / b) * 18446744073709551616 + h % b * 18446744073709551616 := by rw [← Int.add_mul, hm]
    rw [Int.mul_add, ← Int.mul_assoc, Int.mul_comm b Q]
    omega
  have hq : dT h l / b = h / b * 18446744073709551616 + Q := by
    rw [hT, Int.add_mul_ediv_left _ _ (by omega), Int.ediv_eq_zero_of_lt R0 R1, Int.zero_add]
  have hr : dT h l % b = R := by rw [hT, Int.add_mul_emod_self_left]; exact Int.emod_eq_of_lt R0 R1
  refine ⟨?_, ?_, hr⟩ <;> rw [hq] <;> omega
theorem Dv.done {h l b R Q : Int} (hd : Dv (h % b) l b 64 R Q) (b0 : 1 ≤ b) : dT h l / b / 18446744073709551616 = h / b ∧ dT h l / b % 18446744073709551616 = Q ∧ dT h l % b = R := by
  refine divs h l b Q R b0 hd.R0 hd.R1 hd.Q0 hd.Q1 ?_
  have := hd.eq
  simpa using this
theorem divs0 (h l b : Int) (b0 : 1 ≤ b) (l0 : 0 ≤ l) (l1 : l ≤ 18446744073709551615) (hz : h % b = 0) : dT h l / b / 18446744073709551616 = h / b ∧ dT h l / b % 18446744073709551616 = l / b ∧ dT h l % b = l % b := by
  have hm := Int.mul_ediv_add_emod l b
  refine divs h l b (l / b) (l % b) b0 (Int.emod_nonneg _ (by omega)) (Int.emod_lt_of_pos _ (by omega)) (Int.ediv_nonneg l0 (by omega)) (by have := Int.ediv_le_self b l0; omega) ?_
  rw [hz, Int.mul_comm]; omega
/-! ### The reference's long division of 128 bits -/
structure Ov (T b : Int) (k : Nat) (R Q : Int) : Prop where
  hk : k ≤ 128
  R0 : 0 ≤ R
  R1 : R < b
  Q0 : 0 ≤ Q
  eq : Q * b + R = T / 2 ^ (128 - k)
theorem half_pow' (l : Int) (k : Nat) (hk : k < 128) : l / 2 ^ (127 - k) = 2 * (l / 2 ^ (128 - k)) + l / 2 ^ (127 - k) % 2 := by
  have e : (128 - k) = (127 - k) + 1 := by omega
  have e2 : (2 : Int) ^ (128 - k) = 2 ^ (127 - k) * 2 := by rw [e, Int.pow_succ]
  have hp : (0 : Int) ≤ 2 ^ (127 - k) := Int.le_of_lt (Int.pow_pos (by omega))
  rw [e2, ← Int.ediv_ediv_of_nonneg hp]
  omega
theorem dT_bd (h l : Int) (h0 : 0 ≤ h) (h1 : h ≤ 18446744073709551615) (l0 : 0 ≤ l) (l1 : l ≤ 18446744073709551615) : 0 ≤ dT h l ∧ dT h l < 340282366920938463463374607431768211456 := by
  unfold dT; omega
theorem Ov.start (h l b : Int) (h0 : 0 ≤ h) (h1 : h ≤ 18446744073709551615) (l0 : 0 ≤ l) (l1 : l ≤ 18446744073709551615) (b0 : 1 ≤ b) : Ov (dT h l) b 0 0 0 :=
  ⟨by omega, by omega, by omega, by omega, by
    have hb := dT_bd h l h0 h1 l0 l1
    have : dT h l / 2 ^ (128 - 0) = 0 := by
      refine Int.ediv_eq_zero_of_lt hb.1 ?_
      have e : (2 : Int) ^ (128 - 0) = 340282366920938463463374607431768211456 := rfl
      omega
    rw [this]; simp⟩
def obit (T : Int) (k : Nat) : Int := T / 2 ^ (127 - k) % 2
theorem obit_bd (T : Int) (k : Nat) : 0 ≤ obit T k ∧ obit T k ≤ 1 := by unfold obit; omega
theorem obit_hi (h l : Int) (k : Nat) (hk : k < 64) (h0 : 0 ≤ h) (h1 : h ≤ 18446744073709551615) (l0 : 0 ≤ l) (l1 : l ≤ 18446744073709551615) :
    bits BinOp.and IntKind.u64 (h / 2 ^ ((127 - k) % 64)) 1 = obit (dT h l) k := by
  have e : (127 - k) % 64 = 63 - k := by omega
  have hp : (0 : Int) < 2 ^ (63 - k) := Int.pow_pos (by omega)
  rw [e, and_one _ (Int.ediv_nonneg h0 (by omega)) (by have := Int.ediv_le_self (2 ^ (63 - k)) h0; omega)]
  unfold obit
  have e2 : (2 : Int) ^ (127 - k) = 18446744073709551616 * 2 ^ (63 - k) := by
    rw [show 127 - k = 64 + (63 - k) by omega, Int.pow_add]; rfl
  rw [e2, ← Int.ediv_ediv_of_nonneg (by omega : (0:Int) ≤ 18446744073709551616)]
  rw [show dT h l / 18446744073709551616 = h by unfold dT; omega]
theorem obit_lo (h l : Int) (k : Nat) (hk : ¬ k < 64) (hk2 : k < 128) (l0 : 0 ≤ l) (l1 : l ≤ 18446744073709551615) :
    bits BinOp.and IntKind.u64 (l / 2 ^ ((127 - k) % 64)) 1 = obit (dT h l) k := by
  have e : (127 - k) % 64 = 127 - k := by omega
  have hp : (0 : Int) < 2 ^ (127 - k) := Int.pow_pos (by omega)
  rw [e, and_one _ (Int.ediv_nonneg l0 (by omega)) (by have := Int.ediv_le_self (2 ^ (127 - k)) l0; omega)]
  unfold obit dT
  have e2 : (18446744073709551616 : Int) = 2 ^ (127 - k) * (2 * 2 ^ (k - 64)) := by
    rw [← Int.mul_assoc, Int.mul_comm _ 2, Int.mul_assoc, ← Int.pow_add, ← show 63 = 127 - k + (k - 64) by omega]; rfl
  rw [e2, Int.mul_left_comm, Int.add_comm, Int.add_mul_ediv_left _ _ (by omega)]
  rw [← Int.mul_assoc, Int.mul_comm h 2, Int.mul_assoc]; omega
theorem Ov.less {T b R Q : Int} {k : Nat} (h : Ov T b k R Q) (hk : k < 128) (hlt : 2 * R + obit T k < b) : Ov T b (k + 1) (2 * R + obit T k) (2 * Q) := by
  have e := obit_bd T k
  have hp := half_pow' T k hk
  have := h.R0; have := h.R1; have := h.Q0; have heq := h.eq
  refine ⟨by omega, by omega, hlt, by omega, ?_⟩
  unfold obit
  rw [show 128 - (k + 1) = 127 - k by omega, hp, Int.mul_assoc 2 Q b]
  omega
theorem Ov.more {T b R Q : Int} {k : Nat} (h : Ov T b k R Q) (hk : k < 128) (hlt : b ≤ 2 * R + obit T k) : Ov T b (k + 1) (2 * R + obit T k - b) (2 * Q + 1) := by
  have e := obit_bd T k
  have hp := half_pow' T k hk
  have := h.R0; have := h.R1; have := h.Q0; have heq := h.eq
  refine ⟨by omega, by omega, by omega, by omega, ?_⟩
  unfold obit
  rw [show 128 - (k + 1) = 127 - k by omega, hp, Int.add_mul, Int.mul_assoc 2 Q b]
  omega
theorem Ov.done {T b R Q : Int} (h : Ov T b 128 R Q) (b0 : 1 ≤ b) : T / b = Q ∧ T % b = R := by
  have he : Q * b + R = T := by have := h.eq; simpa using this
  constructor
  · rw [← he, Int.add_comm, Int.add_mul_ediv_right _ _ (by omega), Int.ediv_eq_zero_of_lt h.R0 h.R1, Int.zero_add]
  · rw [← he, Int.add_comm, Int.add_mul_emod_self_right]; exact Int.emod_eq_of_lt h.R0 h.R1
def ovQ (T b : Int) : Int := if 18446744073709551616 ≤ T / b then 18446744073709551615 else T / b
theorem Ov.top {T b R Q : Int} {k : Nat} (h : Ov T b k R Q) (b1 : b ≤ 9223372036854775808) : bits BinOp.or IntKind.u64 (R * 2) (obit T k) = 2 * R + obit T k := by
  have := h.R0; have := h.R1; have e := obit_bd T k
  rw [Int.mul_comm R 2]
  exact or_one R _ h.R0 (by omega) (by omega) (by omega)
theorem shl_mod (Q : Int) : IntKind.u64.wrap (Q % 18446744073709551616 * 2) = 2 * Q % 18446744073709551616 := by rw [wrapu]; omega
theorem shl_one_mod (Q : Int) : bits BinOp.or IntKind.u64 (IntKind.u64.wrap (Q % 18446744073709551616 * 2)) 1 = (2 * Q + 1) % 18446744073709551616 := by
  rw [shl_mod, show 2 * Q % 18446744073709551616 = 2 * (Q % 9223372036854775808) by omega, or_one _ 1 (by omega) (by omega) (by omega) (by omega)]; omega
/-! ### The end of a product or quotient: rounded down, cut off -/
def sgS (q : Int) (n l : Bool) : Int :=
  if n = true then -(if l = true ∧ q < Most then q + 1 else if Most < q then Most else q) else if Most < q then Most else q
def endS (q : Int) (minus : Bool) (rest : Int) : Int :=
  let q' := if minus = true ∧ 0 < rest then q + 1 else q
  let m := if Most < q' then Most else q'
  if minus = true then -m else m
theorem dq_bd (h l b : Int) (h0 : 0 ≤ h) (h1 : h < 18446744073709551615) (l0 : 0 ≤ l) (l1 : l ≤ 18446744073709551615) (b0 : 1 ≤ b) :
    0 ≤ dT h l / b / 18446744073709551616 ∧ dT h l / b / 18446744073709551616 < 18446744073709551615 ∧ 0 ≤ dT h l / b % 18446744073709551616 ∧ dT h l / b % 18446744073709551616 ≤ 18446744073709551615 := by
  have hb := dT_bd h l h0 (by omega) l0 l1
  have h2 : dT h l / b ≤ dT h l := Int.ediv_le_self _ hb.1
  have h3 : 0 ≤ dT h l / b := Int.ediv_nonneg hb.1 (by omega)
  have : dT h l < 18446744073709551615 * 18446744073709551616 := by unfold dT; omega
  omega
theorem endS_up {q1 q2 x y r : Int} (e : Hd (x = q1 + (q2 + 1) / 18446744073709551616 ∧ y = (q2 + 1) % 18446744073709551616)) (hr : 0 < r) (q10 : 0 ≤ q1) (q20 : 0 ≤ q2) :
    endS (q1 * 18446744073709551616 + q2) true r = if 0 < x ∨ 9223372036854775807 < y then -9223372036854775807 else -y := by
  obtain ⟨⟨ex, ey⟩⟩ := e
  have h : q1 * 18446744073709551616 + q2 + 1 = x * 18446744073709551616 + y := by omega
  simp only [endS, Most, hr, and_self, if_true, h]
  split <;> split <;> omega
theorem endS_plain {q1 q2 r : Int} {m : Bool} (hr : m = true → ¬ 0 < r) (q10 : 0 ≤ q1) (q20 : 0 ≤ q2) :
    endS (q1 * 18446744073709551616 + q2) m r = if 0 < q1 ∨ 9223372036854775807 < q2 then (if m = true then -9223372036854775807 else 9223372036854775807) else (if m = true then -q2 else q2) := by
  have h : ¬ (m = true ∧ 0 < r) := fun h => hr h.1 h.2
  simp only [endS, Most, if_neg h]
  cases m <;> simp <;> split <;> split <;> omega
/-! ### Products and quotients -/
def mulS (a b : Int) : Int := endS (sz a * sz b / 65536) (decide (a < 0) != decide (b < 0)) (sz a * sz b % 65536)
def divS (a b : Int) : Int :=
  if b = 0 then (if 0 < a then 9223372036854775807 else if a < 0 then -9223372036854775807 else 0) else endS (sz a * 65536 / sz b) (decide (a < 0) != decide (b < 0)) (sz a * 65536 % sz b)
theorem dT_div (p : Int) : dT (p / 18446744073709551616) (p % 18446744073709551616) = p := by unfold dT; omega
theorem sz_pos {b : Int} (h : I64 b) (hb : b ≠ 0) : 1 ≤ sz b := by
  unfold I64 at h; unfold sz cnt Most; split <;> split <;> omega
theorem prod_bd {x y : Int} (hx : 0 ≤ x ∧ x ≤ 9223372036854775807) (hy : 0 ≤ y ∧ y ≤ 9223372036854775807) : 0 ≤ x * y ∧ x * y ≤ 85070591730234615847396907784232501249 := by
  refine ⟨Int.mul_nonneg hx.1 hy.1, ?_⟩
  have := Int.mul_le_mul hx.2 hy.2 hy.1 (by omega : (0 : Int) ≤ 9223372036854775807)
  omega
theorem sgS_endS {p b : Int} {m : Bool} (hp : 0 ≤ p) (hb : 1 ≤ b) : sgS (ovQ p b) m (decide (0 < p % b)) = endS (p / b) m (p % b) := by
  have h0 : 0 ≤ p / b := Int.ediv_nonneg hp (by omega)
  unfold sgS ovQ endS Most
  generalize p / b = q at *
  generalize p % b = r at *
  cases m
  · simp; split <;> split <;> (try split) <;> omega
  · by_cases hr : 0 < r
    · simp [hr]; repeat' split
      all_goals omega
    · simp [hr]; repeat' split
      all_goals omega
theorem cnt_sign {a : Int} (h : I64 a) : (cnt a < 0 ↔ a < 0) := by unfold I64 at h; unfold cnt Most; split <;> omega
theorem cnt_zero {a : Int} (h : I64 a) : (cnt a = 0 ↔ a = 0) := by unfold I64 at h; unfold cnt Most; split <;> omega
theorem cnt_pos {a : Int} (h : I64 a) : (0 < cnt a ↔ 0 < a) := by unfold I64 at h; unfold cnt Most; split <;> omega
theorem cmp_zero {a : Int} (h : I64 a) : cmpS a 0 = if 0 < a then 1 else if a < 0 then -1 else 0 := by
  have := cnt_sign h; have := cnt_pos h
  have h0 : cnt 0 = 0 := by decide
  unfold cmpS; rw [h0]; split <;> split <;> (try split) <;> omega
theorem endS_bd (q : Int) (m : Bool) (r : Int) (hq : 0 ≤ q) : -9223372036854775807 ≤ endS q m r ∧ endS q m r ≤ 9223372036854775807 := by
  unfold endS Most; cases m <;> simp <;> (repeat' split) <;> omega
end Go.Proofs.Ytcgilmjhbdehpaa.Fx
/- More plain arithmetic for layer 1: no program in it. -/
namespace Go.Proofs.Ytcgilmjhbdehpaa.Fx
set_option linter.unusedVariables false
theorem ovQ_bd {p b : Int} (hp : 0 ≤ p) (hb : 1 ≤ b) : 0 ≤ ovQ p b ∧ ovQ p b ≤ 18446744073709551615 := by
  have h0 : 0 ≤ p / b := Int.ediv_nonneg hp (by omega)
  unfold ovQ; split <;> omega
theorem div0 {a : Int} (ha : I64 a) : divS a 0 = if 0 < cnt a then 9223372036854775807 else if cnt a < 0 then -9223372036854775807 else 0 := by
  have := cnt_sign ha; have := cnt_pos ha
  unfold divS; simp; split <;> split <;> (try split) <;> omega
/-! ### Roots -/
structure IsRoot (T R : Int) : Prop where
  R0 : 0 ≤ R
  lo : R * R ≤ T
  hi : T < (R + 1) * (R + 1)
theorem sq_le {a b : Int} (ha : 0 ≤ a) (hab : a ≤ b) : a * a ≤ b * b := Int.mul_le_mul hab hab ha (by omega)
theorem sq_lt {a b : Int} (ha : 0 ≤ a) (h : a * a < b * b) (hb : 0 ≤ b) : a < b := by
  rcases Int.lt_or_le a b with h1 | h1
  · exact h1
  · have := sq_le hb h1; omega
theorem IsRoot.uniq {T R S : Int} (h : IsRoot T R) (g : IsRoot T S) : R = S := by
  have h1 := sq_lt h.R0 (Int.lt_of_le_of_lt h.lo g.hi) (by have := g.R0; omega)
  have h2 := sq_lt g.R0 (Int.lt_of_le_of_lt g.lo h.hi) (by have := h.R0; omega)
  omega
theorem root_nat (n : Nat) : ∃ R : Int, IsRoot n R := by
  induction n with
  | zero => exact ⟨0, by omega, by simp, by simp⟩
  | succ n ih =>
    obtain ⟨R, h0, h1, h2⟩ := ih
    by_cases hc : (R + 1) * (R + 1) ≤ ((n + 1 : Nat) : Int)
    · refine ⟨R + 1, by omega, hc, ?_⟩
      have : (R + 1 + 1) * (R + 1 + 1) = (R + 1) * (R + 1) + 2 * (R + 1) + 1 := by rw [Int.add_mul (R + 1) 1, Int.mul_add (R + 1) (R + 1) 1]; omega
      omega
    · exact ⟨R, h0, by omega, by omega⟩
theorem root_ex {T : Int} (h : 0 ≤ T) : ∃ R : Int, IsRoot T R := by
  have := root_nat T.toNat
  rwa [Int.toNat_of_nonneg h] at this
/-- What k bits are left to find of the root: R is found so far. -/
structure Rt (T : Int) (k : Nat) (R : Int) : Prop where
  hk : k ≤ 64
  R0 : 0 ≤ R
  dv : ∃ c : Nat, R = 2 ^ k * (c : Int)
  top : R + 2 ^ k ≤ 18446744073709551616
  lo : R * R ≤ T
  hi : T < (R + 2 ^ k) * (R + 2 ^ k)
theorem Rt.start64 {T : Int} (h0 : 0 ≤ T) (h1 : T < 340282366920938463463374607431768211456) : Rt T 64 0 :=
  ⟨by omega, by omega, ⟨0, by simp⟩, by simp, by simpa using h0, by simpa using h1⟩
theorem Rt.start32 {T : Int} (h0 : 0 ≤ T) (h1 : T < 18446744073709551616) : Rt T 32 0 :=
  ⟨by omega, by omega, ⟨0, by simp⟩, by simp, by simpa using h0, by simpa using h1⟩
theorem two_pow_succ (k : Nat) (hk : 0 < k) : (2 : Int) ^ k = 2 * 2 ^ (k - 1) := by
  rw [show k = (k - 1) + 1 by omega, Int.pow_succ, Nat.add_sub_cancel]; omega
theorem Rt.next {T R : Int} {k : Nat} (h : Rt T k R) (hk : 0 < k) :
    bits BinOp.or IntKind.u64 R (IntKind.u64.wrap (2 ^ (k - 1))) = R + 2 ^ (k - 1) ∧ 0 ≤ R + 2 ^ (k - 1) ∧ R + 2 ^ (k - 1) ≤ 18446744073709551615 := by
  have hp : (0 : Int) < 2 ^ (k - 1) := Int.pow_pos (by omega)
  have e := two_pow_succ k hk
  have ht := h.top
  have h0 := h.R0
  refine ⟨?_, by omega, by omega⟩
  rw [wrapu, Int.emod_eq_of_lt (by omega) (by omega)]
  obtain ⟨c, hc⟩ := h.dv
  rw [u64_or R _ h0 (by omega) (by omega) (by omega)]
  have hn : R.toNat = 2 ^ k * c := by
    have : R = ((2 ^ k * c : Nat) : Int) := by rw [hc]; simp [Int.natCast_pow]
    rw [this]; rfl
  have hm : ((2 : Int) ^ (k - 1)).toNat = 2 ^ (k - 1) := by
    have : (2 : Int) ^ (k - 1) = ((2 ^ (k - 1) : Nat) : Int) := by simp [Int.natCast_pow]
    rw [this]; rfl
  rw [hn, hm, or_nat k c _ (Nat.pow_lt_pow_right (by omega) (by omega))]
  have h3 : ((2 ^ k * c + 2 ^ (k - 1) : Nat) : Int) = 2 ^ k * (c : Int) + 2 ^ (k - 1) := by simp [Int.natCast_pow]
  rw [h3, hc]
theorem Rt.yes {T R : Int} {k : Nat} (h : Rt T k R) (hk : 0 < k) (hy : (R + 2 ^ (k - 1)) * (R + 2 ^ (k - 1)) ≤ T) : Rt T (k - 1) (R + 2 ^ (k - 1)) := by
  have hp : (0 : Int) < 2 ^ (k - 1) := Int.pow_pos (by omega)
  have e := two_pow_succ k hk
  have ht := h.top; have h0 := h.R0; have hh := h.hi; have hk' := h.hk
  have e2 : R + 2 ^ (k - 1) + 2 ^ (k - 1) = R + 2 ^ k := by omega
  refine ⟨by omega, by omega, ?_, by omega, hy, by rw [e2]; exact hh⟩
  obtain ⟨c, hc⟩ := h.dv
  refine ⟨2 * c + 1, ?_⟩
  rw [hc, e, show ((2 * c + 1 : Nat) : Int) = 2 * (c : Int) + 1 by omega, Int.mul_add, Int.mul_one, ← Int.mul_assoc, Int.mul_comm 2 (2 ^ (k - 1) : Int)]
theorem Rt.no {T R : Int} {k : Nat} (h : Rt T k R) (hk : 0 < k) (hy : T < (R + 2 ^ (k - 1)) * (R + 2 ^ (k - 1))) : Rt T (k - 1) R := by
  have hp : (0 : Int) < 2 ^ (k - 1) := Int.pow_pos (by omega)
  have e := two_pow_succ k hk
  have ht := h.top; have h0 := h.R0; have hk' := h.hk
  refine ⟨by omega, h0, ?_, by omega, h.lo, hy⟩
  obtain ⟨c, hc⟩ := h.dv
  refine ⟨2 * c, ?_⟩
  rw [hc, e, show ((2 * c : Nat) : Int) = 2 * (c : Int) by omega, ← Int.mul_assoc, Int.mul_comm 2 (2 ^ (k - 1) : Int)]
theorem Rt.done {T R : Int} (h : Rt T 0 R) : IsRoot T R := ⟨h.R0, h.lo, by simpa using h.hi⟩
theorem lessB_pair {T p : Int} (hT : 0 ≤ T) (hp : 0 ≤ p) : lessB (T / 18446744073709551616) (T % 18446744073709551616) (p / 18446744073709551616) (p % 18446744073709551616) = decide (T < p) := by
  unfold lessB
  by_cases h : T < p
  · simp [h]; omega
  · simp [h]; omega
theorem root_lt {T S N : Int} (h : IsRoot T S) (n0 : 0 ≤ N) (hT : T < N * N) : S < N := sq_lt h.R0 (Int.lt_of_le_of_lt h.lo hT) n0
theorem root_ge {T S N : Int} (h : IsRoot T S) (n0 : 0 ≤ N) (hT : ¬ T < N * N) : N ≤ S := by
  have := sq_lt n0 (Int.lt_of_le_of_lt (by omega) h.hi) (by have := h.R0; omega)
  omega
end Go.Proofs.Ytcgilmjhbdehpaa.Fx
/- The root of a fixed number, as a number. -/
namespace Go.Proofs.Ytcgilmjhbdehpaa.Fx
set_option linter.unusedVariables false
/-- The square that a root is of. -/
def under (a : Int) : Int := if a < 0 then 0 else a * 65536
theorem under_nonneg (a : Int) : 0 ≤ under a := by unfold under; split <;> omega
noncomputable def sqrtS (a : Int) : Int := Classical.choose (root_ex (under_nonneg a))
theorem sqrtS_root (a : Int) : IsRoot (under a) (sqrtS a) := Classical.choose_spec (root_ex (under_nonneg a))
theorem sqrtS_of {a S : Int} (h : IsRoot (under a) S) : sqrtS a = S := (sqrtS_root a).uniq h
theorem sqrtS_neg {a : Int} (h : a < 0) : sqrtS a = 0 := sqrtS_of (by unfold under; rw [if_pos h]; exact ⟨by omega, by omega, by omega⟩)
theorem sqrtS_zero : sqrtS 0 = 0 := sqrtS_of ⟨by omega, by decide, by decide⟩
theorem sqrtS_bd {a : Int} (h : I64 a) : 0 ≤ sqrtS a ∧ sqrtS a ≤ 1099511627775 := by
  have hr := sqrtS_root a
  refine ⟨hr.R0, ?_⟩
  have hu : under a < 1208925819614629174706176 := by unfold I64 at h; unfold under; split <;> omega
  have h2 : sqrtS a * sqrtS a < 1099511627776 * 1099511627776 := by have := hr.lo; omega
  have := sq_lt hr.R0 h2 (by omega)
  omega
theorem sqrtS_four : sqrtS 262144 = 131072 := sqrtS_of ⟨by omega, by decide, by decide⟩
theorem mulS_nine : mulS 98304 98304 = 147456 := by decide
end Go.Proofs.Ytcgilmjhbdehpaa.Fx
/- What the plain functions of layer 1 have in common with arithmetic: products and quotients as rounded numbers, their orders, small numbers. -/
namespace Go.Proofs.Ytcgilmjhbdehpaa.Fx
set_option linter.unusedVariables false
theorem neg_div (p d : Int) (hd : 1 ≤ d) : (-p) / d = -(p / d) - (if 0 < p % d then 1 else 0) := by
  have h := Int.mul_ediv_add_emod p d
  have h0 : 0 ≤ p % d := Int.emod_nonneg _ (by omega)
  have h1 : p % d < d := Int.emod_lt_of_pos _ (by omega)
  by_cases hr : 0 < p % d
  · rw [if_pos hr]
    refine ((Int.ediv_emod_unique (r := d - p % d) (by omega)).2 ⟨?_, by omega, by omega⟩).1
    rw [Int.mul_sub, Int.mul_neg, Int.mul_one]; omega
  · rw [if_neg hr]
    refine ((Int.ediv_emod_unique (r := 0) (by omega)).2 ⟨?_, by omega, by omega⟩).1
    rw [Int.mul_sub, Int.mul_neg, Int.mul_zero]; omega
theorem endS_f (p d : Int) (hd : 1 ≤ d) (hp : 0 ≤ p) : endS (p / d) false (p % d) = clampM (p / d) := by
  have h0 : 0 ≤ p / d := Int.ediv_nonneg hp (by omega)
  unfold endS clampM Most; simp; split <;> (try split) <;> omega
theorem endS_t (p d : Int) (hd : 1 ≤ d) (hp : 0 ≤ p) : endS (p / d) true (p % d) = clampM ((-p) / d) := by
  have h0 : 0 ≤ p / d := Int.ediv_nonneg hp (by omega)
  have h1 : 0 ≤ p % d := Int.emod_nonneg _ (by omega)
  rw [neg_div p d hd]
  unfold endS clampM Most
  by_cases hr : 0 < p % d
  · simp [hr]; (repeat' split) <;> omega
  · simp [hr]; (repeat' split) <;> omega
theorem sz_cases {a : Int} (h : I64 a) : (decide (a < 0) = true ∧ sz a = -(cnt a) ∧ cnt a < 0) ∨ (decide (a < 0) = false ∧ sz a = cnt a ∧ 0 ≤ cnt a) := by
  have := cnt_sign h
  unfold sz
  by_cases hn : a < 0
  · left; exact ⟨by simpa using hn, by rw [if_pos (by omega)], by omega⟩
  · right; exact ⟨by simpa using hn, by rw [if_neg (by omega)], by omega⟩
theorem mulS_floor {a b : Int} (ha : I64 a) (hb : I64 b) : mulS a b = clampM (cnt a * cnt b / 65536) := by
  have hp := (prod_bd (sz_bd ha) (sz_bd hb)).1
  unfold mulS
  rcases sz_cases ha with ⟨sa, ea, _⟩ | ⟨sa, ea, _⟩ <;> rcases sz_cases hb with ⟨sb, eb, _⟩ | ⟨sb, eb, _⟩ <;> rw [sa, sb, ea, eb] <;> rw [ea, eb] at hp
  · simp only [bne_self_eq_false]; rw [endS_f _ _ (by omega) hp, Int.neg_mul_neg]
  · rw [show (true != false) = true from rfl, endS_t _ _ (by omega) hp, Int.neg_mul, Int.neg_neg]
  · rw [show (false != true) = true from rfl, endS_t _ _ (by omega) hp, Int.mul_neg, Int.neg_neg]
  · simp only [bne_self_eq_false]; rw [endS_f _ _ (by omega) hp]
/-- A quotient by what is not 0, rounded down. -/
theorem divS_floor {a b : Int} (ha : I64 a) (hb : I64 b) (h0 : b ≠ 0) : divS a b = clampM (if 0 < b then cnt a * 65536 / cnt b else (-(cnt a) * 65536) / (-(cnt b))) := by
  have hp := (prod_bd (sz_bd ha) (by omega : (0 : Int) ≤ 65536 ∧ (65536 : Int) ≤ 9223372036854775807)).1
  have hs := sz_pos hb h0
  have hq := cnt_sign hb
  unfold divS
  rw [if_neg h0]
  rcases sz_cases ha with ⟨sa, ea, _⟩ | ⟨sa, ea, _⟩ <;> rcases sz_cases hb with ⟨sb, eb, _⟩ | ⟨sb, eb, _⟩ <;> rw [sa, sb, ea, eb] <;> rw [ea] at hp <;> rw [eb] at hs
  · simp only [bne_self_eq_false]; rw [endS_f _ _ hs hp, if_neg (by omega)]
  · rw [show (true != false) = true from rfl, endS_t _ _ hs hp, if_pos (by omega), Int.neg_mul, Int.neg_neg]
  · rw [show (false != true) = true from rfl, endS_t _ _ hs hp, if_neg (by omega), Int.neg_mul]
  · simp only [bne_self_eq_false]; rw [endS_f _ _ hs hp, if_pos (by omega)]
theorem clamp_mono {x y : Int} (h : x ≤ y) : clampM x ≤ clampM y := by unfold clampM Most; (repeat' split) <;> omega
theorem clamp_bd (x : Int) : -9223372036854775807 ≤ clampM x ∧ clampM x ≤ 9223372036854775807 := by unfold clampM Most; (repeat' split) <;> omega
theorem clamp_in {x : Int} (h : -9223372036854775807 ≤ x ∧ x ≤ 9223372036854775807) : clampM x = x := by unfold clampM Most; (repeat' split) <;> omega
theorem i64_bd {x : Int} (h : -9223372036854775807 ≤ x ∧ x ≤ 9223372036854775807) : I64 x := by unfold I64; omega
theorem mul_i64 {a b : Int} (ha : I64 a) (hb : I64 b) : I64 (mulS a b) := by rw [mulS_floor ha hb]; exact i64_bd (clamp_bd _)
theorem div_bd {a b : Int} (ha : I64 a) (hb : I64 b) : -9223372036854775807 ≤ divS a b ∧ divS a b ≤ 9223372036854775807 := by
  by_cases h0 : b = 0
  · unfold divS; rw [if_pos h0]; (repeat' split) <;> omega
  · rw [divS_floor ha hb h0]; exact clamp_bd _
theorem div_i64 {a b : Int} (ha : I64 a) (hb : I64 b) : I64 (divS a b) := i64_bd (div_bd ha hb)
theorem add_i64 (a b : Int) : I64 (addS a b) := i64_bd (clamp_bd _)
theorem sub_i64 (a b : Int) : I64 (subS a b) := i64_bd (clamp_bd _)
theorem sqrt_i64 {a : Int} (h : I64 a) : I64 (sqrtS a) := by have := sqrtS_bd h; unfold I64; omega
theorem cnt_in {x : Int} (h : -9223372036854775807 ≤ x) : cnt x = x := by unfold cnt Most; rw [if_neg (by omega)]
theorem cmp_bd (a b : Int) : -1 ≤ cmpS a b ∧ cmpS a b ≤ 1 := by unfold cmpS; (repeat' split) <;> omega
theorem cmp_flip (a b : Int) : cmpS a b = -cmpS b a := by unfold cmpS; (repeat' split) <;> omega
theorem cmp_self (a : Int) : cmpS a a = 0 := by unfold cmpS; rw [if_neg (by omega), if_neg (by omega)]
theorem cmp_le {a b : Int} : cmpS a b ≤ 0 ↔ cnt a ≤ cnt b := by unfold cmpS; (repeat' split) <;> omega
theorem cmp_ge {a b : Int} : 0 ≤ cmpS a b ↔ cnt b ≤ cnt a := by unfold cmpS; (repeat' split) <;> omega
theorem cmp_eq {a b : Int} (h : cnt a = cnt b) : cmpS a b = 0 := by unfold cmpS; rw [if_neg (by omega), if_neg (by omega)]
theorem add_le {a b c : Int} (h : cnt a ≤ cnt b) : cmpS (addS a c) (addS b c) ≤ 0 := by
  have h1 := clamp_bd (cnt a + cnt c); have h2 := clamp_bd (cnt b + cnt c)
  rw [cmp_le, addS, addS, cnt_in h1.1, cnt_in h2.1]
  exact clamp_mono (by omega)
theorem neg_ge {a b : Int} (ha : I64 a) (hb : I64 b) (h : cnt a ≤ cnt b) : 0 ≤ cmpS (negS a) (negS b) := by
  have h1 := cnt_bd ha; have h2 := cnt_bd hb
  rw [cmp_ge, negS, negS, cnt_in (x := -cnt b) (by omega), cnt_in (x := -cnt a) (by omega)]; omega
theorem one_i64 : I64 65536 := by unfold I64; omega
theorem cnt_one : cnt 65536 = 65536 := by decide
theorem mul_one {a : Int} (ha : I64 a) : mulS a 65536 = cnt a := by
  have h1 := cnt_bd ha
  rw [mulS_floor ha one_i64, cnt_one, Int.mul_ediv_cancel _ (by omega)]; exact clamp_in h1
theorem div_one {a : Int} (ha : I64 a) : divS a 65536 = cnt a := by
  have h1 := cnt_bd ha
  rw [divS_floor ha one_i64 (by omega), if_pos (by omega), cnt_one, Int.mul_ediv_cancel _ (by omega)]; exact clamp_in h1
theorem cmp_mul_one {a : Int} (ha : I64 a) : cmpS (mulS a 65536) a = 0 := by
  have h1 := cnt_bd ha
  exact cmp_eq (by rw [mul_one ha, cnt_in h1.1])
theorem cmp_div_one {a : Int} (ha : I64 a) : cmpS (divS a 65536) a = 0 := by
  have h1 := cnt_bd ha
  exact cmp_eq (by rw [div_one ha, cnt_in h1.1])
theorem add_comm (a b : Int) : addS a b = addS b a := by unfold addS; rw [Int.add_comm]
theorem mul_comm {a b : Int} (ha : I64 a) (hb : I64 b) : mulS a b = mulS b a := by rw [mulS_floor ha hb, mulS_floor hb ha, Int.mul_comm]
theorem mul_le {a b k : Int} (ha : I64 a) (hb : I64 b) (hk : I64 k) (k0 : 0 < k) (h : cnt a ≤ cnt b) : cmpS (mulS a k) (mulS b k) ≤ 0 := by
  have h1 := clamp_bd (cnt a * cnt k / 65536); have h2 := clamp_bd (cnt b * cnt k / 65536)
  have hp := cnt_pos hk
  rw [cmp_le, mulS_floor ha hk, mulS_floor hb hk, cnt_in h1.1, cnt_in h2.1]
  exact clamp_mono (Int.ediv_le_ediv (by omega) (Int.mul_le_mul_of_nonneg_right h (by omega)))
theorem div_le {a b k : Int} (ha : I64 a) (hb : I64 b) (hk : I64 k) (k0 : 0 < k) (h : cnt a ≤ cnt b) : cmpS (divS a k) (divS b k) ≤ 0 := by
  have hp := cnt_pos hk
  have h1 := div_bd ha hk; have h2 := div_bd hb hk
  rw [cmp_le, cnt_in h1.1, cnt_in h2.1, divS_floor ha hk (by omega), divS_floor hb hk (by omega), if_pos k0, if_pos k0]
  exact clamp_mono (Int.ediv_le_ediv (by omega) (by omega))
theorem sqrt_low {x : Int} (h : x ≤ 0) : sqrtS x = 0 := by
  rcases Int.lt_or_eq_of_le h with h | h
  · exact sqrtS_neg h
  · rw [h]; exact sqrtS_zero
theorem under_le {a b : Int} (h : cnt a ≤ cnt b) (ha : I64 a) (hb : I64 b) : under a ≤ under b := by
  have := cnt_sign ha; have := cnt_sign hb
  unfold under cnt Most at *; repeat' split
  all_goals (try omega)
  all_goals (repeat' split at h) <;> omega
theorem sqrt_le {a b : Int} (ha : I64 a) (hb : I64 b) (h : cnt a ≤ cnt b) : cmpS (sqrtS a) (sqrtS b) ≤ 0 := by
  have h1 := sqrtS_bd ha; have h2 := sqrtS_bd hb
  rw [cmp_le, cnt_in (by omega), cnt_in (by omega)]
  have r1 := sqrtS_root a; have r2 := sqrtS_root b
  have hu := under_le h ha hb
  have := sq_lt r1.R0 (b := sqrtS b + 1) (by have := r1.lo; have := r2.hi; omega) (by omega)
  omega
theorem mul_small {a b : Int} (ha : -1073741824 < a ∧ a < 1073741824) (hb : -1073741824 < b ∧ b < 1073741824) :
    (-1152921504606846976 ≤ a * b ∧ a * b ≤ 1152921504606846976) ∧ mulS a b = a * b / 65536 := by
  have key : -1152921504606846976 ≤ a * b ∧ a * b ≤ 1152921504606846976 := by
    have h1 : (a.natAbs * b.natAbs : Nat) ≤ 1073741824 * 1073741824 := Nat.mul_le_mul (by omega) (by omega)
    have h2 : (a * b).natAbs = a.natAbs * b.natAbs := Int.natAbs_mul a b
    omega
  refine ⟨key, ?_⟩
  rw [mulS_floor (by unfold I64; omega) (by unfold I64; omega), cnt_in (by omega), cnt_in (by omega)]
  exact clamp_in (by omega)
end Go.Proofs.Ytcgilmjhbdehpaa.Fx
/- Small numbers: products, quotients, halves. -/
namespace Go.Proofs.Ytcgilmjhbdehpaa.Fx
set_option linter.unusedVariables false
theorem tmod_bd (x : Int) (n : Int) (hn : 0 < n) : -n < x.tmod n ∧ x.tmod n < n := by
  constructor
  · have h := Int.tmod_nonneg n (a := -x)
    have h1 : (-x).tmod n = -(x.tmod n) := Int.neg_tmod x n
    by_cases hx : 0 ≤ x
    · have := Int.tmod_nonneg n hx; omega
    · have h2 := Int.tmod_lt_of_pos (-x) hn; omega
  · exact Int.tmod_lt_of_pos x hn
theorem i64_small {x n : Int} (h : -n < x ∧ x < n) (hn : n ≤ 9223372036854775807) : I64 x := by unfold I64; omega
/-- The quotient of small numbers, by Go's own quotient. -/
theorem div_down {X Y : Int} (hX : -1073741824 < X ∧ X < 1073741824) (hY : -1073741824 < Y ∧ Y < 1073741824) (h0 : Y ≠ 0) :
    (-70368744177664 ≤ (X * 65536).tdiv Y ∧ (X * 65536).tdiv Y ≤ 70368744177664) ∧
    divS X Y = (X * 65536).tdiv Y - (if (X * 65536).tmod Y ≠ 0 ∧ ((X < 0) ↔ ¬ (Y < 0)) then 1 else 0) := by
  have key : -70368744177664 ≤ (X * 65536).tdiv Y ∧ (X * 65536).tdiv Y ≤ 70368744177664 := by
    have h1 : ((X * 65536).tdiv Y).natAbs = (X * 65536).natAbs / Y.natAbs := Int.natAbs_tdiv _ _
    have h2 : (X * 65536).natAbs / Y.natAbs ≤ (X * 65536).natAbs := Nat.div_le_self _ _
    omega
  refine ⟨key, ?_⟩
  rw [divS_floor (i64_small hX (by omega)) (i64_small hY (by omega)) h0, cnt_in (by omega), cnt_in (by omega)]
  have hs : (X * 65536) = Y * (X * 65536).tdiv Y + (X * 65536).tmod Y := (Int.mul_tdiv_add_tmod _ _).symm
  generalize hT : (X * 65536).tdiv Y = T at *
  generalize hR : (X * 65536).tmod Y = R at *
  have hRs : (0 ≤ X → 0 ≤ R) ∧ (X ≤ 0 → R ≤ 0) := by
    constructor
    · intro h; rw [← hR]; exact Int.tmod_nonneg _ (by omega)
    · intro h
      have h3 : (-(X * 65536)).tmod Y = -R := by rw [Int.neg_tmod, hR]
      have := Int.tmod_nonneg Y (a := -(X * 65536)) (by omega)
      omega
  have hRb : -(Y.natAbs : Int) < R ∧ R < Y.natAbs := by
    have h4 : R.natAbs < Y.natAbs := by rw [← hR, Int.natAbs_tmod]; exact Nat.mod_lt _ (by omega)
    omega
  clear hT hR
  by_cases hy : 0 < Y
  · rw [if_pos hy]
    by_cases hc : R ≠ 0 ∧ ((X < 0) ↔ ¬ (Y < 0))
    · rw [if_pos hc]
      have : X * 65536 / Y = T - 1 := by
        refine ((Int.ediv_emod_unique (r := Y + R) hy).2 ⟨?_, by omega, by omega⟩).1
        rw [Int.mul_sub, Int.mul_one]; omega
      rw [this]; exact clamp_in (by omega)
    · rw [if_neg hc]
      have : X * 65536 / Y = T := by
        refine ((Int.ediv_emod_unique (r := R) hy).2 ⟨by omega, by omega, by omega⟩).1
      rw [this, Int.sub_zero]; exact clamp_in (by omega)
  · rw [if_neg hy]
    have hs2 : -X * 65536 = -Y * T - R := by rw [Int.neg_mul, Int.neg_mul]; omega
    by_cases hc : R ≠ 0 ∧ ((X < 0) ↔ ¬ (Y < 0))
    · rw [if_pos hc]
      have : -X * 65536 / -Y = T - 1 := by
        refine ((Int.ediv_emod_unique (r := -Y - R) (by omega)).2 ⟨?_, by omega, by omega⟩).1
        rw [Int.mul_sub, Int.mul_one]; omega
      rw [this]; exact clamp_in (by omega)
    · rw [if_neg hc]
      have : -X * 65536 / -Y = T := by
        refine ((Int.ediv_emod_unique (r := -R) (by omega)).2 ⟨by omega, by omega, by omega⟩).1
      rw [this, Int.sub_zero]; exact clamp_in (by omega)
open Go.RowKit in
theorem down_wrap {X Y : Int} (hX : -1073741824 < X ∧ X < 1073741824) (hY : -1073741824 < Y ∧ Y < 1073741824) (h0 : Y ≠ 0) :
    wrap64 ((X * 65536).tdiv Y) = (X * 65536).tdiv Y ∧ wrap64 (wrap64 ((X * 65536).tdiv Y) - 1) = (X * 65536).tdiv Y - 1 := by
  have k := (div_down hX hY h0).1
  have e : wrap64 ((X * 65536).tdiv Y) = (X * 65536).tdiv Y := IntWalk.wrap64_in _ (by omega)
  rw [e]
  exact ⟨rfl, IntWalk.wrap64_in _ (by omega)⟩
open Go.RowKit in
theorem down1 {X Y : Int} (hX : -1073741824 < X ∧ X < 1073741824) (hY : -1073741824 < Y ∧ Y < 1073741824) (h0 : Y ≠ 0) (h : (X * 65536).tmod Y = 0) : (divS X Y != wrap64 ((X * 65536).tdiv Y)) = false := by
  rw [(down_wrap hX hY h0).1, (div_down hX hY h0).2, if_neg (fun c => c.1 h)]; simp
open Go.RowKit in
theorem down2 {X Y : Int} (hX : -1073741824 < X ∧ X < 1073741824) (hY : -1073741824 < Y ∧ Y < 1073741824) (h0 : Y ≠ 0) (h : ((X * 65536).tmod Y != 0) = true ∧ (!decide (X * 65536 < 0) == decide (Y < 0)) = true) : (divS X Y != wrap64 (wrap64 ((X * 65536).tdiv Y) - 1)) = false := by
  obtain ⟨h1, h2⟩ := h
  rw [(down_wrap hX hY h0).2, (div_down hX hY h0).2, if_pos ⟨by simpa using h1, by
    by_cases a : X < 0
    · have a' : X * 65536 < 0 := by omega
      simp [a, a'] at h2 ⊢; omega
    · have a' : ¬ X * 65536 < 0 := by omega
      simp [a, a'] at h2 ⊢; omega⟩]
  simp
open Go.RowKit in
theorem down3 {X Y : Int} (hX : -1073741824 < X ∧ X < 1073741824) (hY : -1073741824 < Y ∧ Y < 1073741824) (h0 : Y ≠ 0) (h : ((X * 65536).tmod Y != 0) = false ∨ (!decide (X * 65536 < 0) == decide (Y < 0)) = false) : (divS X Y != wrap64 ((X * 65536).tdiv Y)) = false := by
  rw [(down_wrap hX hY h0).1, (div_down hX hY h0).2, if_neg (fun c => by
    rcases h with h | h
    · exact c.1 (by simpa using h)
    · have c2 := c.2
      by_cases a : X < 0
      · have a' : X * 65536 < 0 := by omega
        simp [a, a'] at h c2; omega
      · have a' : ¬ X * 65536 < 0 := by omega
        simp [a, a'] at h c2; omega)]
  simp
/-- Halves, and what is turned round. -/
theorem halves_back {X : Int} (hX : -1099511627776 < X ∧ X < 1099511627776) :
    mulS X 131072 = 2 * X ∧ divS (2 * X) 131072 = X ∧ mulS X (-65536) = -X ∧ divS X (-65536) = -X := by
  have i0 : I64 X := i64_small hX (by omega)
  have i1 : I64 131072 := by unfold I64; omega
  have i2 : I64 (2 * X) := by unfold I64; omega
  have i3 : I64 (-65536) := by unfold I64; omega
  refine ⟨?_, ?_, ?_, ?_⟩
  · rw [mulS_floor i0 i1, cnt_in (x := X) (by omega), cnt_in (x := 131072) (by omega), show X * 131072 / 65536 = 2 * X by omega]; exact clamp_in (by omega)
  · rw [divS_floor i2 i1 (by omega), if_pos (by omega), cnt_in (x := 2 * X) (by omega), cnt_in (x := 131072) (by omega), show 2 * X * 65536 / 131072 = X by omega]; exact clamp_in (by omega)
  · rw [mulS_floor i0 i3, cnt_in (x := X) (by omega), cnt_in (x := -65536) (by omega), show X * -65536 / 65536 = -X by omega]; exact clamp_in (by omega)
  · rw [divS_floor i0 i3 (by omega), if_neg (by omega), cnt_in (x := X) (by omega), cnt_in (x := -65536) (by omega), show -X * 65536 / - -65536 = -X by rw [show (- -65536 : Int) = 65536 from rfl]; omega]; exact clamp_in (by omega)
theorem quo_back {X Y : Int} (hX : -1099511627776 < X ∧ X < 1099511627776) (hY : 0 < Y ∧ Y < 1048576) :
    (-72057594037927936 ≤ divS X Y ∧ divS X Y ≤ 72057594037927936) ∧ divS X Y * Y ≤ X * 65536 ∧ X * 65536 - divS X Y * Y < Y ∧ -72057594037927936 - 1048576 ≤ divS X Y * Y := by
  have i0 : I64 X := i64_small hX (by omega)
  have i1 : I64 Y := by unfold I64; omega
  have e : divS X Y = X * 65536 / Y := by
    rw [divS_floor i0 i1 (by omega), if_pos hY.1, cnt_in (x := X) (by omega), cnt_in (x := Y) (by omega)]
    have h1 : (X * 65536 / Y).natAbs ≤ (X * 65536).natAbs := Int.natAbs_ediv_le_natAbs _ _
    exact clamp_in (by omega)
  have h1 : (X * 65536 / Y).natAbs ≤ (X * 65536).natAbs := Int.natAbs_ediv_le_natAbs _ _
  have h2 := Int.mul_ediv_add_emod (X * 65536) Y
  have h3 : 0 ≤ X * 65536 % Y := Int.emod_nonneg _ (by omega)
  have h4 : X * 65536 % Y < Y := Int.emod_lt_of_pos _ hY.1
  rw [e, Int.mul_comm _ Y]
  generalize X * 65536 / Y = D at *
  generalize Y * D = P at *
  omega
end Go.Proofs.Ytcgilmjhbdehpaa.Fx
