/- Plain words of layer 8: buildings. -/
import Derived.Test.YtjjodfdmbiebnaaDoorGp
import Derived.Test.YtjjodfdmbiebnaaDoorArr
namespace Go.Proofs.YtjjodfdmbiebnaaDoor
open Go.RowKit
set_option linter.unusedVariables false
structure Bd where
  i : Int
  o : Int
  x : Int
  y : Int
  w : Int
  h : Int
instance : Inhabited Bd := ⟨⟨0, 0, 0, 0, 0, 0⟩⟩
def Bd.v (b : Bd) : Value := .agg #[.int .i64 b.i, .int .i64 b.o, .int .i64 b.x, .int .i64 b.y, .int .i64 b.w, .int .i64 b.h]
def Bd.c (b : Bd) : Nat → Int
  | 0 => b.i
  | 1 => b.o
  | 2 => b.x
  | 3 => b.y
  | 4 => b.w
  | _ => b.h
/-- An ID, an owner, sides that may be. -/
def fmB (b : Bd) : Bool := decide (1 ≤ b.i ∧ b.i ≤ 1099511627776 ∧ 1 ≤ b.o ∧ b.o ≤ 8 ∧ 1 ≤ b.w ∧ b.w ≤ 4 ∧ 1 ≤ b.h ∧ b.h ≤ 4)
structure FmOk (b : Bd) : Prop where
  i1 : 1 ≤ b.i
  i2 : b.i ≤ 1099511627776
  o1 : 1 ≤ b.o
  o2 : b.o ≤ 8
  w1 : 1 ≤ b.w
  w2 : b.w ≤ 4
  h1 : 1 ≤ b.h
  h2 : b.h ≤ 4
theorem fmB_iff {b : Bd} : fmB b = true ↔ FmOk b := by
  unfold fmB; rw [decide_eq_true_iff]
  exact ⟨fun ⟨a, b, c, d, e, f, g, h⟩ => ⟨a, b, c, d, e, f, g, h⟩, fun ⟨a, b, c, d, e, f, g, h⟩ => ⟨a, b, c, d, e, f, g, h⟩⟩
/-- All its tiles on the ground. -/
def inB (W H : Int) (b : Bd) : Bool := decide (0 ≤ b.x ∧ b.x ≤ W - b.w ∧ 0 ≤ b.y ∧ b.y ≤ H - b.h)
structure InOk (W H : Int) (b : Bd) : Prop where
  x1 : 0 ≤ b.x
  x2 : b.x ≤ W - b.w
  y1 : 0 ≤ b.y
  y2 : b.y ≤ H - b.h
theorem inB_iff {W H : Int} {b : Bd} : inB W H b = true ↔ InOk W H b := by
  unfold inB; rw [decide_eq_true_iff]
  exact ⟨fun ⟨a, b, c, d⟩ => ⟨a, b, c, d⟩, fun ⟨a, b, c, d⟩ => ⟨a, b, c, d⟩⟩
/-- A tile of it. -/
def hsB (W : Int) (b : Bd) (t : Int) : Bool := decide (b.x ≤ t % W ∧ t % W < b.x + b.w ∧ b.y ≤ t / W ∧ t / W < b.y + b.h)
theorem hsB_iff {W t : Int} {b : Bd} : hsB W b t = true ↔ (b.x ≤ t % W ∧ t % W < b.x + b.w ∧ b.y ≤ t / W ∧ t / W < b.y + b.h) := by unfold hsB; rw [decide_eq_true_iff]
/-- The k-th of its tiles. -/
def undAt (W : Int) (b : Bd) (k : Nat) : Int := b.x + ((k % b.w.toNat : Nat) : Int) + W * (b.y + ((k / b.w.toNat : Nat) : Int))
def undL (W : Int) (b : Bd) : List Int := (List.range (b.w.toNat * b.h.toNat)).map (undAt W b)
theorem undL_len (W : Int) (b : Bd) : (undL W b).length = b.w.toNat * b.h.toNat := by unfold undL; simp
theorem undL_getD (W : Int) (b : Bd) (k : Nat) (hk : k < b.w.toNat * b.h.toNat) : (undL W b).getD k 0 = undAt W b k := by unfold undL; simp [List.getD, hk]
theorem und_md {W H : Int} {b : Bd} (f : FmOk b) (i : InOk W H b) {k : Nat} (hk : k < b.w.toNat * b.h.toNat) :
    undAt W b k % W = b.x + ((k % b.w.toNat : Nat) : Int) ∧ undAt W b k / W = b.y + ((k / b.w.toNat : Nat) : Int) ∧ 0 ≤ undAt W b k ∧ undAt W b k < W * H ∧
    ((k % b.w.toNat : Nat) : Int) < b.w ∧ ((k / b.w.toNat : Nat) : Int) < b.h ∧ 0 ≤ ((k % b.w.toNat : Nat) : Int) ∧ 0 ≤ ((k / b.w.toNat : Nat) : Int) := by
  obtain ⟨_, _, _, _, w1, w2, h1, h2⟩ := f
  obtain ⟨x1, x2, y1, y2⟩ := i
  have m1 : k % b.w.toNat < b.w.toNat := Nat.mod_lt _ (by omega)
  have d1 : k / b.w.toNat < b.h.toNat := Nat.div_lt_of_lt_mul hk
  have e1 : ((k % b.w.toNat : Nat) : Int) < b.w := by omega
  have e2 : ((k / b.w.toNat : Nat) : Int) < b.h := by omega
  have a0 : 0 ≤ ((k % b.w.toNat : Nat) : Int) := Int.natCast_nonneg _
  have d0 : 0 ≤ ((k / b.w.toNat : Nat) : Int) := Int.natCast_nonneg _
  generalize hA : ((k % b.w.toNat : Nat) : Int) = A at *
  generalize hD : ((k / b.w.toNat : Nat) : Int) = D at *
  have em : (b.x + A + W * (b.y + D)) % W = b.x + A := by rw [Int.add_mul_emod_self_left]; exact Int.emod_eq_of_lt (by omega) (by omega)
  have ed : (b.x + A + W * (b.y + D)) / W = b.y + D := by rw [Int.add_mul_ediv_left _ _ (by omega), Int.ediv_eq_zero_of_lt (by omega) (by omega)]; omega
  have p0 : 0 ≤ W * (b.y + D) := Int.mul_nonneg (by omega) (by omega)
  have p1 : W * (b.y + D) ≤ W * (H - 1) := Int.mul_le_mul_of_nonneg_left (by omega) (by omega)
  have p2 : W * (H - 1) = W * H - W := by rw [Int.mul_sub, Int.mul_one]
  unfold undAt
  rw [hA, hD]
  exact ⟨em, ed, by omega, by omega, e1, e2, a0, d0⟩
theorem und_mem {W H : Int} {b : Bd} (f : FmOk b) (i : InOk W H b) {t : Int} (t0 : 0 ≤ t) : t ∈ undL W b ↔ hsB W b t = true := by
  rw [hsB_iff]
  constructor
  · intro h
    obtain ⟨k, hk, rfl⟩ := List.mem_map.1 h
    obtain ⟨h1, h2, _, _, h5, h6, h7, h8⟩ := und_md f i (List.mem_range.1 hk)
    omega
  · rintro ⟨h1, h2, h3, h4⟩
    have hw := f.w1
    have hh := f.h1
    obtain ⟨A, hA⟩ : ∃ A : Nat, t % W - b.x = A := ⟨(t % W - b.x).toNat, by omega⟩
    obtain ⟨D, hD⟩ : ∃ D : Nat, t / W - b.y = D := ⟨(t / W - b.y).toNat, by omega⟩
    have a1 : A < b.w.toNat := by omega
    have d1 : D < b.h.toNat := by omega
    have hk : b.w.toNat * D + A < b.w.toNat * b.h.toNat := by
      have := Nat.mul_le_mul_left b.w.toNat (show D + 1 ≤ b.h.toNat by omega)
      rw [Nat.mul_add, Nat.mul_one] at this
      omega
    refine List.mem_map.2 ⟨b.w.toNat * D + A, List.mem_range.2 hk, ?_⟩
    unfold undAt
    rw [Nat.mul_add_mod, Nat.mod_eq_of_lt a1, Nat.mul_add_div (by omega), Nat.div_eq_of_lt a1, Nat.add_zero]
    have := Int.emod_add_mul_ediv t W
    rw [← hA, ← hD, show b.x + (t % W - b.x) = t % W by omega, show b.y + (t / W - b.y) = t / W by omega]
    omega
theorem und_once {W H : Int} {b : Bd} (f : FmOk b) (i : InOk W H b) {k : Nat} (hk : k < b.w.toNat * b.h.toNat) : undAt W b k ∉ (undL W b).take k := by
  intro hm
  obtain ⟨j, hj, he⟩ := List.mem_iff_getElem.1 hm
  rw [List.length_take, undL_len] at hj
  rw [List.getElem_take] at he
  have hj' : j < b.w.toNat * b.h.toNat := by omega
  have he' : undAt W b j = undAt W b k := by rw [← he]; unfold undL; simp
  obtain ⟨a1, a2, _⟩ := und_md f i hk
  obtain ⟨c1, c2, _⟩ := und_md f i hj'
  rw [he'] at c1 c2
  have e1 : k % b.w.toNat = j % b.w.toNat := by omega
  have e2 : k / b.w.toNat = j / b.w.toNat := by omega
  have := Nat.mod_add_div k b.w.toNat
  have := Nat.mod_add_div j b.w.toNat
  rw [e1, e2] at *
  omega
/-- Plain tiles or roads alone under it. -/
def frB (W : Int) (xs : List Int) (b : Bd) : Bool := (undL W b).all fun t => decide (xs.getD t.toNat 0 ≤ 1)
/-- A tile of both. -/
def mtB (a b : Bd) : Bool := decide (a.x < b.x + b.w ∧ b.x < a.x + a.w ∧ a.y < b.y + b.h ∧ b.y < a.y + a.h)
theorem mtB_iff {a b : Bd} : mtB a b = true ↔ (a.x < b.x + b.w ∧ b.x < a.x + a.w ∧ a.y < b.y + b.h ∧ b.y < a.y + a.h) := by unfold mtB; rw [decide_eq_true_iff]
theorem mt_comm (a b : Bd) : mtB a b = mtB b a := by
  rw [Bool.eq_iff_iff, mtB_iff, mtB_iff]; omega
theorem mt_of {W t : Int} {a b : Bd} (ha : hsB W a t = true) (hb : hsB W b t = true) : mtB a b = true := by
  rw [hsB_iff] at ha hb; rw [mtB_iff]; omega
theorem mt_tile {W H : Int} {a b : Bd} (fa : FmOk a) (ia : InOk W H a) (fb : FmOk b) (ib : InOk W H b) (h : mtB a b = true) : ∃ k, k < b.w.toNat * b.h.toNat ∧ hsB W a (undAt W b k) = true := by
  rw [mtB_iff] at h
  obtain ⟨h1, h2, h3, h4⟩ := h
  have fa1 := fa.w1; have fa2 := fa.h1; have fb1 := fb.w1; have fb2 := fb.h1
  have ia1 := ia.x1; have ia2 := ia.x2; have ia3 := ia.y1; have ia4 := ia.y2
  have ib1 := ib.x1; have ib2 := ib.x2; have ib3 := ib.y1; have ib4 := ib.y2
  have hx : ∃ X, a.x ≤ X ∧ X < a.x + a.w ∧ b.x ≤ X ∧ X < b.x + b.w := ⟨max a.x b.x, by omega, by omega, by omega, by omega⟩
  have hy : ∃ Y, a.y ≤ Y ∧ Y < a.y + a.h ∧ b.y ≤ Y ∧ Y < b.y + b.h := ⟨max a.y b.y, by omega, by omega, by omega, by omega⟩
  obtain ⟨X, x1, x2, x3, x4⟩ := hx
  obtain ⟨Y, y1, y2, y3, y4⟩ := hy
  have em : (X + W * Y) % W = X := by rw [Int.add_mul_emod_self_left]; exact Int.emod_eq_of_lt (by omega) (by omega)
  have ed : (X + W * Y) / W = Y := by rw [Int.add_mul_ediv_left _ _ (by omega), Int.ediv_eq_zero_of_lt (by omega) (by omega)]; omega
  have t0 : 0 ≤ X + W * Y := by have := Int.mul_nonneg (show 0 ≤ W by omega) (show 0 ≤ Y by omega); omega
  have hb : hsB W b (X + W * Y) = true := hsB_iff.2 (by rw [em, ed]; omega)
  have ha : hsB W a (X + W * Y) = true := hsB_iff.2 (by rw [em, ed]; omega)
  obtain ⟨k, hk, e⟩ := List.mem_map.1 ((und_mem fb ib t0).2 hb)
  exact ⟨k, List.mem_range.1 hk, by rw [e]; exact ha⟩
/-- IDs rising. -/
def ascB (bs : List Bd) : Prop := ∀ k, k + 1 < bs.length → (bs.getD k default).i < (bs.getD (k + 1) default).i
/-- Does any of them cover the tile? -/
def cvB (W : Int) (bs : List Bd) (t : Int) : Bool := bs.any fun b => hsB W b t
/-- A ground and buildings on it that may be. -/
structure MOk (W H : Int) (n : Nat) (xs : List Int) (bs : List Bd) : Prop where
  g : GOk W H n xs
  len : bs.length ≤ 256
  asc : ascB bs
  fm : ∀ b ∈ bs, FmOk b
  ins : ∀ b ∈ bs, InOk W H b
  fr : ∀ b ∈ bs, frB W xs b = true
  ap : ∀ i j, j < i → i < bs.length → mtB (bs.getD i default) (bs.getD j default) = false
theorem getD_memB {bs : List Bd} {k : Nat} (h : k < bs.length) : bs.getD k default ∈ bs := by
  have : bs.getD k default = bs[k] := by simp [List.getD, List.getElem?_eq_getElem h]
  rw [this]; exact List.getElem_mem h
theorem mem_getDB {bs : List Bd} {b : Bd} (h : b ∈ bs) : ∃ k, k < bs.length ∧ bs.getD k default = b := by
  obtain ⟨k, hk, e⟩ := List.mem_iff_getElem.1 h
  exact ⟨k, hk, by rw [← e]; simp [List.getD, List.getElem?_eq_getElem hk]⟩
theorem take_succB {bs : List Bd} {k : Nat} (h : k < bs.length) : bs.take (k + 1) = bs.take k ++ [bs.getD k default] := by
  rw [List.take_succ_eq_append_getElem h]; simp [List.getD, List.getElem?_eq_getElem h]
theorem getD_takeB {bs : List Bd} {k j : Nat} (h : j < k) : (bs.take k).getD j default = bs.getD j default := by
  simp [List.getD, h]
theorem cvB_snoc (W : Int) (bs : List Bd) (b : Bd) (t : Int) : cvB W (bs ++ [b]) t = (cvB W bs t || hsB W b t) := by unfold cvB; simp
end Go.Proofs.YtjjodfdmbiebnaaDoor
