import Derived.Test.YtjjodfdmbiebnaaRa
import Derived.IntWalk
import Derived.Below
import Derived.BigGuardPart
import Derived.Deep.QuietTactic
import Derived.BigQuiet
import Derived.Deep.RegionWith
import Derived.Deep.RegionHeld3
import Derived.Deep.DeepCutAuto
import Derived.Deep.DeepFit
import Derived.Outline
import Derived.ProofKit
import Derived.OpenShut
import Derived.ShutString
import Derived.ChangeOld
import Derived.Deep.Slices
import Derived.Deep.Fields
import Derived.ChangeSame
import Derived.Test.YtjjodfdmbiebnaaRows
import Derived.Test.YtjjodfdmbiebnaaChecked
/- Plain words of layer 8: buildings. -/
namespace Go.Proofs.Ytjjodfdmbiebnaa
open Go.RowKit
set_option linter.unusedVariables false
structure Bd where
  i : Int
  o : Int
  x : Int
  y : Int
  w : Int
  h : Int
instance : Inhabited Bd := ⟨⟨0, 0, 0, 0, 0, 0⟩⟩
def Bd.v (b : Bd) : Value := .agg #[.int .i64 b.i, .int .i64 b.o, .int .i64 b.x, .int .i64 b.y, .int .i64 b.w, .int .i64 b.h]
def Bd.c (b : Bd) : Nat → Int
  | 0 => b.i
  | 1 => b.o
  | 2 => b.x
  | 3 => b.y
  | 4 => b.w
  | _ => b.h
/-- An ID, an owner, sides that may be. -/
def fmB (b : Bd) : Bool := decide (1 ≤ b.i ∧ b.i ≤ 1099511627776 ∧ 1 ≤ b.o ∧ b.o ≤ 8 ∧ 1 ≤ b.w ∧ b.w ≤ 4 ∧ 1 ≤ b.h ∧ b.h ≤ 4)
structure FmOk (b : Bd) : Prop where
  i1 : 1 ≤ b.i
  i2 : b.i ≤ 1099511627776
  o1 : 1 ≤ b.o
  o2 : b.o ≤ 8
  w1 : 1 ≤ b.w
  w2 : b.w ≤ 4
  h1 : 1 ≤ b.h
  h2 : b.h ≤ 4
theorem fmB_iff {b : Bd} : fmB b = true ↔ FmOk b := by
  unfold fmB; rw [decide_eq_true_iff]
  exact ⟨fun ⟨a, b, c, d, e, f, g, h⟩ => ⟨a, b, c, d, e, f, g, h⟩, fun ⟨a, b, c, d, e, f, g, h⟩ => ⟨a, b, c, d, e, f, g, h⟩⟩
/-- All its tiles on the ground. -/
def inB (W H : Int) (b : Bd) : Bool := decide (0 ≤ b.x ∧ b.x ≤ W - b.w ∧ 0 ≤ b.y ∧ b.y ≤ H - b.h)
structure InOk (W H : Int) (b : Bd) : Prop where
  x1 : 0 ≤ b.x
  x2 : b.x ≤ W - b.w
  y1 : 0 ≤ b.y
  y2 : b.y ≤ H - b.h
theorem inB_iff {W H : Int} {b : Bd} : inB W H b = true ↔ InOk W H b := by
  unfold inB; rw [decide_eq_true_iff]
  exact ⟨fun ⟨a, b, c, d⟩ => ⟨a, b, c, d⟩, fun ⟨a, b, c, d⟩ => ⟨a, b, c, d⟩⟩
/-- A tile of it. -/
def hsB (W : Int) (b : Bd) (t : Int) : Bool := decide (b.x ≤ t % W ∧ t % W < b.x + b.w ∧ b.y ≤ t / W ∧ t / W < b.y + b.h)
theorem hsB_iff {W t : Int} {b : Bd} : hsB W b t = true ↔ (b.x ≤ t % W ∧ t % W < b.x + b.w ∧ b.y ≤ t / W ∧ t / W < b.y + b.h) := by unfold hsB; rw [decide_eq_true_iff]
/-- The k-th of its tiles. -/
def undAt (W : Int) (b : Bd) (k : Nat) : Int := b.x + ((k % b.w.toNat : Nat) : Int) + W * (b.y + ((k / b.w.toNat : Nat) : Int))
def undL (W : Int) (b : Bd) : List Int := (List.range (b.w.toNat * b.h.toNat)).map (undAt W b)
theorem undL_len (W : Int) (b : Bd) : (undL W b).length = b.w.toNat * b.h.toNat := by unfold undL; simp
theorem undL_getD (W : Int) (b : Bd) (k : Nat) (hk : k < b.w.toNat * b.h.toNat) : (undL W b).getD k 0 = undAt W b k := by unfold undL; simp [List.getD, hk]
theorem und_md {W H : Int} {b : Bd} (f : FmOk b) (i : InOk W H b) {k : Nat} (hk : k < b.w.toNat * b.h.toNat) :
    undAt W b k % W = b.x + ((k % b.w.toNat : Nat) : Int) ∧ undAt W b k / W = b.y + ((k / b.w.toNat : Nat) : Int) ∧ 0 ≤ undAt W b k ∧ undAt W b k < W * H ∧
    ((k % b.w.toNat : Nat) : Int) < b.w ∧ ((k / b.w.toNat : Nat) : Int) < b.h ∧ 0 ≤ ((k % b.w.toNat : Nat) : Int) ∧ 0 ≤ ((k / b.w.toNat : Nat) : Int) := by
  obtain ⟨_, _, _, _, w1, w2, h1, h2⟩ := f
  obtain ⟨x1, x2, y1, y2⟩ := i
  have m1 : k % b.w.toNat < b.w.toNat := Nat.mod_lt _ (by omega)
  have d1 : k / b.w.toNat < b.h.toNat := Nat.div_lt_of_lt_mul hk
  have e1 : ((k % b.w.toNat : Nat) : Int) < b.w := by omega
  have e2 : ((k / b.w.toNat : Nat) : Int) < b.h := by omega
  have a0 : 0 ≤ ((k % b.w.toNat : Nat) : Int) := Int.natCast_nonneg _
  have d0 : 0 ≤ ((k / b.w.toNat : Nat) : Int) := Int.natCast_nonneg _
  generalize hA : ((k % b.w.toNat : Nat) : Int) = A at *
  generalize hD : ((k / b.w.toNat : Nat) : Int) = D at *
  have em : (b.x + A + W * (b.y + D)) % W = b.x + A := by rw [Int.add_mul_emod_self_left]; exact Int.emod_eq_of_lt (by omega) (by omega)
  have ed : (b.x + A + W * (b.y + D)) / W = b.y + D := by rw [Int.add_mul_ediv_left _ _ (by omega), Int.ediv_eq_zero_of_lt (by omega) (by omega)]; omega
  have p0 : 0 ≤ W * (b.y + D) := Int.mul_nonneg (by omega) (by omega)
  have p1 : W * (b.y + D) ≤ W * (H - 1) := Int.mul_le_mul_of_nonneg_left (by omega) (by omega)
  have p2 : W * (H - 1) = W * H - W := by rw [Int.mul_sub, Int.mul_one]
  unfold undAt
  rw [hA, hD]
  exact ⟨em, ed, by omega, by omega, e1, e2, a0, d0⟩
theorem und_mem {W H : Int} {b : Bd} (f : FmOk b) (i : InOk W H b) {t : Int} (t0 : 0 ≤ t) : t ∈ undL W b ↔ hsB W b t = true := by
  rw [hsB_iff]
  constructor
  · intro h
    obtain ⟨k, hk, rfl⟩ := List.mem_map.1 h
    obtain ⟨h1, h2, _, _, h5, h6, h7, h8⟩ := und_md f i (List.mem_range.1 hk)
    omega
  · rintro ⟨h1, h2, h3, h4⟩
    have hw := f.w1
    have hh := f.h1
    obtain ⟨A, hA⟩ : ∃ A : Nat, t % W - b.x = A := ⟨(t % W - b.x).toNat, by omega⟩
    obtain ⟨D, hD⟩ : ∃ D : Nat, t / W - b.y = D := ⟨(t / W - b.y).toNat, by omega⟩
    have a1 : A < b.w.toNat := by omega
    have d1 : D < b.h.toNat := by omega
    have hk : b.w.toNat * D + A < b.w.toNat * b.h.toNat := by
      have := Nat.mul_le_mul_left b.w.toNat (show D + 1 ≤ b.h.toNat by omega)
      rw [Nat.mul_add, Nat.mul_one] at this
      omega
    refine List.mem_map.2 ⟨b.w.toNat * D + A, List.mem_range.2 hk, ?_⟩
    unfold undAt
    rw [Nat.mul_add_mod, Nat.mod_eq_of_lt a1, Nat.mul_add_div (by omega), Nat.div_eq_of_lt a1, Nat.add_zero]
    have := Int.emod_add_mul_ediv t W
    rw [← hA, ← hD, show b.x + (t % W - b.x) = t % W by omega, show b.y + (t / W - b.y) = t / W by omega]
    omega
theorem und_once {W H : Int} {b : Bd} (f : FmOk b) (i : InOk W H b) {k : Nat} (hk : k < b.w.toNat * b.h.toNat) : undAt W b k ∉ (undL W b).take k := by
  intro hm
  obtain ⟨j, hj, he⟩ := List.mem_iff_getElem.1 hm
  rw [List.length_take, undL_len] at hj
  rw [List.getElem_take] at he
  have hj' : j < b.w.toNat * b.h.toNat := by omega
  have he' : undAt W b j = undAt W b k := by rw [← he]; unfold undL; simp
  obtain ⟨a1, a2, _⟩ := und_md f i hk
  obtain ⟨c1, c2, _⟩ := und_md f i hj'
  rw [he'] at c1 c2
  have e1 : k % b.w.toNat = j % b.w.toNat := by omega
  have e2 : k / b.w.toNat = j / b.w.toNat := by omega
  have := Nat.mod_add_div k b.w.toNat
  have := Nat.mod_add_div j b.w.toNat
  rw [e1, e2] at *
  omega
/-- Plain tiles or roads alone under it. -/
def frB (W : Int) (xs : List Int) (b : Bd) : Bool := (undL W b).all fun t => decide (xs.getD t.toNat 0 ≤ 1)
/-- A tile of both. -/
def mtB (a b : Bd) : Bool := decide (a.x < b.x + b.w ∧ b.x < a.x + a.w ∧ a.y < b.y + b.h ∧ b.y < a.y + a.h)
theorem mtB_iff {a b : Bd} : mtB a b = true ↔ (a.x < b.x + b.w ∧ b.x < a.x + a.w ∧ a.y < b.y + b.h ∧ b.y < a.y + a.h) := by unfold mtB; rw [decide_eq_true_iff]
theorem mt_comm (a b : Bd) : mtB a b = mtB b a := by
  rw [Bool.eq_iff_iff, mtB_iff, mtB_iff]; omega
theorem mt_of {W t : Int} {a b : Bd} (ha : hsB W a t = true) (hb : hsB W b t = true) : mtB a b = true := by
  rw [hsB_iff] at ha hb; rw [mtB_iff]; omega
theorem mt_tile {W H : Int} {a b : Bd} (fa : FmOk a) (ia : InOk W H a) (fb : FmOk b) (ib : InOk W H b) (h : mtB a b = true) : ∃ k, k < b.w.toNat * b.h.toNat ∧ hsB W a (undAt W b k) = true := by
  rw [mtB_iff] at h
  obtain ⟨h1, h2, h3, h4⟩ := h
  have fa1 := fa.w1; have fa2 := fa.h1; have fb1 := fb.w1; have fb2 := fb.h1
  have ia1 := ia.x1; have ia2 := ia.x2; have ia3 := ia.y1; have ia4 := ia.y2
  have ib1 := ib.x1; have ib2 := ib.x2; have ib3 := ib.y1; have ib4 := ib.y2
  have hx : ∃ X, a.x ≤ X ∧ X < a.x + a.w ∧ b.x ≤ X ∧ X < b.x + b.w := ⟨max a.x b.x, by omega, by omega, by omega, by omega⟩
  have hy : ∃ Y, a.y ≤ Y ∧ Y < a.y + a.h ∧ b.y ≤ Y ∧ Y < b.y + b.h := ⟨max a.y b.y, by omega, by omega, by omega, by omega⟩
  obtain ⟨X, x1, x2, x3, x4⟩ := hx
  obtain ⟨Y, y1, y2, y3, y4⟩ := hy
  have em : (X + W * Y) % W = X := by rw [Int.add_mul_emod_self_left]; exact Int.emod_eq_of_lt (by omega) (by omega)
  have ed : (X + W * Y) / W = Y := by rw [Int.add_mul_ediv_left _ _ (by omega), Int.ediv_eq_zero_of_lt (by omega) (by omega)]; omega
  have t0 : 0 ≤ X + W * Y := by have := Int.mul_nonneg (show 0 ≤ W by omega) (show 0 ≤ Y by omega); omega
  have hb : hsB W b (X + W * Y) = true := hsB_iff.2 (by rw [em, ed]; omega)
  have ha : hsB W a (X + W * Y) = true := hsB_iff.2 (by rw [em, ed]; omega)
  obtain ⟨k, hk, e⟩ := List.mem_map.1 ((und_mem fb ib t0).2 hb)
  exact ⟨k, List.mem_range.1 hk, by rw [e]; exact ha⟩
/-- IDs rising. -/
def ascB (bs : List Bd) : Prop := ∀ k, k + 1 < bs.length → (bs.getD k default).i < (bs.getD (k + 1) default).i
/-- Does any of them cover the tile? -/
def cvB (W : Int) (bs : List Bd) (t : Int) : Bool := bs.any fun b => hsB W b t
/-- A ground and buildings on it that may be. -/
structure MOk (W H : Int) (n : Nat) (xs : List Int) (bs : List Bd) : Prop where
  g : GOk W H n xs
  len : bs.length ≤ 256
  asc : ascB bs
  fm : ∀ b ∈ bs, FmOk b
  ins : ∀ b ∈ bs, InOk W H b
  fr : ∀ b ∈ bs, frB W xs b = true
  ap : ∀ i j, j < i → i < bs.length → mtB (bs.getD i default) (bs.getD j default) = false
theorem getD_memB {bs : List Bd} {k : Nat} (h : k < bs.length) : bs.getD k default ∈ bs := by
  have : bs.getD k default = bs[k] := by simp [List.getD, List.getElem?_eq_getElem h]
  rw [this]; exact List.getElem_mem h
theorem mem_getDB {bs : List Bd} {b : Bd} (h : b ∈ bs) : ∃ k, k < bs.length ∧ bs.getD k default = b := by
  obtain ⟨k, hk, e⟩ := List.mem_iff_getElem.1 h
  exact ⟨k, hk, by rw [← e]; simp [List.getD, List.getElem?_eq_getElem hk]⟩
theorem take_succB {bs : List Bd} {k : Nat} (h : k < bs.length) : bs.take (k + 1) = bs.take k ++ [bs.getD k default] := by
  rw [List.take_succ_eq_append_getElem h]; simp [List.getD, List.getElem?_eq_getElem h]
theorem getD_takeB {bs : List Bd} {k j : Nat} (h : j < k) : (bs.take k).getD j default = bs.getD j default := by
  simp [List.getD, h]
theorem cvB_snoc (W : Int) (bs : List Bd) (b : Bd) (t : Int) : cvB W (bs ++ [b]) t = (cvB W bs t || hsB W b t) := by unfold cvB; simp
end Go.Proofs.Ytjjodfdmbiebnaa
/- The contracts of package ground: whether it may be; of the program and of the reference. -/
namespace Go.Proofs.Ytjjodfdmbiebnaa
open Go.RowKit
set_option linter.unusedVariables false
def I64' (x : Int) : Prop := -9223372036854775808 ≤ x ∧ x ≤ 9223372036854775807
theorem check_hd (W H : Int) (a : Option Addr) (n c B : Nat) (xs : List Int) (w : World) (h : By w B a n xs) (hB : B ≤ w.heap.size) (g : GHd W H n) (hn : n ≤ 16384) :
    Calls Try.prog 71 #[.agg #[.int .i64 W, .int .i64 H, .slice a n c]] w fun e w' => e = .returned (.int .i64 (gE W H n xs)) ∧ Below w.heap.size w w' := by
  obtain ⟨w1, w2, h1, h2, nn⟩ := g
  obtain ⟨m1, m2⟩ := mul_bd w1 w2 h1 h2
  have b1 : decide (W < 1) = false := by simp; omega
  have b2 : decide (128 < W) = false := by simp; omega
  have b3 : decide (H < 1) = false := by simp; omega
  have b4 : decide (128 < H) = false := by simp; omega
  have b5 : ((n : Int) != W * H) = false := by rw [bne_eq_false_iff_eq]; exact nn
  have NN := Hk.mk nn
  have HH := Hk.mk (h.alloc hB (.cells #[.int .i64 W, .int .i64 H, .slice a n c] 24))
  clear nn h
  go_enter Try.func71, Try.ntmps71
  go_wp2
  go_loop [37] (fun i => ∃ k : Nat, k ≤ n ∧ i = .int .i64 k ∧ Hk (∀ j, j < k → xs.getD j 0 ≤ 5)) (fun i => n - (intOf i).toNat)
  case atStart => exact ⟨0, Nat.zero_le _, rfl, ⟨fun j hj => absurd hj (by omega)⟩⟩
  case round =>
    obtain ⟨k, hk, rfl, HJ⟩ := hrel
    by_cases hlt : k < n
    · obtain ⟨b, off, rfl, hbl, hc⟩ := HH.out.at_ (by omega)
      have hcx := hc k hlt
      have hx := HH.out.bd hlt
      have hmem : xs.getD k 0 ∈ xs := getD_mem (by rw [HH.out.len]; exact hlt)
      have HM := Hk.mk hmem
      clear hc hmem
      generalize hX : xs.getD k 0 = x at *
      have HX := Hk.mk hX
      clear hX
      by_cases h5 : 5 < x
      · have d5 : decide (5 < x) = true := by simp; omega
        go_wp2
        go_ret
        exact ⟨ri (gE_no (fun g => by have := g.ts x HM.out; omega)).symm, (Below.refl _ _).alloc (Nat.le_refl _) _⟩
      · have d5 : decide (5 < x) = false := by simp; omega
        go_wp2
        go_round
        case rel => exact ⟨k + 1, by omega, by go_num, ⟨fun j hj => by
          by_cases e : j = k
          · subst e; rw [HX.out]; omega
          · exact HJ.out j (by omega)⟩⟩
        case measure => simp [intOf]; omega
    · have hkn : k = n := by omega
      subst hkn
      go_wp2
      go_ret
      exact ⟨ri (gE_yes ⟨w1, w2, h1, h2, NN.out, fun x hx => by
        obtain ⟨j, hj, rfl⟩ := List.mem_iff_getElem.1 hx
        have := HJ.out j (by rw [← HH.out.len]; exact hj)
        simpa [List.getD, List.getElem?_eq_getElem hj] using this⟩).symm, (Below.refl _ _).alloc (Nat.le_refl _) _⟩
theorem check_bad (W H : Int) (a : Option Addr) (n c : Nat) (xs : List Int) (w : World) (g : ¬ GHd W H n) (hn : n ≤ 140737488355328) :
    Calls Try.prog 71 #[.agg #[.int .i64 W, .int .i64 H, .slice a n c]] w fun e w' => e = .returned (.int .i64 (gE W H n xs)) ∧ Below w.heap.size w w' := by
  have NO := Hk.mk g
  have hno : ¬ GOk W H n xs := fun h => NO.out ⟨h.w1, h.w2, h.h1, h.h2, h.nn⟩
  have R := Hk.mk (gE_no hno)
  clear g hno
  by_cases c1 : W < 1
  · have b1 : decide (W < 1) = true := by simp; omega
    go_enter Try.func71, Try.ntmps71
    go_wp2
    go_ret
    exact ⟨ri R.out.symm, (Below.refl _ _).alloc (Nat.le_refl _) _⟩
  have b1 : decide (W < 1) = false := by simp; omega
  by_cases c2 : 128 < W
  · have b2 : decide (128 < W) = true := by simp; omega
    go_enter Try.func71, Try.ntmps71
    go_wp2
    go_ret
    exact ⟨ri R.out.symm, (Below.refl _ _).alloc (Nat.le_refl _) _⟩
  have b2 : decide (128 < W) = false := by simp; omega
  by_cases c3 : H < 1
  · have b3 : decide (H < 1) = true := by simp; omega
    go_enter Try.func71, Try.ntmps71
    go_wp2
    go_ret
    exact ⟨ri R.out.symm, (Below.refl _ _).alloc (Nat.le_refl _) _⟩
  have b3 : decide (H < 1) = false := by simp; omega
  by_cases c4 : 128 < H
  · have b4 : decide (128 < H) = true := by simp; omega
    go_enter Try.func71, Try.ntmps71
    go_wp2
    go_ret
    exact ⟨ri R.out.symm, (Below.refl _ _).alloc (Nat.le_refl _) _⟩
  have b4 : decide (128 < H) = false := by simp; omega
  obtain ⟨m1, m2⟩ := mul_bd (W := W) (H := H) (by omega) (by omega) (by omega) (by omega)
  have b5 : ((n : Int) != W * H) = true := by rw [bne_iff_ne]; exact fun e => NO.out ⟨by omega, by omega, by omega, by omega, e⟩
  go_enter Try.func71, Try.ntmps71
  go_wp2
  go_ret
  exact ⟨ri R.out.symm, (Below.refl _ _).alloc (Nat.le_refl _) _⟩
theorem check_any (W H : Int) (a : Option Addr) (n c B : Nat) (xs : List Int) (w : World) (h : By w B a n xs) (hB : B ≤ w.heap.size) (hn : n ≤ 140737488355328) :
    Calls Try.prog 71 #[.agg #[.int .i64 W, .int .i64 H, .slice a n c]] w fun e w' => e = .returned (.int .i64 (gE W H n xs)) ∧ Below w.heap.size w w' := by
  by_cases g : GHd W H n
  · exact check_hd W H a n c B xs w h hB g (by have := mul_bd g.w1 g.w2 g.h1 g.h2; have := g.nn; omega)
  · exact check_bad W H a n c xs w g hn
theorem rbo {a b : Bool} (h : a = b) : Ending.returned (.bool a) = .returned (.bool b) := by rw [h]
theorem rgr_hd (W H : Int) (a : Option Addr) (n c B : Nat) (xs : List Int) (w : World) (h : By w B a n xs) (hB : B ≤ w.heap.size) (g : GHd W H n) (hn : n ≤ 16384) :
    Calls Try.prog 31 #[.agg #[.int .i64 W, .int .i64 H, .slice a n c]] w fun e w' => e = .returned (.bool (gB W H n xs)) ∧ Below w.heap.size w w' := by
  obtain ⟨w1, w2, h1, h2, nn⟩ := g
  obtain ⟨m1, m2⟩ := mul_bd w1 w2 h1 h2
  have b1 : decide (W < 1) = false := by simp; omega
  have b2 : decide (128 < W) = false := by simp; omega
  have b3 : decide (H < 1) = false := by simp; omega
  have b4 : decide (128 < H) = false := by simp; omega
  have b5 : ((n : Int) != W * H) = false := by rw [bne_eq_false_iff_eq]; exact nn
  have NN := Hk.mk nn
  have HH := Hk.mk (h.alloc hB (.cells #[.int .i64 W, .int .i64 H, .slice a n c] 24))
  clear nn h
  go_enter Try.func31, Try.ntmps31
  go_wp2
  go_loop [3] (fun i => ∃ k : Nat, k ≤ n ∧ i = .int .i64 k ∧ Hk (∀ j, j < k → xs.getD j 0 ≤ 5)) (fun i => n - (intOf i).toNat)
  case atStart => exact ⟨0, Nat.zero_le _, rfl, ⟨fun j hj => absurd hj (by omega)⟩⟩
  case round =>
    obtain ⟨k, hk, rfl, HJ⟩ := hrel
    by_cases hlt : k < n
    · obtain ⟨b, off, rfl, hbl, hc⟩ := HH.out.at_ (by omega)
      have hcx := hc k hlt
      have hx := HH.out.bd hlt
      have hmem : xs.getD k 0 ∈ xs := getD_mem (by rw [HH.out.len]; exact hlt)
      have HM := Hk.mk hmem
      clear hc hmem
      generalize hX : xs.getD k 0 = x at *
      have HX := Hk.mk hX
      clear hX
      by_cases h5 : 5 < x
      · have d5 : decide (5 < x) = true := by simp; omega
        go_wp2
        go_ret
        exact ⟨rbo (gB_no (fun g => by have := g.ts x HM.out; omega)).symm, (Below.refl _ _).alloc (Nat.le_refl _) _⟩
      · have d5 : decide (5 < x) = false := by simp; omega
        go_wp2
        go_round
        case rel => exact ⟨k + 1, by omega, by go_num, ⟨fun j hj => by
          by_cases e : j = k
          · subst e; rw [HX.out]; omega
          · exact HJ.out j (by omega)⟩⟩
        case measure => simp [intOf]; omega
    · have hkn : k = n := by omega
      subst hkn
      go_wp2
      go_ret
      exact ⟨rbo (gB_yes ⟨w1, w2, h1, h2, NN.out, fun x hx => by
        obtain ⟨j, hj, rfl⟩ := List.mem_iff_getElem.1 hx
        have := HJ.out j (by rw [← HH.out.len]; exact hj)
        simpa [List.getD, List.getElem?_eq_getElem hj] using this⟩).symm, (Below.refl _ _).alloc (Nat.le_refl _) _⟩
theorem rgr_bad (W H : Int) (a : Option Addr) (n c : Nat) (xs : List Int) (w : World) (g : ¬ GHd W H n) (hn : n ≤ 140737488355328) :
    Calls Try.prog 31 #[.agg #[.int .i64 W, .int .i64 H, .slice a n c]] w fun e w' => e = .returned (.bool (gB W H n xs)) ∧ Below w.heap.size w w' := by
  have NO := Hk.mk g
  have hno : ¬ GOk W H n xs := fun h => NO.out ⟨h.w1, h.w2, h.h1, h.h2, h.nn⟩
  have R := Hk.mk (gB_no hno)
  clear g hno
  by_cases c1 : W < 1
  · have b1 : decide (W < 1) = true := by simp; omega
    go_enter Try.func31, Try.ntmps31
    go_wp2
    go_ret
    exact ⟨rbo R.out.symm, (Below.refl _ _).alloc (Nat.le_refl _) _⟩
  have b1 : decide (W < 1) = false := by simp; omega
  by_cases c2 : 128 < W
  · have b2 : decide (128 < W) = true := by simp; omega
    go_enter Try.func31, Try.ntmps31
    go_wp2
    go_ret
    exact ⟨rbo R.out.symm, (Below.refl _ _).alloc (Nat.le_refl _) _⟩
  have b2 : decide (128 < W) = false := by simp; omega
  by_cases c3 : H < 1
  · have b3 : decide (H < 1) = true := by simp; omega
    go_enter Try.func31, Try.ntmps31
    go_wp2
    go_ret
    exact ⟨rbo R.out.symm, (Below.refl _ _).alloc (Nat.le_refl _) _⟩
  have b3 : decide (H < 1) = false := by simp; omega
  by_cases c4 : 128 < H
  · have b4 : decide (128 < H) = true := by simp; omega
    go_enter Try.func31, Try.ntmps31
    go_wp2
    go_ret
    exact ⟨rbo R.out.symm, (Below.refl _ _).alloc (Nat.le_refl _) _⟩
  have b4 : decide (128 < H) = false := by simp; omega
  obtain ⟨m1, m2⟩ := mul_bd (W := W) (H := H) (by omega) (by omega) (by omega) (by omega)
  have b5 : ((n : Int) != W * H) = true := by rw [bne_iff_ne]; exact fun e => NO.out ⟨by omega, by omega, by omega, by omega, e⟩
  go_enter Try.func31, Try.ntmps31
  go_wp2
  go_ret
  exact ⟨rbo R.out.symm, (Below.refl _ _).alloc (Nat.le_refl _) _⟩
theorem rgr_any (W H : Int) (a : Option Addr) (n c B : Nat) (xs : List Int) (w : World) (h : By w B a n xs) (hB : B ≤ w.heap.size) (hn : n ≤ 140737488355328) :
    Calls Try.prog 31 #[.agg #[.int .i64 W, .int .i64 H, .slice a n c]] w fun e w' => e = .returned (.bool (gB W H n xs)) ∧ Below w.heap.size w w' := by
  by_cases g : GHd W H n
  · exact rgr_hd W H a n c B xs w h hB g (by have := mul_bd g.w1 g.w2 g.h1 g.h2; have := g.nn; omega)
  · exact rgr_bad W H a n c xs w g hn
theorem check_as (e : Int) (W H : Int) (a : Option Addr) (n c B : Nat) (xs : List Int) (w : World) (h : By w B a n xs) (hB : B ≤ w.heap.size) (hn : n ≤ 140737488355328) (E : Hk (gE W H n xs = e)) :
    Calls Try.prog 71 #[.agg #[.int .i64 W, .int .i64 H, .slice a n c]] w fun e' w' => e' = .returned (.int .i64 e) ∧ Below w.heap.size w w' := by
  obtain ⟨rfl⟩ := E; exact check_any W H a n c B xs w h hB hn
theorem rgr_as (e : Bool) (W H : Int) (a : Option Addr) (n c B : Nat) (xs : List Int) (w : World) (h : By w B a n xs) (hB : B ≤ w.heap.size) (hn : n ≤ 140737488355328) (E : Hk (gB W H n xs = e)) :
    Calls Try.prog 31 #[.agg #[.int .i64 W, .int .i64 H, .slice a n c]] w fun e' w' => e' = .returned (.bool e) ∧ Below w.heap.size w w' := by
  obtain ⟨rfl⟩ := E; exact rgr_any W H a n c B xs w h hB hn
end Go.Proofs.Ytjjodfdmbiebnaa
/- Layer 8: a building alone. -/
namespace Go.Proofs.Ytjjodfdmbiebnaa
open Go.RowKit
set_option linter.unusedVariables false
/-- An equation of two tests. -/
theorem beq_of {a b : Bool} (h : a = true ↔ b = true) : a = b := Bool.eq_iff_iff.2 h
theorem formed_any (b : Bd) (w : World) :
    Calls Try.prog 61 #[.agg #[.int .i64 b.i, .int .i64 b.o, .int .i64 b.x, .int .i64 b.y, .int .i64 b.w, .int .i64 b.h]] w fun e w' => e = .returned (.bool (fmB b)) ∧ Below w.heap.size w w' := by
  go_enter Try.func61, Try.ntmps61
  go_wp2
  all_goals
    go_ret
    exact ⟨rbo (by unfold fmB; apply beq_of; simp; omega), (Below.refl _ _).alloc (Nat.le_refl _) _⟩
theorem inside_any (W H : Int) (a : Option Addr) (n c : Nat) (b : Bd) (w : World) (w1 : 1 ≤ W) (w2 : W ≤ 128) (h1 : 1 ≤ H) (h2 : H ≤ 128) (f : FmOk b) :
    Calls Try.prog 62 #[.agg #[.int .i64 W, .int .i64 H, .slice a n c], .agg #[.int .i64 b.i, .int .i64 b.o, .int .i64 b.x, .int .i64 b.y, .int .i64 b.w, .int .i64 b.h]] w fun e w' => e = .returned (.bool (inB W H b)) ∧ Below w.heap.size w w' := by
  have q1 := f.w1; have q2 := f.w2; have q3 := f.h1; have q4 := f.h2
  clear f
  go_enter Try.func62, Try.ntmps62
  go_wp2
  all_goals
    go_ret
    exact ⟨rbo (by unfold inB; apply beq_of; simp; omega), ((Below.refl _ _).alloc (Nat.le_refl _) _).alloc (by simp) _⟩
theorem sides_any (b : Bd) (w : World) :
    Calls Try.prog 56 #[.agg #[.int .i64 b.i, .int .i64 b.o, .int .i64 b.x, .int .i64 b.y, .int .i64 b.w, .int .i64 b.h]] w fun e w' => e = .returned (.bool (fmB b)) ∧ Below w.heap.size w w' := by
  go_enter Try.func56, Try.ntmps56
  go_wp2
  all_goals
    go_ret
    exact ⟨rbo (by unfold fmB; apply beq_of; simp; omega), (Below.refl _ _).alloc (Nat.le_refl _) _⟩
theorem on_any (W H : Int) (a : Option Addr) (n c : Nat) (b : Bd) (w : World) (w1 : 1 ≤ W) (w2 : W ≤ 128) (h1 : 1 ≤ H) (h2 : H ≤ 128) (f : FmOk b) :
    Calls Try.prog 57 #[.agg #[.int .i64 W, .int .i64 H, .slice a n c], .agg #[.int .i64 b.i, .int .i64 b.o, .int .i64 b.x, .int .i64 b.y, .int .i64 b.w, .int .i64 b.h]] w fun e w' => e = .returned (.bool (inB W H b)) ∧ Below w.heap.size w w' := by
  have q1 := f.w1; have q2 := f.w2; have q3 := f.h1; have q4 := f.h2
  clear f
  go_enter Try.func57, Try.ntmps57
  go_wp2
  all_goals
    go_ret
    exact ⟨rbo (by unfold inB; apply beq_of; simp; omega), ((Below.refl _ _).alloc (Nat.le_refl _) _).alloc (by simp) _⟩
theorem meet_any (b b' : Bd) (w : World) (W H : Int) (w2 : W ≤ 128) (h2 : H ≤ 128) (f : FmOk b) (f' : FmOk b') (i : InOk W H b) (i' : InOk W H b') :
    Calls Try.prog 58 #[.agg #[.int .i64 b.i, .int .i64 b.o, .int .i64 b.x, .int .i64 b.y, .int .i64 b.w, .int .i64 b.h], .agg #[.int .i64 b'.i, .int .i64 b'.o, .int .i64 b'.x, .int .i64 b'.y, .int .i64 b'.w, .int .i64 b'.h]] w fun e w' => e = .returned (.bool (mtB b b')) ∧ Below w.heap.size w w' := by
  have q1 := f.w1; have q2 := f.w2; have q3 := f.h1; have q4 := f.h2
  have r1 := f'.w1; have r2 := f'.w2; have r3 := f'.h1; have r4 := f'.h2
  have q5 := i.x1; have q6 := i.x2; have q7 := i.y1; have q8 := i.y2
  have r5 := i'.x1; have r6 := i'.x2; have r7 := i'.y1; have r8 := i'.y2
  clear f f' i i'
  go_enter Try.func58, Try.ntmps58
  go_wp2
  all_goals
    go_ret
    exact ⟨rbo (by unfold mtB; apply beq_of; simp; omega), ((Below.refl _ _).alloc (Nat.le_refl _) _).alloc (by simp) _⟩
theorem has_any (W H t : Int) (a : Option Addr) (n c : Nat) (b : Bd) (w : World) (w1 : 1 ≤ W) (w2 : W ≤ 128) (h1 : 1 ≤ H) (h2 : H ≤ 128) (t0 : 0 ≤ t) (t1 : t ≤ 16384) (f : FmOk b) (i : InOk W H b) :
    Calls Try.prog 81 #[.agg #[.int .i64 W, .int .i64 H, .slice a n c], .agg #[.int .i64 b.i, .int .i64 b.o, .int .i64 b.x, .int .i64 b.y, .int .i64 b.w, .int .i64 b.h], .int .i64 t] w fun e w' => e = .returned (.bool (hsB W b t)) ∧ Below w.heap.size w w' := by
  have q1 := f.w1; have q2 := f.w2; have q3 := f.h1; have q4 := f.h2
  have q5 := i.x1; have q6 := i.x2; have q7 := i.y1; have q8 := i.y2
  clear f i
  have x0 := Int.emod_nonneg t (show W ≠ 0 by omega)
  have x1 := Int.emod_lt_of_pos t (show 0 < W by omega)
  have y0 : 0 ≤ t / W := Int.ediv_nonneg t0 (by omega)
  have y1 : t / W ≤ t := Int.ediv_le_self _ t0
  go_enter Try.func81, Try.ntmps81
  go_wp2_with fail
  go_quiet (fail)
  go_wp2
  all_goals
    go_ret
    exact ⟨rbo (by unfold hsB; apply beq_of; simp; omega), below_drewN (((Below.refl _ _).alloc (Nat.le_refl _) _).alloc (by simp) _) _⟩
theorem has_as (r : Bool) (W H t : Int) (a : Option Addr) (n c : Nat) (b : Bd) (w : World) (w1 : 1 ≤ W) (w2 : W ≤ 128) (h1 : 1 ≤ H) (h2 : H ≤ 128) (t0 : 0 ≤ t) (t1 : t ≤ 16384) (f : FmOk b) (i : InOk W H b) (E : Hk (hsB W b t = r)) :
    Calls Try.prog 81 #[.agg #[.int .i64 W, .int .i64 H, .slice a n c], .agg #[.int .i64 b.i, .int .i64 b.o, .int .i64 b.x, .int .i64 b.y, .int .i64 b.w, .int .i64 b.h], .int .i64 t] w fun e w' => e = .returned (.bool r) ∧ Below w.heap.size w w' := by
  obtain ⟨rfl⟩ := E; exact has_any W H t a n c b w w1 w2 h1 h2 t0 t1 f i
theorem formed_as (r : Bool) (b : Bd) (w : World) (E : Hk (fmB b = r)) :
    Calls Try.prog 61 #[.agg #[.int .i64 b.i, .int .i64 b.o, .int .i64 b.x, .int .i64 b.y, .int .i64 b.w, .int .i64 b.h]] w fun e w' => e = .returned (.bool r) ∧ Below w.heap.size w w' := by
  obtain ⟨rfl⟩ := E; exact formed_any b w
theorem sides_as (r : Bool) (b : Bd) (w : World) (E : Hk (fmB b = r)) :
    Calls Try.prog 56 #[.agg #[.int .i64 b.i, .int .i64 b.o, .int .i64 b.x, .int .i64 b.y, .int .i64 b.w, .int .i64 b.h]] w fun e w' => e = .returned (.bool r) ∧ Below w.heap.size w w' := by
  obtain ⟨rfl⟩ := E; exact sides_any b w
theorem inside_as (r : Bool) (W H : Int) (a : Option Addr) (n c : Nat) (b : Bd) (w : World) (w1 : 1 ≤ W) (w2 : W ≤ 128) (h1 : 1 ≤ H) (h2 : H ≤ 128) (f : FmOk b) (E : Hk (inB W H b = r)) :
    Calls Try.prog 62 #[.agg #[.int .i64 W, .int .i64 H, .slice a n c], .agg #[.int .i64 b.i, .int .i64 b.o, .int .i64 b.x, .int .i64 b.y, .int .i64 b.w, .int .i64 b.h]] w fun e w' => e = .returned (.bool r) ∧ Below w.heap.size w w' := by
  obtain ⟨rfl⟩ := E; exact inside_any W H a n c b w w1 w2 h1 h2 f
theorem on_as (r : Bool) (W H : Int) (a : Option Addr) (n c : Nat) (b : Bd) (w : World) (w1 : 1 ≤ W) (w2 : W ≤ 128) (h1 : 1 ≤ H) (h2 : H ≤ 128) (f : FmOk b) (E : Hk (inB W H b = r)) :
    Calls Try.prog 57 #[.agg #[.int .i64 W, .int .i64 H, .slice a n c], .agg #[.int .i64 b.i, .int .i64 b.o, .int .i64 b.x, .int .i64 b.y, .int .i64 b.w, .int .i64 b.h]] w fun e w' => e = .returned (.bool r) ∧ Below w.heap.size w w' := by
  obtain ⟨rfl⟩ := E; exact on_any W H a n c b w w1 w2 h1 h2 f
theorem meet_as (r : Bool) (b b' : Bd) (w : World) (W H : Int) (w2 : W ≤ 128) (h2 : H ≤ 128) (f : FmOk b) (f' : FmOk b') (i : InOk W H b) (i' : InOk W H b') (E : Hk (mtB b b' = r)) :
    Calls Try.prog 58 #[.agg #[.int .i64 b.i, .int .i64 b.o, .int .i64 b.x, .int .i64 b.y, .int .i64 b.w, .int .i64 b.h], .agg #[.int .i64 b'.i, .int .i64 b'.o, .int .i64 b'.x, .int .i64 b'.y, .int .i64 b'.w, .int .i64 b'.h]] w fun e w' => e = .returned (.bool r) ∧ Below w.heap.size w w' := by
  obtain ⟨rfl⟩ := E; exact meet_any b b' w W H w2 h2 f f' i i'
end Go.Proofs.Ytjjodfdmbiebnaa
/- Layer 8: slices of buildings; whether their IDs rise. -/
namespace Go.Proofs.Ytjjodfdmbiebnaa
open Go.RowKit
set_option linter.unusedVariables false
/-- The slice reads as these buildings. -/
structure Bq (w : World) (B : Nat) (a : Option Addr) (n : Nat) (bs : List Bd) : Prop where
  len : bs.length = n
  rd : 0 < n → ∃ b off, a = some ⟨b, off, none⟩ ∧ b < B ∧ ∀ k, k < n → ∀ i, i < 6 → w.cell? ⟨b, off + k * 6 + i, none⟩ = some (.int .i64 ((bs.getD k default).c i))
theorem Bq.below {w w' : World} {B B' n : Nat} {a : Option Addr} {bs : List Bd} (h : Bq w B a n bs) (hb : Below B' w w') (hB : B ≤ B') : Bq w' B a n bs := ⟨h.len, fun hn => by
  obtain ⟨b, off, e, hlt, hc⟩ := h.rd hn
  exact ⟨b, off, e, hlt, fun k hk i hi => (hb.cell (p := ⟨b, off + k * 6 + i, none⟩) (Nat.lt_of_lt_of_le hlt hB)).trans (hc k hk i hi)⟩⟩
theorem Bq.mono {w : World} {B B' n : Nat} {a : Option Addr} {bs : List Bd} (h : Bq w B a n bs) (hB : B ≤ B') : Bq w B' a n bs := ⟨h.len, fun hn => by
  obtain ⟨b, off, e, hlt, hc⟩ := h.rd hn
  exact ⟨b, off, e, by omega, hc⟩⟩
theorem Bq.drewN {w : World} {B n : Nat} {a : Option Addr} {bs : List Bd} (h : Bq w B a n bs) (m : Nat) : Bq (w.drewN m) B a n bs := ⟨h.len, h.rd⟩
theorem Bq.nil (w : World) (B : Nat) (a : Option Addr) : Bq w B a 0 [] := ⟨rfl, fun h => absurd h (by omega)⟩
/-- The cells of one of them. -/
theorem Bq.six {w : World} {B n : Nat} {a : Option Addr} {bs : List Bd} (h : Bq w B a n bs) {k : Nat} (hk : k < n) : ∃ b off, a = some ⟨b, off, none⟩ ∧ b < B ∧
    w.cell? ⟨b, off + k * 6, none⟩ = some (.int .i64 (bs.getD k default).i) ∧ w.cell? ⟨b, off + k * 6 + 1, none⟩ = some (.int .i64 (bs.getD k default).o) ∧ w.cell? ⟨b, off + k * 6 + 2, none⟩ = some (.int .i64 (bs.getD k default).x) ∧
    w.cell? ⟨b, off + k * 6 + 3, none⟩ = some (.int .i64 (bs.getD k default).y) ∧ w.cell? ⟨b, off + k * 6 + 4, none⟩ = some (.int .i64 (bs.getD k default).w) ∧ w.cell? ⟨b, off + k * 6 + 5, none⟩ = some (.int .i64 (bs.getD k default).h) := by
  obtain ⟨b, off, e, hlt, hc⟩ := h.rd (by omega)
  exact ⟨b, off, e, hlt, hc k hk 0 (by omega), hc k hk 1 (by omega), hc k hk 2 (by omega), hc k hk 3 (by omega), hc k hk 4 (by omega), hc k hk 5 (by omega)⟩
set_option maxRecDepth 100000 in
theorem asc8_as (r : Bool) (a : Option Addr) (n c B : Nat) (bs : List Bd) (w : World) (h : Bq w B a n bs) (hn : n ≤ 1099511627776) (E : Hk (r = true ↔ ascB bs)) :
    Calls Try.prog 69 #[.slice a n c] w fun e w' => e = .returned (.bool r) ∧ ∃ m, w' = w.drewN m := by
  have HH := Hk.mk h
  clear h
  go_enter Try.func69, Try.ntmps69
  go_wp2_with fail
  go_loopw [3] (fun i wr => ∃ j : Nat, i = .int .i64 ((j : Int) + 1) ∧ (j + 1 ≤ n ∨ j = 0) ∧ Hk (∀ k, k < j → (bs.getD k default).i < (bs.getD (k + 1) default).i) ∧ Hk (∃ m, wr = w.drewN m)) (fun i _ => n + 1 - (intOf i).toNat)
  case atStart => exact ⟨0, rfl, Or.inr rfl, ⟨fun k hk => absurd hk (by omega)⟩, ⟨0, rfl⟩⟩
  case round =>
    obtain ⟨j, rfl, hj, HJ, HM⟩ := hrel
    obtain ⟨m, rfl⟩ := HM.out
    by_cases hlt : j + 1 < n
    · obtain ⟨b, off, rfl, hb, p0, -⟩ := HH.out.six (show j < n by omega)
      obtain ⟨b2, off2, e2, -, p1, -⟩ := HH.out.six hlt
      obtain ⟨rfl, rfl⟩ : b2 = b ∧ off2 = off := by
        injection e2 with h9
        injection h9 with h7 h8
        exact ⟨h7.symm, h8.symm⟩
      clear e2
      have j1 : (0 : Int) ≤ (j : Int) := by omega
      have j2 : (j : Int) + 1 < (n : Int) := by omega
      obtain ⟨u, hu⟩ : ∃ u, (bs.getD j default).i = u := ⟨_, rfl⟩
      obtain ⟨v, hv⟩ : ∃ v, (bs.getD (j + 1) default).i = v := ⟨_, rfl⟩
      rw [hu] at p0
      rw [hv] at p1
      have HU := Hk.mk hu
      have HV := Hk.mk hv
      clear hu hv
      by_cases huv : v ≤ u
      · have b1 : decide (v ≤ u) = true := by simpa using huv
        have R : Hk (false = r) := ⟨by
          cases r
          · rfl
          · have := E.out.1 rfl j (by rw [HH.out.len]; exact hlt)
            rw [HU.out, HV.out] at this; omega⟩
        clear huv
        go_wp2_with fail
        go_quiet (fail)
        go_wp2
        go_ret
        exact ⟨rbo R.out, _, World.drewN_drewN _ _ _⟩
      · have b1 : decide (v ≤ u) = false := by simpa using huv
        have R : Hk (∀ k, k < j + 1 → (bs.getD k default).i < (bs.getD (k + 1) default).i) := ⟨fun k hk => by
          by_cases e : k = j
          · subst e; rw [HU.out, HV.out]; omega
          · exact HJ.out k (by omega)⟩
        clear huv
        go_wp2_with fail
        go_quiet (fail)
        go_wp2
        exact ⟨⟨j + 1, by go_num, Or.inl (by omega), R, ⟨_, rfl⟩⟩, by simp [intOf]; omega⟩
    · have b1 : decide ((j : Int) + 1 < n) = false := by simp; omega
      have R : Hk (true = r) := ⟨by
        symm
        rw [E.out]
        intro k hk
        rw [HH.out.len] at hk
        exact HJ.out k (by omega)⟩
      have j3 : ¬ ((j : Int) + 1 < n) := by omega
      go_wp2
      go_ret
      exact ⟨rbo R.out, m, rfl⟩
set_option maxRecDepth 100000 in
theorem ids8_as (r : Bool) (a : Option Addr) (n c B : Nat) (bs : List Bd) (w : World) (h : Bq w B a n bs) (hn : n ≤ 1099511627776) (E : Hk (r = true ↔ ascB bs)) :
    Calls Try.prog 24 #[.slice a n c] w fun e w' => e = .returned (.bool r) ∧ ∃ m, w' = w.drewN m := by
  have HH := Hk.mk h
  clear h
  go_enter Try.func24, Try.ntmps24
  go_wp2_with fail
  go_loopw [3] (fun i wr => ∃ j : Nat, i = .int .i64 ((j : Int) + 1) ∧ (j + 1 ≤ n ∨ j = 0) ∧ Hk (∀ k, k < j → (bs.getD k default).i < (bs.getD (k + 1) default).i) ∧ Hk (∃ m, wr = w.drewN m)) (fun i _ => n + 1 - (intOf i).toNat)
  case atStart => exact ⟨0, rfl, Or.inr rfl, ⟨fun k hk => absurd hk (by omega)⟩, ⟨0, rfl⟩⟩
  case round =>
    obtain ⟨j, rfl, hj, HJ, HM⟩ := hrel
    obtain ⟨m, rfl⟩ := HM.out
    by_cases hlt : j + 1 < n
    · obtain ⟨b, off, rfl, hb, p0, -⟩ := HH.out.six (show j < n by omega)
      obtain ⟨b2, off2, e2, -, p1, -⟩ := HH.out.six hlt
      obtain ⟨rfl, rfl⟩ : b2 = b ∧ off2 = off := by
        injection e2 with h9
        injection h9 with h7 h8
        exact ⟨h7.symm, h8.symm⟩
      clear e2
      have j1 : (0 : Int) ≤ (j : Int) := by omega
      have j2 : (j : Int) + 1 < (n : Int) := by omega
      obtain ⟨u, hu⟩ : ∃ u, (bs.getD j default).i = u := ⟨_, rfl⟩
      obtain ⟨v, hv⟩ : ∃ v, (bs.getD (j + 1) default).i = v := ⟨_, rfl⟩
      rw [hu] at p0
      rw [hv] at p1
      have HU := Hk.mk hu
      have HV := Hk.mk hv
      clear hu hv
      by_cases huv : v ≤ u
      · have b1 : decide (v ≤ u) = true := by simpa using huv
        have R : Hk (false = r) := ⟨by
          cases r
          · rfl
          · have := E.out.1 rfl j (by rw [HH.out.len]; exact hlt)
            rw [HU.out, HV.out] at this; omega⟩
        clear huv
        go_wp2_with fail
        go_quiet (fail)
        go_wp2
        go_ret
        exact ⟨rbo R.out, _, World.drewN_drewN _ _ _⟩
      · have b1 : decide (v ≤ u) = false := by simpa using huv
        have R : Hk (∀ k, k < j + 1 → (bs.getD k default).i < (bs.getD (k + 1) default).i) := ⟨fun k hk => by
          by_cases e : k = j
          · subst e; rw [HU.out, HV.out]; omega
          · exact HJ.out k (by omega)⟩
        clear huv
        go_wp2_with fail
        go_quiet (fail)
        go_wp2
        exact ⟨⟨j + 1, by go_num, Or.inl (by omega), R, ⟨_, rfl⟩⟩, by simp [intOf]; omega⟩
    · have b1 : decide ((j : Int) + 1 < n) = false := by simp; omega
      have R : Hk (true = r) := ⟨by
        symm
        rw [E.out]
        intro k hk
        rw [HH.out.len] at hk
        exact HJ.out k (by omega)⟩
      have j3 : ¬ ((j : Int) + 1 < n) := by omega
      go_wp2
      go_ret
      exact ⟨rbo R.out, m, rfl⟩
theorem asc8_yes (a : Option Addr) (n c B : Nat) (bs : List Bd) (w : World) (h : Bq w B a n bs) (hn : n ≤ 1099511627776) (E : Hk (ascB bs)) :
    Calls Try.prog 69 #[.slice a n c] w fun e w' => e = .returned (.bool true) ∧ ∃ m, w' = w.drewN m := asc8_as true a n c B bs w h hn ⟨by simp [E.out]⟩
theorem asc8_no (a : Option Addr) (n c B : Nat) (bs : List Bd) (w : World) (h : Bq w B a n bs) (hn : n ≤ 1099511627776) (E : Hk (¬ ascB bs)) :
    Calls Try.prog 69 #[.slice a n c] w fun e w' => e = .returned (.bool false) ∧ ∃ m, w' = w.drewN m := asc8_as false a n c B bs w h hn ⟨by simp [E.out]⟩
theorem ids8_yes (a : Option Addr) (n c B : Nat) (bs : List Bd) (w : World) (h : Bq w B a n bs) (hn : n ≤ 1099511627776) (E : Hk (ascB bs)) :
    Calls Try.prog 24 #[.slice a n c] w fun e w' => e = .returned (.bool true) ∧ ∃ m, w' = w.drewN m := ids8_as true a n c B bs w h hn ⟨by simp [E.out]⟩
theorem ids8_no (a : Option Addr) (n c B : Nat) (bs : List Bd) (w : World) (h : Bq w B a n bs) (hn : n ≤ 1099511627776) (E : Hk (¬ ascB bs)) :
    Calls Try.prog 24 #[.slice a n c] w fun e w' => e = .returned (.bool false) ∧ ∃ m, w' = w.drewN m := ids8_as false a n c B bs w h hn ⟨by simp [E.out]⟩
end Go.Proofs.Ytjjodfdmbiebnaa
/- Arguments that hold slices of bytes: what is known of them. -/
namespace Go.Proofs.Ytjjodfdmbiebnaa
open Go.ChangeShapes Go.WideShapes Go.ChangeAt Go.RowKit Go.Deep
set_option linter.unusedVariables false
theorem add_plus {b off : Nat} (j : Nat) : (⟨b, off, none⟩ : Addr).add j = ⟨b, off + j, none⟩ := by
  unfold Addr.add; split <;> simp_all
theorem by_of {H : Type} {enc : TypeId × Value → H} {w : World} {base : Nat} {spare : Nat → Bool} {held : Bool} {fuel : Nat} {x : DataW H × List MemPlace} {v : Value}
    (hf : DataW.trod enc Try.prog w base spare held fuel 22 [v] = some x) : ∃ a n c xs, v = .slice a n c ∧ n ≤ c ∧ c ≤ 9223372036854775807 ∧ By w w.heap.size a n xs := by
  rcases open_ints Try.underlying22 Try.underlying5 (by kernel_rfl) hf with ⟨hcs, _⟩ | ⟨a, l, c, zs, hcs, _, hl, hm, hz, _, hc, hwf⟩
  · simp at hcs; subst hcs
    exact ⟨none, 0, 0, [], rfl, by omega, by omega, By.nil _ _ _⟩
  · simp at hcs; subst hcs
    have hzl : l ≤ zs.length := by rw [hz]; split <;> omega
    refine ⟨_, _, _, zs.take l, rfl, hl, hm, by simp; omega, fun b hb => ?_, fun hn => ?_⟩
    · have := bounds_u8 (hwf b (List.mem_of_mem_take hb)); exact this
    · obtain ⟨b, off, spot⟩ := a
      have hs : spot = none := by
        have h0 := World.cell?_spot (hc 0 (by omega))
        simpa [Addr.add] using h0
      subst hs
      refine ⟨b, off, rfl, ?_, fun k hk => ?_⟩
      · have := hc 0 (by omega); rw [add_plus] at this; exact World.block_lt_of_cell? _ _ this
      · have := hc k (by omega)
        rw [add_plus] at this
        rw [this]
        simp [List.getD, hk]
end Go.Proofs.Ytjjodfdmbiebnaa
/- Slices of numbers: what is known of them. -/
namespace Go.Proofs.Ytjjodfdmbiebnaa
open Go.ChangeShapes Go.WideShapes Go.ChangeAt Go.RowKit Go.Deep
set_option linter.unusedVariables false
/-- The slice reads as these numbers. -/
structure Nq (w : World) (B : Nat) (a : Option Addr) (n : Nat) (xs : List Int) : Prop where
  len : xs.length = n
  rd : 0 < n → ∃ b off, a = some ⟨b, off, none⟩ ∧ b < B ∧ ∀ k, k < n → w.cell? ⟨b, off + k, none⟩ = some (.int .i64 (xs.getD k 0))
theorem Nq.below {w w' : World} {B B' n : Nat} {a : Option Addr} {xs : List Int} (h : Nq w B a n xs) (hb : Below B' w w') (hB : B ≤ B') : Nq w' B a n xs := ⟨h.len, fun hn => by
  obtain ⟨b, off, e, hlt, hc⟩ := h.rd hn
  exact ⟨b, off, e, hlt, fun k hk => (hb.cell (p := ⟨b, off + k, none⟩) (Nat.lt_of_lt_of_le hlt hB)).trans (hc k hk)⟩⟩
theorem Nq.mono {w : World} {B B' n : Nat} {a : Option Addr} {xs : List Int} (h : Nq w B a n xs) (hB : B ≤ B') : Nq w B' a n xs := ⟨h.len, fun hn => by
  obtain ⟨b, off, e, hlt, hc⟩ := h.rd hn
  exact ⟨b, off, e, by omega, hc⟩⟩
theorem Nq.drewN {w : World} {B n : Nat} {a : Option Addr} {xs : List Int} (h : Nq w B a n xs) (m : Nat) : Nq (w.drewN m) B a n xs := ⟨h.len, h.rd⟩
theorem Nq.nil (w : World) (B : Nat) (a : Option Addr) : Nq w B a 0 [] := ⟨rfl, fun h => absurd h (by omega)⟩
theorem aq_plus {b off : Nat} (j : Nat) : (⟨b, off, none⟩ : Addr).add j = ⟨b, off + j, none⟩ := by
  unfold Addr.add; split <;> simp_all
theorem nq_of {H : Type} {enc : TypeId × Value → H} {w : World} {base : Nat} {spare : Nat → Bool} {held : Bool} {fuel : Nat} {x : DataW H × List MemPlace} {v : Value}
    (hf : DataW.trod enc Try.prog w base spare held fuel 26 [v] = some x) : ∃ a0 len0 cap0 xs, v = .slice a0 len0 cap0 ∧ len0 ≤ 9223372036854775807 ∧ Nq w w.heap.size a0 len0 xs := by
  rcases open_ints Try.underlying26 Try.underlying3 (by kernel_rfl) hf with ⟨hcs, _⟩ | ⟨a, l, c, zs, hcs, _, hl, hm, hz, _, hc, hwf⟩
  · simp at hcs; subst hcs
    exact ⟨none, 0, 0, [], rfl, by omega, rfl, fun h => absurd h (by omega)⟩
  · simp at hcs; subst hcs
    have hzl : l ≤ zs.length := by rw [hz]; split <;> omega
    refine ⟨_, _, _, zs.take l, rfl, by unfold maxLen at hm; omega, by simp; omega, fun hn => ?_⟩
    obtain ⟨b, off, spot⟩ := a
    have hs : spot = none := by
      have h0 := World.cell?_spot (hc 0 (by omega))
      simpa [Addr.add] using h0
    subst hs
    refine ⟨b, off, rfl, ?_, fun k hk => ?_⟩
    · have := hc 0 (by omega); rw [aq_plus] at this; exact World.block_lt_of_cell? _ _ this
    · have := hc k (by omega)
      rw [aq_plus] at this
      rw [this]
      simp [List.getD, hk]
end Go.Proofs.Ytjjodfdmbiebnaa
