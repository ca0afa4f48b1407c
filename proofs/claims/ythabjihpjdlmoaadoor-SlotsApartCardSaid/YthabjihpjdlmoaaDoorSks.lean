import Derived.Test.YthabjihpjdlmoaaDoorSkr
import Derived.Test.YthabjihpjdlmoaaDoorSkb
import Derived.Test.YthabjihpjdlmoaaDoorSkc
import Derived.Deep.QuietTactic
import Derived.BigQuiet
import Derived.Deep.RegionWith
import Derived.Deep.RegionHeld3
import Derived.Deep.DeepCutAuto
import Derived.Deep.DeepFit
import Derived.Outline
import Derived.Test.YthabjihpjdlmoaaDoorSkg
import Derived.Below
import Derived.BigGuardPart
/- Contracts of layer 17: what a disc meets. -/
namespace Go.Proofs.YthabjihpjdlmoaaDoor
open Go.RowKit
set_option linter.unusedVariables false
theorem bsS_bd {x c : Int} (hx : -1099511627776 ≤ x ∧ x ≤ 1099511627776) (hc : 0 ≤ c ∧ c ≤ 16384) : 0 ≤ bsS x c ∧ bsS x c ≤ 1200000000000 := by
  unfold bsS; (repeat' split) <;> omega
theorem bcellg' {W w1 : World} (hb : Below W.heap.size W w1) : (∀ b o, b < W.heap.size → w1.cell? ⟨b, o, none⟩ = W.cell? ⟨b, o, none⟩) ∧ (∀ b o, b < W.heap.size → w1.frozen? ⟨b, o, none⟩ = W.frozen? ⟨b, o, none⟩) :=
  ⟨fun b o h => hb.cell (p := ⟨b, o, none⟩) h, fun b o h => hb.frozen (p := ⟨b, o, none⟩) h⟩
theorem m_wakes : meetsS 1 0 32768 32768 1 = true := by decide
end Go.Proofs.YthabjihpjdlmoaaDoor
/- Contracts of layer 17: what a disc meets, of the reference. -/
namespace Go.Proofs.YthabjihpjdlmoaaDoor
open Go.RowKit
set_option linter.unusedVariables false
def offS (x lo hi : Int) : Int := if x < lo then lo - x else if hi < x then x - hi else 0
theorem offS_eq (x c : Int) : offS x (c * 65536) (c * 65536 + 65536) = bsS x c := by
  unfold offS bsS
  (repeat' split) <;> omega
theorem rtile_as' (r : Bool) (t W H : Int) (s : Value) (w : World) (w1 : 1 ≤ W) (w2 : W ≤ 128) (h1 : 1 ≤ H) (h2 : H ≤ 128) (R : Hk (decide (0 ≤ t ∧ t < W * H) = r)) :
    Calls Tryd.prog 25 #[.agg #[.int .i64 W, .int .i64 H, s], .int .i64 t] w fun e' w' => e' = .returned (.bool r) ∧ Below w.heap.size w w' := by
  obtain ⟨rfl⟩ := R; exact rtile_any t W H s w w1 w2 h1 h2
end Go.Proofs.YthabjihpjdlmoaaDoor
/- Layer 9: which terrains a class may enter. -/
namespace Go.Proofs.YthabjihpjdlmoaaDoor
open Go.RowKit
set_option linter.unusedVariables false
set_option linter.unusedSimpArgs false
/-- May the class enter the terrain? -/
def opB (c t : Nat) : Bool := decide (0 < ctS c t)
theorem opB_iff (c t : Nat) : opB c t = decide (0 < ctS c t) := rfl
set_option maxRecDepth 100000 in
set_option maxHeartbeats 800000 in
theorem terr_any (c : Nat) (w : World) (hL : LC w) (hc3 : c < 3) :
    Calls Tryd.prog 108 #[.int .i64 c] w fun e w' => e = .returned (.agg #[.bool (opB c 0), .bool (opB c 1), .bool (opB c 2), .bool (opB c 3), .bool (opB c 4), .bool (opB c 5)]) ∧ Below w.heap.size w w' := by
  have HWB : Hk (Below w.heap.size w ((w.alloc (.cells #[.bool false, .bool false, .bool false, .bool false, .bool false, .bool false] 149)).alloc (.cells #[.bool false, .bool false, .bool false, .bool false, .bool false, .bool false] 149))) := ⟨((Below.refl _ _).alloc (Nat.le_refl _) _).alloc (by simp) _⟩
  have hNW : w.heap.size + 1 ≤ ((w.alloc (.cells #[.bool false, .bool false, .bool false, .bool false, .bool false, .bool false] 149)).alloc (.cells #[.bool false, .bool false, .bool false, .bool false, .bool false, .bool false] 149)).heap.size := by simp
  have HB : Hk (Below (w.heap.size + 1) ((w.alloc (.cells #[.bool false, .bool false, .bool false, .bool false, .bool false, .bool false] 149)).alloc (.cells #[.bool false, .bool false, .bool false, .bool false, .bool false, .bool false] 149)) ((w.alloc (.cells #[.bool false, .bool false, .bool false, .bool false, .bool false, .bool false] 149)).alloc (.cells #[.bool false, .bool false, .bool false, .bool false, .bool false, .bool false] 149))) := ⟨Below.refl _ _⟩
  have HLL : Hk (∀ X, Below (w.heap.size + 1) ((w.alloc (.cells #[.bool false, .bool false, .bool false, .bool false, .bool false, .bool false] 149)).alloc (.cells #[.bool false, .bool false, .bool false, .bool false, .bool false, .bool false] 149)) X → LC X) := ⟨fun X hX => hL.below (HWB.out.trans (hX.mono (by omega))) (Nat.le_refl _)⟩
  have HA : Hk (Arr ((w.alloc (.cells #[.bool false, .bool false, .bool false, .bool false, .bool false, .bool false] 149)).alloc (.cells #[.bool false, .bool false, .bool false, .bool false, .bool false, .bool false] 149)) (w.heap.size + 1) 6 149 (fun j => .bool (if j < 0 then opB c j else false))) := ⟨by
    have h := Arr.new (w.alloc (.cells #[.bool false, .bool false, .bool false, .bool false, .bool false, .bool false] 149)) #[.bool false, .bool false, .bool false, .bool false, .bool false, .bool false] 149 (fun j => .bool (if j < 0 then opB c j else false)) 6 rfl (fun k hk => by
      match k, hk with
      | 0, _ | 1, _ | 2, _ | 3, _ | 4, _ | 5, _ => rfl)
    simpa using h⟩
  have HZ : Hk (∀ X, Below (w.heap.size + 1) ((w.alloc (.cells #[.bool false, .bool false, .bool false, .bool false, .bool false, .bool false] 149)).alloc (.cells #[.bool false, .bool false, .bool false, .bool false, .bool false, .bool false] 149)) X → ∀ j, j < 6 → X.cell? ⟨w.heap.size, j, none⟩ = some (.bool false) ∧ X.frozen? ⟨w.heap.size, j, none⟩ = false) := ⟨fun X hX j hj => by
    rw [hX.cell (p := ⟨w.heap.size, j, none⟩) (by show w.heap.size < _; omega), hX.frozen (p := ⟨w.heap.size, j, none⟩) (by show w.heap.size < _; omega)]
    match j, hj with
    | 0, _ | 1, _ | 2, _ | 3, _ | 4, _ | 5, _ => exact ⟨by go_simp, by go_simp⟩⟩
  clear hL
  go_enter Tryd.func108, Tryd.ntmps108
  go_wp2_with fail
  go_loopw [7] (fun i wr => ∃ k : Nat, i = .int .i64 k ∧ k ≤ 6 ∧ Hk (Below (w.heap.size + 1) ((w.alloc (.cells #[.bool false, .bool false, .bool false, .bool false, .bool false, .bool false] 149)).alloc (.cells #[.bool false, .bool false, .bool false, .bool false, .bool false, .bool false] 149)) wr) ∧ Hk (Arr wr (w.heap.size + 1) 6 149 (fun j => .bool (if j < k then opB c j else false)))) (fun i _ => 6 - (intOf i).toNat)
  case atStart => exact ⟨0, rfl, by omega, HB, HA⟩
  case round =>
    clear HA HB
    obtain ⟨k, rfl, hk, HB, HA⟩ := hrel
    by_cases hk6 : k < 6
    · obtain ⟨r, hr⟩ : ∃ r, ctS c k = r := ⟨_, rfl⟩
      have HR := Hk.mk hr
      have t0 : (0 : Int) ≤ (k : Int) := by omega
      have t1 : (k : Int) < 6 := by omega
      have a0 : wr.cell? ⟨w.heap.size + 1, k, none⟩ = some (.bool false) := by rw [HA.out.cell hk6, if_neg (by omega)]
      have az := HA.out.frozen k
      clear hr
      go_wp2_with (go_at_call 109; (with_reducible refine (costC_as c k _ _ r _ (HLL.out _ HB.out) hc3 hk6 ⟨rfl⟩ ?_ HR).mono ?_); (exact ⟨by first | rfl | (simp; omega) | omega⟩); rintro e w' ⟨rfl, rfl⟩)
      exact ⟨⟨k + 1, by go_num, by omega, ⟨Below.setCell (p := ⟨w.heap.size + 1, k, none⟩) HB.out (Nat.le_refl _) _⟩, ⟨(HA.out.set hk6 (.bool (decide (0 < r)))).congr fun j hj => by
        by_cases e : j = k
        · subst e; rw [if_pos rfl, if_pos (by omega), opB_iff, HR.out]
        · rw [if_neg e]
          by_cases e2 : j < k
          · rw [if_pos e2, if_pos (by omega)]
          · rw [if_neg e2, if_neg (by omega)]⟩⟩, by simp [intOf]; omega⟩
    · have hk' : k = 6 := by omega
      subst hk'
      have c0 := HA.out.cell (show 0 < 6 by omega)
      have c1 := HA.out.cell (show 1 < 6 by omega)
      have c2 := HA.out.cell (show 2 < 6 by omega)
      have c3 := HA.out.cell (show 3 < 6 by omega)
      have c4 := HA.out.cell (show 4 < 6 by omega)
      have c5 := HA.out.cell (show 5 < 6 by omega)
      simp only [show (0 < 6) = True by simp, show (1 < 6) = True by simp, show (2 < 6) = True by simp, show (3 < 6) = True by simp, show (4 < 6) = True by simp, show (5 < 6) = True by simp, if_true] at c0 c1 c2 c3 c4 c5
      obtain ⟨z0, y0⟩ := HZ.out _ HB.out 0 (by omega)
      obtain ⟨z1, y1⟩ := HZ.out _ HB.out 1 (by omega)
      obtain ⟨z2, y2⟩ := HZ.out _ HB.out 2 (by omega)
      obtain ⟨z3, y3⟩ := HZ.out _ HB.out 3 (by omega)
      obtain ⟨z4, y4⟩ := HZ.out _ HB.out 4 (by omega)
      obtain ⟨z5, y5⟩ := HZ.out _ HB.out 5 (by omega)
      have hwl : w.heap.size < wr.heap.size := by have := HB.out.size; simp at this; omega
      obtain ⟨b0, e0⟩ : ∃ b0, opB c 0 = b0 := ⟨_, rfl⟩
      rw [e0] at c0
      have E0 := Hk.mk e0
      clear e0
      obtain ⟨b1, e1⟩ : ∃ b1, opB c 1 = b1 := ⟨_, rfl⟩
      rw [e1] at c1
      have E1 := Hk.mk e1
      clear e1
      obtain ⟨b2, e2⟩ : ∃ b2, opB c 2 = b2 := ⟨_, rfl⟩
      rw [e2] at c2
      have E2 := Hk.mk e2
      clear e2
      obtain ⟨b3, e3⟩ : ∃ b3, opB c 3 = b3 := ⟨_, rfl⟩
      rw [e3] at c3
      have E3 := Hk.mk e3
      clear e3
      obtain ⟨b4, e4⟩ : ∃ b4, opB c 4 = b4 := ⟨_, rfl⟩
      rw [e4] at c4
      have E4 := Hk.mk e4
      clear e4
      obtain ⟨b5, e5⟩ : ∃ b5, opB c 5 = b5 := ⟨_, rfl⟩
      rw [e5] at c5
      have E5 := Hk.mk e5
      clear e5
      go_wp2
      refine bodyPost_ret (v := .agg #[.bool b0, .bool b1, .bool b2, .bool b3, .bool b4, .bool b5]) (by simp [results, Tryd.results108, go_sem, *]) rfl ⟨by rw [E0.out, E1.out, E2.out, E3.out, E4.out, E5.out], ?_⟩
      exact bset (bset (bset (bset (bset (bset (HWB.out.trans (HB.out.mono (by omega))) 0 (Nat.le_refl _) _) 1 (Nat.le_refl _) _) 2 (Nat.le_refl _) _) 3 (Nat.le_refl _) _) 4 (Nat.le_refl _) _) 5 (Nat.le_refl _) _
end Go.Proofs.YthabjihpjdlmoaaDoor
/- Plain words of layer 8: buildings. -/
namespace Go.Proofs.YthabjihpjdlmoaaDoor
open Go.RowKit
set_option linter.unusedVariables false
structure Bd where
  i : Int
  o : Int
  x : Int
  y : Int
  w : Int
  h : Int
instance : Inhabited Bd := ⟨⟨0, 0, 0, 0, 0, 0⟩⟩
def Bd.v (b : Bd) : Value := .agg #[.int .i64 b.i, .int .i64 b.o, .int .i64 b.x, .int .i64 b.y, .int .i64 b.w, .int .i64 b.h]
def Bd.c (b : Bd) : Nat → Int
  | 0 => b.i
  | 1 => b.o
  | 2 => b.x
  | 3 => b.y
  | 4 => b.w
  | _ => b.h
/-- An ID, an owner, sides that may be. -/
def fmB (b : Bd) : Bool := decide (1 ≤ b.i ∧ b.i ≤ 1099511627776 ∧ 1 ≤ b.o ∧ b.o ≤ 8 ∧ 1 ≤ b.w ∧ b.w ≤ 4 ∧ 1 ≤ b.h ∧ b.h ≤ 4)
structure FmOk (b : Bd) : Prop where
  i1 : 1 ≤ b.i
  i2 : b.i ≤ 1099511627776
  o1 : 1 ≤ b.o
  o2 : b.o ≤ 8
  w1 : 1 ≤ b.w
  w2 : b.w ≤ 4
  h1 : 1 ≤ b.h
  h2 : b.h ≤ 4
theorem fmB_iff {b : Bd} : fmB b = true ↔ FmOk b := by
  unfold fmB; rw [decide_eq_true_iff]
  exact ⟨fun ⟨a, b, c, d, e, f, g, h⟩ => ⟨a, b, c, d, e, f, g, h⟩, fun ⟨a, b, c, d, e, f, g, h⟩ => ⟨a, b, c, d, e, f, g, h⟩⟩
/-- All its tiles on the ground. -/
def inB (W H : Int) (b : Bd) : Bool := decide (0 ≤ b.x ∧ b.x ≤ W - b.w ∧ 0 ≤ b.y ∧ b.y ≤ H - b.h)
structure InOk (W H : Int) (b : Bd) : Prop where
  x1 : 0 ≤ b.x
  x2 : b.x ≤ W - b.w
  y1 : 0 ≤ b.y
  y2 : b.y ≤ H - b.h
theorem inB_iff {W H : Int} {b : Bd} : inB W H b = true ↔ InOk W H b := by
  unfold inB; rw [decide_eq_true_iff]
  exact ⟨fun ⟨a, b, c, d⟩ => ⟨a, b, c, d⟩, fun ⟨a, b, c, d⟩ => ⟨a, b, c, d⟩⟩
/-- A tile of it. -/
def hsB (W : Int) (b : Bd) (t : Int) : Bool := decide (b.x ≤ t % W ∧ t % W < b.x + b.w ∧ b.y ≤ t / W ∧ t / W < b.y + b.h)
theorem hsB_iff {W t : Int} {b : Bd} : hsB W b t = true ↔ (b.x ≤ t % W ∧ t % W < b.x + b.w ∧ b.y ≤ t / W ∧ t / W < b.y + b.h) := by unfold hsB; rw [decide_eq_true_iff]
/-- The k-th of its tiles. -/
def undAt (W : Int) (b : Bd) (k : Nat) : Int := b.x + ((k % b.w.toNat : Nat) : Int) + W * (b.y + ((k / b.w.toNat : Nat) : Int))
def undL (W : Int) (b : Bd) : List Int := (List.range (b.w.toNat * b.h.toNat)).map (undAt W b)
theorem undL_len (W : Int) (b : Bd) : (undL W b).length = b.w.toNat * b.h.toNat := by unfold undL; simp
theorem undL_getD (W : Int) (b : Bd) (k : Nat) (hk : k < b.w.toNat * b.h.toNat) : (undL W b).getD k 0 = undAt W b k := by unfold undL; simp [List.getD, hk]
theorem und_md {W H : Int} {b : Bd} (f : FmOk b) (i : InOk W H b) {k : Nat} (hk : k < b.w.toNat * b.h.toNat) :
    undAt W b k % W = b.x + ((k % b.w.toNat : Nat) : Int) ∧ undAt W b k / W = b.y + ((k / b.w.toNat : Nat) : Int) ∧ 0 ≤ undAt W b k ∧ undAt W b k < W * H ∧
    ((k % b.w.toNat : Nat) : Int) < b.w ∧ ((k / b.w.toNat : Nat) : Int) < b.h ∧ 0 ≤ ((k % b.w.toNat : Nat) : Int) ∧ 0 ≤ ((k / b.w.toNat : Nat) : Int) := by
  obtain ⟨_, _, _, _, w1, w2, h1, h2⟩ := f
  obtain ⟨x1, x2, y1, y2⟩ := i
  have m1 : k % b.w.toNat < b.w.toNat := Nat.mod_lt _ (by omega)
  have d1 : k / b.w.toNat < b.h.toNat := Nat.div_lt_of_lt_mul hk
  have e1 : ((k % b.w.toNat : Nat) : Int) < b.w := by omega
  have e2 : ((k / b.w.toNat : Nat) : Int) < b.h := by omega
  have a0 : 0 ≤ ((k % b.w.toNat : Nat) : Int) := Int.natCast_nonneg _
  have d0 : 0 ≤ ((k / b.w.toNat : Nat) : Int) := Int.natCast_nonneg _
  generalize hA : ((k % b.w.toNat : Nat) : Int) = A at *
  generalize hD : ((k / b.w.toNat : Nat) : Int) = D at *
  have em : (b.x + A + W * (b.y + D)) % W = b.x + A := by rw [Int.add_mul_emod_self_left]; exact Int.emod_eq_of_lt (by omega) (by omega)
  have ed : (b.x + A + W * (b.y + D)) / W = b.y + D := by rw [Int.add_mul_ediv_left _ _ (by omega), Int.ediv_eq_zero_of_lt (by omega) (by omega)]; omega
  have p0 : 0 ≤ W * (b.y + D) := Int.mul_nonneg (by omega) (by omega)
  have p1 : W * (b.y + D) ≤ W * (H - 1) := Int.mul_le_mul_of_nonneg_left (by omega) (by omega)
  have p2 : W * (H - 1) = W * H - W := by rw [Int.mul_sub, Int.mul_one]
  unfold undAt
  rw [hA, hD]
  exact ⟨em, ed, by omega, by omega, e1, e2, a0, d0⟩
theorem und_mem {W H : Int} {b : Bd} (f : FmOk b) (i : InOk W H b) {t : Int} (t0 : 0 ≤ t) : t ∈ undL W b ↔ hsB W b t = true := by
  rw [hsB_iff]
  constructor
  · intro h
    obtain ⟨k, hk, rfl⟩ := List.mem_map.1 h
    obtain ⟨h1, h2, _, _, h5, h6, h7, h8⟩ := und_md f i (List.mem_range.1 hk)
    omega
  · rintro ⟨h1, h2, h3, h4⟩
    have hw := f.w1
    have hh := f.h1
    obtain ⟨A, hA⟩ : ∃ A : Nat, t % W - b.x = A := ⟨(t % W - b.x).toNat, by omega⟩
    obtain ⟨D, hD⟩ : ∃ D : Nat, t / W - b.y = D := ⟨(t / W - b.y).toNat, by omega⟩
    have a1 : A < b.w.toNat := by omega
    have d1 : D < b.h.toNat := by omega
    have hk : b.w.toNat * D + A < b.w.toNat * b.h.toNat := by
      have := Nat.mul_le_mul_left b.w.toNat (show D + 1 ≤ b.h.toNat by omega)
      rw [Nat.mul_add, Nat.mul_one] at this
      omega
    refine List.mem_map.2 ⟨b.w.toNat * D + A, List.mem_range.2 hk, ?_⟩
    unfold undAt
    rw [Nat.mul_add_mod, Nat.mod_eq_of_lt a1, Nat.mul_add_div (by omega), Nat.div_eq_of_lt a1, Nat.add_zero]
    have := Int.emod_add_mul_ediv t W
    rw [← hA, ← hD, show b.x + (t % W - b.x) = t % W by omega, show b.y + (t / W - b.y) = t / W by omega]
    omega
theorem und_once {W H : Int} {b : Bd} (f : FmOk b) (i : InOk W H b) {k : Nat} (hk : k < b.w.toNat * b.h.toNat) : undAt W b k ∉ (undL W b).take k := by
  intro hm
  obtain ⟨j, hj, he⟩ := List.mem_iff_getElem.1 hm
  rw [List.length_take, undL_len] at hj
  rw [List.getElem_take] at he
  have hj' : j < b.w.toNat * b.h.toNat := by omega
  have he' : undAt W b j = undAt W b k := by rw [← he]; unfold undL; simp
  obtain ⟨a1, a2, _⟩ := und_md f i hk
  obtain ⟨c1, c2, _⟩ := und_md f i hj'
  rw [he'] at c1 c2
  have e1 : k % b.w.toNat = j % b.w.toNat := by omega
  have e2 : k / b.w.toNat = j / b.w.toNat := by omega
  have := Nat.mod_add_div k b.w.toNat
  have := Nat.mod_add_div j b.w.toNat
  rw [e1, e2] at *
  omega
/-- Plain tiles or roads alone under it. -/
def frB (W : Int) (xs : List Int) (b : Bd) : Bool := (undL W b).all fun t => decide (xs.getD t.toNat 0 ≤ 1)
/-- A tile of both. -/
def mtB (a b : Bd) : Bool := decide (a.x < b.x + b.w ∧ b.x < a.x + a.w ∧ a.y < b.y + b.h ∧ b.y < a.y + a.h)
theorem mtB_iff {a b : Bd} : mtB a b = true ↔ (a.x < b.x + b.w ∧ b.x < a.x + a.w ∧ a.y < b.y + b.h ∧ b.y < a.y + a.h) := by unfold mtB; rw [decide_eq_true_iff]
theorem mt_comm (a b : Bd) : mtB a b = mtB b a := by
  rw [Bool.eq_iff_iff, mtB_iff, mtB_iff]; omega
theorem mt_of {W t : Int} {a b : Bd} (ha : hsB W a t = true) (hb : hsB W b t = true) : mtB a b = true := by
  rw [hsB_iff] at ha hb; rw [mtB_iff]; omega
theorem mt_tile {W H : Int} {a b : Bd} (fa : FmOk a) (ia : InOk W H a) (fb : FmOk b) (ib : InOk W H b) (h : mtB a b = true) : ∃ k, k < b.w.toNat * b.h.toNat ∧ hsB W a (undAt W b k) = true := by
  rw [mtB_iff] at h
  obtain ⟨h1, h2, h3, h4⟩ := h
  have fa1 := fa.w1; have fa2 := fa.h1; have fb1 := fb.w1; have fb2 := fb.h1
  have ia1 := ia.x1; have ia2 := ia.x2; have ia3 := ia.y1; have ia4 := ia.y2
  have ib1 := ib.x1; have ib2 := ib.x2; have ib3 := ib.y1; have ib4 := ib.y2
  have hx : ∃ X, a.x ≤ X ∧ X < a.x + a.w ∧ b.x ≤ X ∧ X < b.x + b.w := ⟨max a.x b.x, by omega, by omega, by omega, by omega⟩
  have hy : ∃ Y, a.y ≤ Y ∧ Y < a.y + a.h ∧ b.y ≤ Y ∧ Y < b.y + b.h := ⟨max a.y b.y, by omega, by omega, by omega, by omega⟩
  obtain ⟨X, x1, x2, x3, x4⟩ := hx
  obtain ⟨Y, y1, y2, y3, y4⟩ := hy
  have em : (X + W * Y) % W = X := by rw [Int.add_mul_emod_self_left]; exact Int.emod_eq_of_lt (by omega) (by omega)
  have ed : (X + W * Y) / W = Y := by rw [Int.add_mul_ediv_left _ _ (by omega), Int.ediv_eq_zero_of_lt (by omega) (by omega)]; omega
  have t0 : 0 ≤ X + W * Y := by have := Int.mul_nonneg (show 0 ≤ W by omega) (show 0 ≤ Y by omega); omega
  have hb : hsB W b (X + W * Y) = true := hsB_iff.2 (by rw [em, ed]; omega)
  have ha : hsB W a (X + W * Y) = true := hsB_iff.2 (by rw [em, ed]; omega)
  obtain ⟨k, hk, e⟩ := List.mem_map.1 ((und_mem fb ib t0).2 hb)
  exact ⟨k, List.mem_range.1 hk, by rw [e]; exact ha⟩
/-- IDs rising. -/
def ascB (bs : List Bd) : Prop := ∀ k, k + 1 < bs.length → (bs.getD k default).i < (bs.getD (k + 1) default).i
/-- Does any of them cover the tile? -/
def cvB (W : Int) (bs : List Bd) (t : Int) : Bool := bs.any fun b => hsB W b t
/-- A ground and buildings on it that may be. -/
structure MOk (W H : Int) (n : Nat) (xs : List Int) (bs : List Bd) : Prop where
  g : GOk W H n xs
  len : bs.length ≤ 256
  asc : ascB bs
  fm : ∀ b ∈ bs, FmOk b
  ins : ∀ b ∈ bs, InOk W H b
  fr : ∀ b ∈ bs, frB W xs b = true
  ap : ∀ i j, j < i → i < bs.length → mtB (bs.getD i default) (bs.getD j default) = false
theorem getD_memB {bs : List Bd} {k : Nat} (h : k < bs.length) : bs.getD k default ∈ bs := by
  have : bs.getD k default = bs[k] := by simp [List.getD, List.getElem?_eq_getElem h]
  rw [this]; exact List.getElem_mem h
theorem mem_getDB {bs : List Bd} {b : Bd} (h : b ∈ bs) : ∃ k, k < bs.length ∧ bs.getD k default = b := by
  obtain ⟨k, hk, e⟩ := List.mem_iff_getElem.1 h
  exact ⟨k, hk, by rw [← e]; simp [List.getD, List.getElem?_eq_getElem hk]⟩
theorem take_succB {bs : List Bd} {k : Nat} (h : k < bs.length) : bs.take (k + 1) = bs.take k ++ [bs.getD k default] := by
  rw [List.take_succ_eq_append_getElem h]; simp [List.getD, List.getElem?_eq_getElem h]
theorem getD_takeB {bs : List Bd} {k j : Nat} (h : j < k) : (bs.take k).getD j default = bs.getD j default := by
  simp [List.getD, h]
theorem cvB_snoc (W : Int) (bs : List Bd) (b : Bd) (t : Int) : cvB W (bs ++ [b]) t = (cvB W bs t || hsB W b t) := by unfold cvB; simp
end Go.Proofs.YthabjihpjdlmoaaDoor
/- Layer 8: a building alone. -/
namespace Go.Proofs.YthabjihpjdlmoaaDoor
open Go.RowKit
set_option linter.unusedVariables false
/-- An equation of two tests. -/
theorem beq_of {a b : Bool} (h : a = true ↔ b = true) : a = b := Bool.eq_iff_iff.2 h
theorem formed_any (b : Bd) (w : World) :
    Calls Tryd.prog 130 #[.agg #[.int .i64 b.i, .int .i64 b.o, .int .i64 b.x, .int .i64 b.y, .int .i64 b.w, .int .i64 b.h]] w fun e w' => e = .returned (.bool (fmB b)) ∧ Below w.heap.size w w' := by
  go_enter Tryd.func130, Tryd.ntmps130
  go_wp2
  all_goals
    go_ret
    exact ⟨rbo (by unfold fmB; apply beq_of; simp; omega), (Below.refl _ _).alloc (Nat.le_refl _) _⟩
theorem inside_any (W H : Int) (a : Option Addr) (n c : Nat) (b : Bd) (w : World) (w1 : 1 ≤ W) (w2 : W ≤ 128) (h1 : 1 ≤ H) (h2 : H ≤ 128) (f : FmOk b) :
    Calls Tryd.prog 131 #[.agg #[.int .i64 W, .int .i64 H, .slice a n c], .agg #[.int .i64 b.i, .int .i64 b.o, .int .i64 b.x, .int .i64 b.y, .int .i64 b.w, .int .i64 b.h]] w fun e w' => e = .returned (.bool (inB W H b)) ∧ Below w.heap.size w w' := by
  have q1 := f.w1; have q2 := f.w2; have q3 := f.h1; have q4 := f.h2
  clear f
  go_enter Tryd.func131, Tryd.ntmps131
  go_wp2
  all_goals
    go_ret
    exact ⟨rbo (by unfold inB; apply beq_of; simp; omega), ((Below.refl _ _).alloc (Nat.le_refl _) _).alloc (by simp) _⟩
theorem sides_any (b : Bd) (w : World) :
    Calls Tryd.prog 85 #[.agg #[.int .i64 b.i, .int .i64 b.o, .int .i64 b.x, .int .i64 b.y, .int .i64 b.w, .int .i64 b.h]] w fun e w' => e = .returned (.bool (fmB b)) ∧ Below w.heap.size w w' := by
  go_enter Tryd.func85, Tryd.ntmps85
  go_wp2
  all_goals
    go_ret
    exact ⟨rbo (by unfold fmB; apply beq_of; simp; omega), (Below.refl _ _).alloc (Nat.le_refl _) _⟩
theorem on_any (W H : Int) (a : Option Addr) (n c : Nat) (b : Bd) (w : World) (w1 : 1 ≤ W) (w2 : W ≤ 128) (h1 : 1 ≤ H) (h2 : H ≤ 128) (f : FmOk b) :
    Calls Tryd.prog 86 #[.agg #[.int .i64 W, .int .i64 H, .slice a n c], .agg #[.int .i64 b.i, .int .i64 b.o, .int .i64 b.x, .int .i64 b.y, .int .i64 b.w, .int .i64 b.h]] w fun e w' => e = .returned (.bool (inB W H b)) ∧ Below w.heap.size w w' := by
  have q1 := f.w1; have q2 := f.w2; have q3 := f.h1; have q4 := f.h2
  clear f
  go_enter Tryd.func86, Tryd.ntmps86
  go_wp2
  all_goals
    go_ret
    exact ⟨rbo (by unfold inB; apply beq_of; simp; omega), ((Below.refl _ _).alloc (Nat.le_refl _) _).alloc (by simp) _⟩
theorem meet_any (b b' : Bd) (w : World) (W H : Int) (w2 : W ≤ 128) (h2 : H ≤ 128) (f : FmOk b) (f' : FmOk b') (i : InOk W H b) (i' : InOk W H b') :
    Calls Tryd.prog 88 #[.agg #[.int .i64 b.i, .int .i64 b.o, .int .i64 b.x, .int .i64 b.y, .int .i64 b.w, .int .i64 b.h], .agg #[.int .i64 b'.i, .int .i64 b'.o, .int .i64 b'.x, .int .i64 b'.y, .int .i64 b'.w, .int .i64 b'.h]] w fun e w' => e = .returned (.bool (mtB b b')) ∧ Below w.heap.size w w' := by
  have q1 := f.w1; have q2 := f.w2; have q3 := f.h1; have q4 := f.h2
  have r1 := f'.w1; have r2 := f'.w2; have r3 := f'.h1; have r4 := f'.h2
  have q5 := i.x1; have q6 := i.x2; have q7 := i.y1; have q8 := i.y2
  have r5 := i'.x1; have r6 := i'.x2; have r7 := i'.y1; have r8 := i'.y2
  clear f f' i i'
  go_enter Tryd.func88, Tryd.ntmps88
  go_wp2
  all_goals
    go_ret
    exact ⟨rbo (by unfold mtB; apply beq_of; simp; omega), ((Below.refl _ _).alloc (Nat.le_refl _) _).alloc (by simp) _⟩
theorem has_any (W H t : Int) (a : Option Addr) (n c : Nat) (b : Bd) (w : World) (w1 : 1 ≤ W) (w2 : W ≤ 128) (h1 : 1 ≤ H) (h2 : H ≤ 128) (t0 : 0 ≤ t) (t1 : t ≤ 16384) (f : FmOk b) (i : InOk W H b) :
    Calls Tryd.prog 111 #[.agg #[.int .i64 W, .int .i64 H, .slice a n c], .agg #[.int .i64 b.i, .int .i64 b.o, .int .i64 b.x, .int .i64 b.y, .int .i64 b.w, .int .i64 b.h], .int .i64 t] w fun e w' => e = .returned (.bool (hsB W b t)) ∧ Below w.heap.size w w' := by
  have q1 := f.w1; have q2 := f.w2; have q3 := f.h1; have q4 := f.h2
  have q5 := i.x1; have q6 := i.x2; have q7 := i.y1; have q8 := i.y2
  clear f i
  have x0 := Int.emod_nonneg t (show W ≠ 0 by omega)
  have x1 := Int.emod_lt_of_pos t (show 0 < W by omega)
  have y0 : 0 ≤ t / W := Int.ediv_nonneg t0 (by omega)
  have y1 : t / W ≤ t := Int.ediv_le_self _ t0
  go_enter Tryd.func111, Tryd.ntmps111
  go_wp2_with fail
  go_quiet (fail)
  go_wp2
  all_goals
    go_ret
    exact ⟨rbo (by unfold hsB; apply beq_of; simp; omega), below_drewN (((Below.refl _ _).alloc (Nat.le_refl _) _).alloc (by simp) _) _⟩
theorem has_as (r : Bool) (W H t : Int) (a : Option Addr) (n c : Nat) (b : Bd) (w : World) (w1 : 1 ≤ W) (w2 : W ≤ 128) (h1 : 1 ≤ H) (h2 : H ≤ 128) (t0 : 0 ≤ t) (t1 : t ≤ 16384) (f : FmOk b) (i : InOk W H b) (E : Hk (hsB W b t = r)) :
    Calls Tryd.prog 111 #[.agg #[.int .i64 W, .int .i64 H, .slice a n c], .agg #[.int .i64 b.i, .int .i64 b.o, .int .i64 b.x, .int .i64 b.y, .int .i64 b.w, .int .i64 b.h], .int .i64 t] w fun e w' => e = .returned (.bool r) ∧ Below w.heap.size w w' := by
  obtain ⟨rfl⟩ := E; exact has_any W H t a n c b w w1 w2 h1 h2 t0 t1 f i
theorem formed_as (r : Bool) (b : Bd) (w : World) (E : Hk (fmB b = r)) :
    Calls Tryd.prog 130 #[.agg #[.int .i64 b.i, .int .i64 b.o, .int .i64 b.x, .int .i64 b.y, .int .i64 b.w, .int .i64 b.h]] w fun e w' => e = .returned (.bool r) ∧ Below w.heap.size w w' := by
  obtain ⟨rfl⟩ := E; exact formed_any b w
theorem sides_as (r : Bool) (b : Bd) (w : World) (E : Hk (fmB b = r)) :
    Calls Tryd.prog 85 #[.agg #[.int .i64 b.i, .int .i64 b.o, .int .i64 b.x, .int .i64 b.y, .int .i64 b.w, .int .i64 b.h]] w fun e w' => e = .returned (.bool r) ∧ Below w.heap.size w w' := by
  obtain ⟨rfl⟩ := E; exact sides_any b w
theorem inside_as (r : Bool) (W H : Int) (a : Option Addr) (n c : Nat) (b : Bd) (w : World) (w1 : 1 ≤ W) (w2 : W ≤ 128) (h1 : 1 ≤ H) (h2 : H ≤ 128) (f : FmOk b) (E : Hk (inB W H b = r)) :
    Calls Tryd.prog 131 #[.agg #[.int .i64 W, .int .i64 H, .slice a n c], .agg #[.int .i64 b.i, .int .i64 b.o, .int .i64 b.x, .int .i64 b.y, .int .i64 b.w, .int .i64 b.h]] w fun e w' => e = .returned (.bool r) ∧ Below w.heap.size w w' := by
  obtain ⟨rfl⟩ := E; exact inside_any W H a n c b w w1 w2 h1 h2 f
theorem on_as (r : Bool) (W H : Int) (a : Option Addr) (n c : Nat) (b : Bd) (w : World) (w1 : 1 ≤ W) (w2 : W ≤ 128) (h1 : 1 ≤ H) (h2 : H ≤ 128) (f : FmOk b) (E : Hk (inB W H b = r)) :
    Calls Tryd.prog 86 #[.agg #[.int .i64 W, .int .i64 H, .slice a n c], .agg #[.int .i64 b.i, .int .i64 b.o, .int .i64 b.x, .int .i64 b.y, .int .i64 b.w, .int .i64 b.h]] w fun e w' => e = .returned (.bool r) ∧ Below w.heap.size w w' := by
  obtain ⟨rfl⟩ := E; exact on_any W H a n c b w w1 w2 h1 h2 f
theorem meet_as (r : Bool) (b b' : Bd) (w : World) (W H : Int) (w2 : W ≤ 128) (h2 : H ≤ 128) (f : FmOk b) (f' : FmOk b') (i : InOk W H b) (i' : InOk W H b') (E : Hk (mtB b b' = r)) :
    Calls Tryd.prog 88 #[.agg #[.int .i64 b.i, .int .i64 b.o, .int .i64 b.x, .int .i64 b.y, .int .i64 b.w, .int .i64 b.h], .agg #[.int .i64 b'.i, .int .i64 b'.o, .int .i64 b'.x, .int .i64 b'.y, .int .i64 b'.w, .int .i64 b'.h]] w fun e w' => e = .returned (.bool r) ∧ Below w.heap.size w w' := by
  obtain ⟨rfl⟩ := E; exact meet_any b b' w W H w2 h2 f f' i i'
end Go.Proofs.YthabjihpjdlmoaaDoor
/- Layer 8: slices of buildings; whether their IDs rise. -/
namespace Go.Proofs.YthabjihpjdlmoaaDoor
open Go.RowKit
set_option linter.unusedVariables false
/-- The slice reads as these buildings. -/
structure Bq (w : World) (B : Nat) (a : Option Addr) (n : Nat) (bs : List Bd) : Prop where
  len : bs.length = n
  rd : 0 < n → ∃ b off, a = some ⟨b, off, none⟩ ∧ b < B ∧ ∀ k, k < n → ∀ i, i < 6 → w.cell? ⟨b, off + k * 6 + i, none⟩ = some (.int .i64 ((bs.getD k default).c i))
theorem Bq.below {w w' : World} {B B' n : Nat} {a : Option Addr} {bs : List Bd} (h : Bq w B a n bs) (hb : Below B' w w') (hB : B ≤ B') : Bq w' B a n bs := ⟨h.len, fun hn => by
  obtain ⟨b, off, e, hlt, hc⟩ := h.rd hn
  exact ⟨b, off, e, hlt, fun k hk i hi => (hb.cell (p := ⟨b, off + k * 6 + i, none⟩) (Nat.lt_of_lt_of_le hlt hB)).trans (hc k hk i hi)⟩⟩
theorem Bq.mono {w : World} {B B' n : Nat} {a : Option Addr} {bs : List Bd} (h : Bq w B a n bs) (hB : B ≤ B') : Bq w B' a n bs := ⟨h.len, fun hn => by
  obtain ⟨b, off, e, hlt, hc⟩ := h.rd hn
  exact ⟨b, off, e, by omega, hc⟩⟩
theorem Bq.drewN {w : World} {B n : Nat} {a : Option Addr} {bs : List Bd} (h : Bq w B a n bs) (m : Nat) : Bq (w.drewN m) B a n bs := ⟨h.len, h.rd⟩
theorem Bq.nil (w : World) (B : Nat) (a : Option Addr) : Bq w B a 0 [] := ⟨rfl, fun h => absurd h (by omega)⟩
/-- The cells of one of them. -/
theorem Bq.six {w : World} {B n : Nat} {a : Option Addr} {bs : List Bd} (h : Bq w B a n bs) {k : Nat} (hk : k < n) : ∃ b off, a = some ⟨b, off, none⟩ ∧ b < B ∧
    w.cell? ⟨b, off + k * 6, none⟩ = some (.int .i64 (bs.getD k default).i) ∧ w.cell? ⟨b, off + k * 6 + 1, none⟩ = some (.int .i64 (bs.getD k default).o) ∧ w.cell? ⟨b, off + k * 6 + 2, none⟩ = some (.int .i64 (bs.getD k default).x) ∧
    w.cell? ⟨b, off + k * 6 + 3, none⟩ = some (.int .i64 (bs.getD k default).y) ∧ w.cell? ⟨b, off + k * 6 + 4, none⟩ = some (.int .i64 (bs.getD k default).w) ∧ w.cell? ⟨b, off + k * 6 + 5, none⟩ = some (.int .i64 (bs.getD k default).h) := by
  obtain ⟨b, off, e, hlt, hc⟩ := h.rd (by omega)
  exact ⟨b, off, e, hlt, hc k hk 0 (by omega), hc k hk 1 (by omega), hc k hk 2 (by omega), hc k hk 3 (by omega), hc k hk 4 (by omega), hc k hk 5 (by omega)⟩
set_option maxRecDepth 100000 in
theorem asc8_as (r : Bool) (a : Option Addr) (n c B : Nat) (bs : List Bd) (w : World) (h : Bq w B a n bs) (hn : n ≤ 1099511627776) (E : Hk (r = true ↔ ascB bs)) :
    Calls Tryd.prog 129 #[.slice a n c] w fun e w' => e = .returned (.bool r) ∧ ∃ m, w' = w.drewN m := by
  have HH := Hk.mk h
  clear h
  go_enter Tryd.func129, Tryd.ntmps129
  go_wp2_with fail
  go_loopw [3] (fun i wr => ∃ j : Nat, i = .int .i64 ((j : Int) + 1) ∧ (j + 1 ≤ n ∨ j = 0) ∧ Hk (∀ k, k < j → (bs.getD k default).i < (bs.getD (k + 1) default).i) ∧ Hk (∃ m, wr = w.drewN m)) (fun i _ => n + 1 - (intOf i).toNat)
  case atStart => exact ⟨0, rfl, Or.inr rfl, ⟨fun k hk => absurd hk (by omega)⟩, ⟨0, rfl⟩⟩
  case round =>
    obtain ⟨j, rfl, hj, HJ, HM⟩ := hrel
    obtain ⟨m, rfl⟩ := HM.out
    by_cases hlt : j + 1 < n
    · obtain ⟨b, off, rfl, hb, p0, -⟩ := HH.out.six (show j < n by omega)
      obtain ⟨b2, off2, e2, -, p1, -⟩ := HH.out.six hlt
      obtain ⟨rfl, rfl⟩ : b2 = b ∧ off2 = off := by
        injection e2 with h9
        injection h9 with h7 h8
        exact ⟨h7.symm, h8.symm⟩
      clear e2
      have j1 : (0 : Int) ≤ (j : Int) := by omega
      have j2 : (j : Int) + 1 < (n : Int) := by omega
      obtain ⟨u, hu⟩ : ∃ u, (bs.getD j default).i = u := ⟨_, rfl⟩
      obtain ⟨v, hv⟩ : ∃ v, (bs.getD (j + 1) default).i = v := ⟨_, rfl⟩
      rw [hu] at p0
      rw [hv] at p1
      have HU := Hk.mk hu
      have HV := Hk.mk hv
      clear hu hv
      by_cases huv : v ≤ u
      · have b1 : decide (v ≤ u) = true := by simpa using huv
        have R : Hk (false = r) := ⟨by
          cases r
          · rfl
          · have := E.out.1 rfl j (by rw [HH.out.len]; exact hlt)
            rw [HU.out, HV.out] at this; omega⟩
        clear huv
        go_wp2_with fail
        go_quiet (fail)
        go_wp2
        go_ret
        exact ⟨rbo R.out, _, World.drewN_drewN _ _ _⟩
      · have b1 : decide (v ≤ u) = false := by simpa using huv
        have R : Hk (∀ k, k < j + 1 → (bs.getD k default).i < (bs.getD (k + 1) default).i) := ⟨fun k hk => by
          by_cases e : k = j
          · subst e; rw [HU.out, HV.out]; omega
          · exact HJ.out k (by omega)⟩
        clear huv
        go_wp2_with fail
        go_quiet (fail)
        go_wp2
        exact ⟨⟨j + 1, by go_num, Or.inl (by omega), R, ⟨_, rfl⟩⟩, by simp [intOf]; omega⟩
    · have b1 : decide ((j : Int) + 1 < n) = false := by simp; omega
      have R : Hk (true = r) := ⟨by
        symm
        rw [E.out]
        intro k hk
        rw [HH.out.len] at hk
        exact HJ.out k (by omega)⟩
      have j3 : ¬ ((j : Int) + 1 < n) := by omega
      go_wp2
      go_ret
      exact ⟨rbo R.out, m, rfl⟩
set_option maxRecDepth 100000 in
theorem ids8_as (r : Bool) (a : Option Addr) (n c B : Nat) (bs : List Bd) (w : World) (h : Bq w B a n bs) (hn : n ≤ 1099511627776) (E : Hk (r = true ↔ ascB bs)) :
    Calls Tryd.prog 84 #[.slice a n c] w fun e w' => e = .returned (.bool r) ∧ ∃ m, w' = w.drewN m := by
  have HH := Hk.mk h
  clear h
  go_enter Tryd.func84, Tryd.ntmps84
  go_wp2_with fail
  go_loopw [3] (fun i wr => ∃ j : Nat, i = .int .i64 ((j : Int) + 1) ∧ (j + 1 ≤ n ∨ j = 0) ∧ Hk (∀ k, k < j → (bs.getD k default).i < (bs.getD (k + 1) default).i) ∧ Hk (∃ m, wr = w.drewN m)) (fun i _ => n + 1 - (intOf i).toNat)
  case atStart => exact ⟨0, rfl, Or.inr rfl, ⟨fun k hk => absurd hk (by omega)⟩, ⟨0, rfl⟩⟩
  case round =>
    obtain ⟨j, rfl, hj, HJ, HM⟩ := hrel
    obtain ⟨m, rfl⟩ := HM.out
    by_cases hlt : j + 1 < n
    · obtain ⟨b, off, rfl, hb, p0, -⟩ := HH.out.six (show j < n by omega)
      obtain ⟨b2, off2, e2, -, p1, -⟩ := HH.out.six hlt
      obtain ⟨rfl, rfl⟩ : b2 = b ∧ off2 = off := by
        injection e2 with h9
        injection h9 with h7 h8
        exact ⟨h7.symm, h8.symm⟩
      clear e2
      have j1 : (0 : Int) ≤ (j : Int) := by omega
      have j2 : (j : Int) + 1 < (n : Int) := by omega
      obtain ⟨u, hu⟩ : ∃ u, (bs.getD j default).i = u := ⟨_, rfl⟩
      obtain ⟨v, hv⟩ : ∃ v, (bs.getD (j + 1) default).i = v := ⟨_, rfl⟩
      rw [hu] at p0
      rw [hv] at p1
      have HU := Hk.mk hu
      have HV := Hk.mk hv
      clear hu hv
      by_cases huv : v ≤ u
      · have b1 : decide (v ≤ u) = true := by simpa using huv
        have R : Hk (false = r) := ⟨by
          cases r
          · rfl
          · have := E.out.1 rfl j (by rw [HH.out.len]; exact hlt)
            rw [HU.out, HV.out] at this; omega⟩
        clear huv
        go_wp2_with fail
        go_quiet (fail)
        go_wp2
        go_ret
        exact ⟨rbo R.out, _, World.drewN_drewN _ _ _⟩
      · have b1 : decide (v ≤ u) = false := by simpa using huv
        have R : Hk (∀ k, k < j + 1 → (bs.getD k default).i < (bs.getD (k + 1) default).i) := ⟨fun k hk => by
          by_cases e : k = j
          · subst e; rw [HU.out, HV.out]; omega
          · exact HJ.out k (by omega)⟩
        clear huv
        go_wp2_with fail
        go_quiet (fail)
        go_wp2
        exact ⟨⟨j + 1, by go_num, Or.inl (by omega), R, ⟨_, rfl⟩⟩, by simp [intOf]; omega⟩
    · have b1 : decide ((j : Int) + 1 < n) = false := by simp; omega
      have R : Hk (true = r) := ⟨by
        symm
        rw [E.out]
        intro k hk
        rw [HH.out.len] at hk
        exact HJ.out k (by omega)⟩
      have j3 : ¬ ((j : Int) + 1 < n) := by omega
      go_wp2
      go_ret
      exact ⟨rbo R.out, m, rfl⟩
theorem asc8_yes (a : Option Addr) (n c B : Nat) (bs : List Bd) (w : World) (h : Bq w B a n bs) (hn : n ≤ 1099511627776) (E : Hk (ascB bs)) :
    Calls Tryd.prog 129 #[.slice a n c] w fun e w' => e = .returned (.bool true) ∧ ∃ m, w' = w.drewN m := asc8_as true a n c B bs w h hn ⟨by simp [E.out]⟩
theorem asc8_no (a : Option Addr) (n c B : Nat) (bs : List Bd) (w : World) (h : Bq w B a n bs) (hn : n ≤ 1099511627776) (E : Hk (¬ ascB bs)) :
    Calls Tryd.prog 129 #[.slice a n c] w fun e w' => e = .returned (.bool false) ∧ ∃ m, w' = w.drewN m := asc8_as false a n c B bs w h hn ⟨by simp [E.out]⟩
theorem ids8_yes (a : Option Addr) (n c B : Nat) (bs : List Bd) (w : World) (h : Bq w B a n bs) (hn : n ≤ 1099511627776) (E : Hk (ascB bs)) :
    Calls Tryd.prog 84 #[.slice a n c] w fun e w' => e = .returned (.bool true) ∧ ∃ m, w' = w.drewN m := ids8_as true a n c B bs w h hn ⟨by simp [E.out]⟩
theorem ids8_no (a : Option Addr) (n c B : Nat) (bs : List Bd) (w : World) (h : Bq w B a n bs) (hn : n ≤ 1099511627776) (E : Hk (¬ ascB bs)) :
    Calls Tryd.prog 84 #[.slice a n c] w fun e w' => e = .returned (.bool false) ∧ ∃ m, w' = w.drewN m := ids8_as false a n c B bs w h hn ⟨by simp [E.out]⟩
end Go.Proofs.YthabjihpjdlmoaaDoor
