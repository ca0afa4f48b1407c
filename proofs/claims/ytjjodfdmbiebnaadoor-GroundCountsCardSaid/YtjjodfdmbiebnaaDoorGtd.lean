/- Layer 6: contracts by name for GroundBack. -/
import Derived.Test.YtjjodfdmbiebnaaDoorGtc
import Derived.Test.YtjjodfdmbiebnaaDoorGtl
import Derived.Test.YtjjodfdmbiebnaaDoorKw
namespace Go.Proofs.YtjjodfdmbiebnaaDoor
open Go.RowKit
set_option linter.unusedVariables false
/-- What In answers. -/
def inV (N : Int) (xs : List Int) : Int := if N ∈ xs then (xs.idxOf N : Nat) else -1
theorem inV_yes {N : Int} {xs : List Int} (h : N ∈ xs) : 0 ≤ inV N xs := by unfold inV; rw [if_pos h]; omega
theorem inV_no {N : Int} {xs : List Int} (h : N ∉ xs) : inV N xs = -1 := by unfold inV; rw [if_neg h]
theorem idxOf_at (N : Int) : ∀ (xs : List Int) (k : Nat) (hk : k < xs.length), xs.getD k 0 = N → N ∉ xs.take k → xs.idxOf N = k
  | [], k, hk, _, _ => absurd hk (by simp)
  | x :: xs, 0, _, e, _ => by simp at e; simp [e]
  | x :: xs, k + 1, hk, e, hn => by
    simp at e hn hk
    have hx : ¬ x = N := fun h => hn.1 h.symm
    have hb : (x == N) = false := by simp [hx]
    rw [List.idxOf_cons, hb, idxOf_at N xs k hk (by simpa using e) hn.2]; rfl
set_option maxRecDepth 100000 in
theorem in_v (r N : Int) (a : Option Addr) (n c B : Nat) (xs : List Int) (w : World) (h : Nq w B a n xs) (hn : n ≤ 1099511627776) (E : Hk (inV N xs = r)) :
    Calls Tryd.prog 21 #[.slice a n c, .int .i64 N] w fun e w' => e = .returned (.int .i64 r) ∧ w = w' := by
  have H := Hk.mk h
  clear h
  go_enter Tryd.func21, Tryd.ntmps21
  go_wp2
  go_loop [5] (fun i => ∃ (k : Nat), i = .int .i64 k ∧ k ≤ n ∧ Hk (N ∉ xs.take k)) (fun i => n - (intOf i).toNat)
  case atStart => exact ⟨0, rfl, Nat.zero_le _, ⟨by simp⟩⟩
  case round =>
    obtain ⟨k, rfl, hk, HR⟩ := hrel
    by_cases hlt : k < n
    · obtain ⟨b, off, rfl, hbl, hc⟩ := H.out.rd (by omega)
      have hcx := hc k hlt
      clear hc
      obtain ⟨y, hy⟩ : ∃ y, y = xs.getD k 0 := ⟨_, rfl⟩
      rw [← hy] at hcx
      have HY := Hk.mk hy
      clear hy
      have i1 : (0 : Int) ≤ (k : Int) := by omega
      have i2 : (k : Int) < (n : Int) := by omega
      by_cases q1 : y = N
      · have R : Hk ((k : Int) = r) := ⟨by
          have hl := H.out.len
          have e1 : xs.getD k 0 = N := by rw [← HY.out]; exact q1
          have hm : N ∈ xs := by rw [← e1]; simp [List.getD, show k < xs.length by omega]
          rw [← E.out]
          unfold inV
          rw [if_pos hm, idxOf_at N xs k (by omega) e1 HR.out]⟩
        subst q1
        go_wp2
        go_ret
        exact ⟨ri R.out, rfl⟩
      · have b1 : (y == N) = false := by simp [q1]
        have R : Hk (N ∉ xs.take (k + 1)) := ⟨by
          have hl := H.out.len
          rw [List.take_succ_eq_append_getElem (by omega), List.mem_append]
          rintro (h | h)
          · exact HR.out h
          · simp at h
            exact q1 (by rw [HY.out, h]; simp [List.getD, show k < xs.length by omega])⟩
        go_wp2
        go_round
        case rel => exact ⟨k + 1, by go_num, by omega, R⟩
        case measure => simp [intOf]; omega
    · have hkn : k = n := by omega
      subst hkn
      have R : Hk (-1 = r) := ⟨by
        have h := HR.out
        rw [List.take_of_length_le (by rw [H.out.len]; omega)] at h
        rw [← E.out, inV_no h]⟩
      go_wp2
      go_ret
      exact ⟨ri R.out, rfl⟩
theorem tile_at (t x y : Int) (W H : Int) (a : Option Addr) (n c B : Nat) (xs : List Int) (w : World) (h : By w B a n xs) (hB : B ≤ w.heap.size) (hn : n ≤ 140737488355328) (g : GOk W H n xs) (x0 : 0 ≤ x) (x1 : x < W) (y0 : 0 ≤ y) (y1 : y < H) (E : Hk (x + W * y = t)) :
    Calls Tryd.prog 17 #[.agg #[.int .i64 W, .int .i64 H, .slice a n c], .int .i64 x, .int .i64 y] w fun e' w' => e' = .returned (.tuple #[.int .i64 t, .int .i64 0]) ∧ Below w.heap.size w w' := by
  obtain ⟨rfl⟩ := E; exact tile_yes x y W H a n c B xs w h hB hn g x0 x1 y0 y1
theorem of_at (t px py : Int) (W H : Int) (a : Option Addr) (n c B : Nat) (xs : List Int) (w : World) (h : By w B a n xs) (hB : B ≤ w.heap.size) (hn : n ≤ 140737488355328) (g : GOk W H n xs) (E : Hk ((0 ≤ px ∧ px < W * 65536 ∧ 0 ≤ py ∧ py < H * 65536) ∧ px / 65536 + W * (py / 65536) = t)) :
    Calls Tryd.prog 19 #[.agg #[.int .i64 W, .int .i64 H, .slice a n c], .agg #[.int .i64 px, .int .i64 py]] w fun e' w' => e' = .returned (.tuple #[.int .i64 t, .int .i64 0]) ∧ Below w.heap.size w w' := by
  obtain ⟨⟨⟨h1, h2, h3, h4⟩, rfl⟩⟩ := E; exact of_yes px py W H a n c B xs w h hB hn g h1 h2 h3 h4
theorem of_near {W H X Y t px py : Int} (x0 : 0 ≤ X) (x1 : X < W) (y0 : 0 ≤ Y) (y1 : Y < H) (hx : X * 65536 ≤ px ∧ px < X * 65536 + 65536) (hy : Y * 65536 ≤ py ∧ py < Y * 65536 + 65536) (e : X + W * Y = t) :
    Hk ((0 ≤ px ∧ px < W * 65536 ∧ 0 ≤ py ∧ py < H * 65536) ∧ px / 65536 + W * (py / 65536) = t) :=
  ⟨⟨by omega, by omega, by omega, by omega⟩, by
    rw [show px / 65536 = X by omega, show py / 65536 = Y by omega]; exact e⟩
theorem nq_take {w : World} {B n : Nat} {a : Option Addr} {xs : List Int} (h : Nq w B a n xs) (j : Nat) (hj : j ≤ n) : Nq w B a j (xs.take j) := ⟨by simp [h.len]; omega, fun hn => by
  obtain ⟨b, off, e, hlt, hc⟩ := h.rd (by omega)
  exact ⟨b, off, e, hlt, fun k hk => by rw [hc k (by omega)]; simp [List.getD, hk]⟩⟩
end Go.Proofs.YtjjodfdmbiebnaaDoor
