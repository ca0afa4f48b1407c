/- Layer 22: lists of numbers: rising, within bounds, compared, copied. -/
import Derived.Test.YtkffleclofkjmaaCmp
import Derived.Test.YtkffleclofkjmaaNq
import Derived.Maps.AppendAt
namespace Go.Proofs.Ytkffleclofkjmaa
open Go.RowKit
set_option linter.unusedVariables false
theorem drop_getD {xs : List Int} {k : Nat} (h : k < xs.length) : xs.drop k = xs.getD k 0 :: xs.drop (k + 1) := by
  rw [List.drop_eq_getElem_cons h]; simp [List.getD, List.getElem?_eq_getElem h]
theorem rb {a b : Bool} (h : a = b) : Ending.returned (.bool a) = .returned (.bool b) := by rw [h]
theorem Nq.at_ {w : World} {B n : Nat} {a : Option Addr} {xs : List Int} (h : Nq w B a n xs) (hn : 0 < n) : ∃ b off, a = some ⟨b, off, none⟩ ∧ b < B ∧ ∀ k, k < n → w.cell? ⟨b, off + k, none⟩ = some (.int .i64 (xs.getD k 0)) := h.rd hn
set_option maxRecDepth 100000 in
theorem asc_as (r : Bool) (a : Option Addr) (n c : Nat) (xs : List Int) (w : World) (h : Nq w w.heap.size a n xs) (hn : n ≤ 1099511627776) (E : Hk (ascL 0 xs = r)) :
    Calls Try.prog 57 #[.slice a n c] w fun e w' => e = .returned (.bool r) ∧ w = w' := by
  have H := Hk.mk h
  clear h
  go_enter Try.func57, Try.ntmps57
  go_wp2
  go_loop [3, 8] (fun l i => ∃ (k : Nat) (z : Int), l = .int .i64 z ∧ i = .int .i64 k ∧ k ≤ n ∧ Hk (ascL z (xs.drop k) = r)) (fun _ i => n - (intOf i).toNat)
  case atStart => exact ⟨0, 0, rfl, rfl, Nat.zero_le _, ⟨by simpa using E.out⟩⟩
  case round =>
    obtain ⟨k, z, rfl, rfl, hk, HR⟩ := hrel
    by_cases hlt : k < n
    · obtain ⟨b, off, rfl, hbl, hc⟩ := H.out.at_ (by omega)
      have hcx := hc k hlt
      clear hc
      have hr := HR.out
      rw [drop_getD (by rw [H.out.len]; exact hlt), ascL] at hr
      generalize xs.getD k 0 = y at *
      have i1 : (0 : Int) ≤ (k : Int) := by omega
      have i2 : (k : Int) < (n : Int) := by omega
      by_cases q1 : y ≤ z
      · have b1 : decide (y ≤ z) = true := by simp; omega
        have R : Hk (false = r) := ⟨by rw [← hr]; simp; omega⟩
        clear hr
        go_wp2
        go_ret
        exact ⟨rb R.out, rfl⟩
      have b1 : decide (y ≤ z) = false := by simp; omega
      by_cases q2 : 1099511627776 < y
      · have b2 : decide (1099511627776 < y) = true := by simp; omega
        have R : Hk (false = r) := ⟨by rw [← hr]; simp; omega⟩
        clear hr
        go_wp2
        go_ret
        exact ⟨rb R.out, rfl⟩
      · have b2 : decide (1099511627776 < y) = false := by simp; omega
        have R : Hk (ascL y (xs.drop (k + 1)) = r) := ⟨by rw [← hr, show decide (z < y ∧ y ≤ 1099511627776) = true by simp; omega]; rfl⟩
        clear hr
        go_wp2
        go_round
        case rel => exact ⟨k + 1, y, rfl, by go_num, by omega, R⟩
        case measure => simp [intOf]; omega
    · have hkn : k = n := by omega
      subst hkn
      have R : Hk (true = r) := ⟨by have := HR.out; rwa [List.drop_of_length_le (by rw [H.out.len]; omega), ascL] at this⟩
      go_wp2
      go_ret
      exact ⟨rb R.out, rfl⟩
set_option maxRecDepth 100000 in
theorem rising_as (r : Bool) (a : Option Addr) (n c : Nat) (xs : List Int) (w : World) (h : Nq w w.heap.size a n xs) (hn : n ≤ 1099511627776) (E : Hk (risL xs = r)) :
    Calls Try.prog 55 #[.slice a n c] w fun e w' => e = .returned (.bool r) ∧ ∃ m, w' = w.drewN m := by
  have H := Hk.mk h
  clear h
  go_enter Try.func55, Try.ntmps55
  go_wp2
  go_loopw [3] (fun i wr => ∃ (k : Nat), i = .int .i64 (k + 1) ∧ (k + 1 ≤ n ∨ k = 0) ∧ Hk (risL (xs.drop k) = r) ∧ Hk (∃ m, wr = w.drewN m)) (fun i _ => n - (intOf i).toNat)
  case atStart => exact ⟨0, rfl, .inr rfl, ⟨by simpa using E.out⟩, ⟨0, rfl⟩⟩
  case round =>
    obtain ⟨k, rfl, hk, HR, HB⟩ := hrel
    by_cases hlt : k + 1 < n
    · obtain ⟨b, off, rfl, hbl, hc⟩ := H.out.at_ (by omega)
      have hcx : wr.cell? ⟨b, off + k, none⟩ = some (.int .i64 (xs.getD k 0)) := by obtain ⟨m, rfl⟩ := HB.out; exact hc k (by omega)
      have hcy : wr.cell? ⟨b, off + (k + 1), none⟩ = some (.int .i64 (xs.getD (k + 1) 0)) := by obtain ⟨m, rfl⟩ := HB.out; exact hc (k + 1) (by omega)
      clear hc
      have hr := HR.out
      have hl := H.out.len
      rw [drop_getD (by omega), drop_getD (by omega), risL, ← drop_getD (by omega)] at hr
      generalize xs.getD k 0 = x at *
      generalize xs.getD (k + 1) 0 = y at *
      clear hk
      have i1 : (0 : Int) ≤ (k : Int) := by omega
      have i2 : (k : Int) + 1 < (n : Int) := by omega
      have i3 : (k : Int) < (n : Int) := by omega
      have i4 : (0 : Int) ≤ (k : Int) + 1 := by omega
      have i5 : ((k : Int) + 1).toNat = k + 1 := by omega
      have i6 : IntKind.i64.wrap ((k : Int) + 1 - 1) = (k : Int) := (IntWalk.i64_in ((k : Int) + 1 - 1) (by omega)).trans (by omega)
      by_cases q1 : y ≤ x
      · have b1 : decide (y ≤ x) = true := by simp; omega
        have R : Hk (false = r) := ⟨by rw [← hr]; simp; omega⟩
        clear hr
        go_wp2
        go_quiet (fail)
        go_wp2
        go_ret
        exact ⟨rb R.out, by obtain ⟨m, rfl⟩ := HB.out; exact ⟨_, by rw [World.drewN_drewN]⟩⟩
      · have b1 : decide (y ≤ x) = false := by simp; omega
        have R : Hk (risL (xs.drop (k + 1)) = r) := ⟨by rw [← hr, show decide (x < y) = true by simp; omega]; rfl⟩
        clear hr
        go_wp2
        go_quiet (fail)
        go_wp2
        go_roundw
        case rel => exact ⟨k + 1, by go_num, .inl (by omega), R, ⟨by obtain ⟨m, rfl⟩ := HB.out; exact ⟨_, by rw [World.drewN_drewN]⟩⟩⟩
        case measure => simp [intOf]; omega
    · have R : Hk (true = r) := ⟨by
        have h1 := HR.out
        have hl := H.out.len
        by_cases h0 : k < xs.length
        · rw [drop_getD h0, List.drop_of_length_le (by omega), risL] at h1; exact h1
        · rw [List.drop_of_length_le (by omega), risL] at h1; exact h1⟩
      have i2 : ¬ (k : Int) + 1 < (n : Int) := by omega
      go_wp2
      go_ret
      exact ⟨rb R.out, HB.out⟩
theorem btw_cons {lo hi a : Int} {l : List Int} : btwL lo hi (a :: l) = (decide (lo ≤ a ∧ a ≤ hi) && btwL lo hi l) := by
  unfold btwL
  rw [Bool.eq_iff_iff]
  simp
set_option maxRecDepth 100000 in
theorem between_as (r : Bool) (lo hi : Int) (a : Option Addr) (n c : Nat) (xs : List Int) (w : World) (h : Nq w w.heap.size a n xs) (hn : n ≤ 1099511627776) (E : Hk (btwL lo hi xs = r)) :
    Calls Try.prog 56 #[.slice a n c, .int .i64 lo, .int .i64 hi] w fun e w' => e = .returned (.bool r) ∧ w = w' := by
  have H := Hk.mk h
  clear h
  go_enter Try.func56, Try.ntmps56
  go_wp2
  go_loop [7] (fun i => ∃ (k : Nat), i = .int .i64 k ∧ k ≤ n ∧ Hk (btwL lo hi (xs.drop k) = r)) (fun i => n - (intOf i).toNat)
  case atStart => exact ⟨0, rfl, Nat.zero_le _, ⟨by simpa using E.out⟩⟩
  case round =>
    obtain ⟨k, rfl, hk, HR⟩ := hrel
    by_cases hlt : k < n
    · obtain ⟨b, off, rfl, hbl, hc⟩ := H.out.at_ (by omega)
      have hcx := hc k hlt
      clear hc
      have hr := HR.out
      rw [drop_getD (by rw [H.out.len]; exact hlt), btw_cons] at hr
      generalize xs.getD k 0 = y at *
      have i1 : (0 : Int) ≤ (k : Int) := by omega
      have i2 : (k : Int) < (n : Int) := by omega
      by_cases q1 : y < lo
      · have b1 : decide (y < lo) = true := by simp; omega
        have R : Hk (false = r) := ⟨by rw [← hr]; simp; omega⟩
        clear hr
        go_wp2
        go_ret
        exact ⟨rb R.out, rfl⟩
      have b1 : decide (y < lo) = false := by simp; omega
      by_cases q2 : hi < y
      · have b2 : decide (hi < y) = true := by simp; omega
        have R : Hk (false = r) := ⟨by rw [← hr]; simp; omega⟩
        clear hr
        go_wp2
        go_ret
        exact ⟨rb R.out, rfl⟩
      · have b2 : decide (hi < y) = false := by simp; omega
        have R : Hk (btwL lo hi (xs.drop (k + 1)) = r) := ⟨by rw [← hr, show decide (lo ≤ y ∧ y ≤ hi) = true by simp; omega]; rfl⟩
        clear hr
        go_wp2
        go_round
        case rel => exact ⟨k + 1, by go_num, by omega, R⟩
        case measure => simp [intOf]; omega
    · have hkn : k = n := by omega
      subst hkn
      have R : Hk (true = r) := ⟨by have := HR.out; rwa [List.drop_of_length_le (by rw [H.out.len]; omega), show btwL lo hi [] = true by unfold btwL; simp] at this⟩
      go_wp2
      go_ret
      exact ⟨rb R.out, rfl⟩
/-- ids of the reference -/
theorem rids_as (r : Bool) (a : Option Addr) (n c : Nat) (xs : List Int) (w : World) (h : Nq w w.heap.size a n xs) (hn : n ≤ 1099511627776) (E : Hk (idsB xs = r)) :
    Calls Try.prog 35 #[.slice a n c] w fun e w' => e = .returned (.bool r) ∧ ∃ m, w' = w.drewN m := by
  have H := Hk.mk h
  have hl := h.len
  clear h
  by_cases q1 : ¬ (1 ≤ n)
  · have b1 : decide ((1 : Int) ≤ (n : Int)) = false := by simp; omega
    have R : Hk (false = r) := ⟨by rw [← E.out]; unfold idsB; simp; omega⟩
    clear hl
    go_enter Try.func35, Try.ntmps35
    go_wp2
    go_ret
    exact ⟨rb R.out, 0, rfl⟩
  have b1 : decide ((1 : Int) ≤ (n : Int)) = true := by simp; omega
  by_cases q2 : ¬ (n ≤ 64)
  · have b2 : decide ((n : Int) ≤ 64) = false := by simp; omega
    have R : Hk (false = r) := ⟨by rw [← E.out]; unfold idsB; simp; omega⟩
    clear hl
    go_enter Try.func35, Try.ntmps35
    go_wp2
    go_ret
    exact ⟨rb R.out, 0, rfl⟩
  have b2 : decide ((n : Int) ≤ 64) = true := by simp; omega
  have E2 : (risL xs && btwL 1 1099511627776 xs) = r := by
    rw [ids_eq, ← E.out]; unfold idsB
    rw [show decide (1 ≤ xs.length ∧ xs.length ≤ 64) = true by simp; omega]; rfl
  cases hr1 : risL xs
  case false =>
    have R : Hk (false = r) := ⟨by rw [← E2, hr1]; rfl⟩
    have R1 := Hk.mk hr1
    clear hr1 E2 hl
    go_enter Try.func35, Try.ntmps35
    go_wp2_with (go_at_call 55; (with_reducible refine (rising_as false a n c xs _ H.out hn R1).mono ?_); rintro e w' ⟨rfl, m, rfl⟩)
    go_ret
    exact ⟨rb R.out, m, rfl⟩
  case true =>
    have R : Hk (btwL 1 1099511627776 xs = r) := ⟨by rw [← E2, hr1]; rfl⟩
    have R1 := Hk.mk hr1
    clear hr1 E2 hl
    go_enter Try.func35, Try.ntmps35
    go_wp2_with (first | (go_at_call 55; (with_reducible refine (rising_as true a n c xs _ H.out hn R1).mono ?_); rintro e w' ⟨rfl, m, rfl⟩) | (go_at_call 56; (with_reducible refine (between_as r 1 1099511627776 a n c xs _ (H.out.drewN m) hn R).mono ?_); rintro e w' ⟨rfl, rfl⟩))
    go_ret
    exact ⟨rfl, m, rfl⟩
/-- Two slices of numbers compared. -/
theorem eqi_as (r : Bool) (a a' : Option Addr) (n n' c c' : Nat) (xs ys : List Int) (w : World) (h : Nq w w.heap.size a n xs) (h' : Nq w w.heap.size a' n' ys) (hn : n ≤ 1099511627776) (hn' : n' ≤ 1099511627776) (E : Hk (decide (xs = ys) = r)) :
    Calls Try.prog 43 #[.slice a n c, .slice a' n' c'] w fun e w' => e = .returned (.bool r) ∧ ∃ m, w' = w.drewN m := by
  have H := Hk.mk h
  have H' := Hk.mk h'
  have l1 := h.len
  have l2 := h'.len
  clear h h'
  by_cases hne : n = n'
  · subst hne
    have e0 : ((n : Int) == (n : Int)) = true := by simp
    go_enter Try.func43, Try.ntmps43
    go_wp2
    go_loopw [5] (fun i wr => ∃ k : Nat, k ≤ n ∧ i = .int .i64 k ∧ Hk (xs.take k = ys.take k) ∧ Hk (∃ m, wr = w.drewN m)) (fun i _ => n - (intOf i).toNat)
    case atStart => exact ⟨0, Nat.zero_le _, rfl, ⟨rfl⟩, ⟨0, rfl⟩⟩
    case round =>
      obtain ⟨k, hk, rfl, HT, HB⟩ := hrel
      by_cases hlt : k < n
      · obtain ⟨b, off, rfl, hbl, hc⟩ := H.out.at_ (by omega)
        obtain ⟨b', off', rfl, hbl', hc'⟩ := H'.out.at_ (by omega)
        have hcx : wr.cell? ⟨b, off + k, none⟩ = some (.int .i64 (xs.getD k 0)) := by obtain ⟨m, rfl⟩ := HB.out; exact hc k hlt
        have hcy : wr.cell? ⟨b', off' + k, none⟩ = some (.int .i64 (ys.getD k 0)) := by obtain ⟨m, rfl⟩ := HB.out; exact hc' k hlt
        clear hc hc'
        have hx : xs.take (k + 1) = xs.take k ++ [xs.getD k 0] := by rw [List.take_succ_eq_append_getElem (by omega)]; simp [List.getD, List.getElem?_eq_getElem (show k < xs.length by omega)]
        have hy : ys.take (k + 1) = ys.take k ++ [ys.getD k 0] := by rw [List.take_succ_eq_append_getElem (by omega)]; simp [List.getD, List.getElem?_eq_getElem (show k < ys.length by omega)]
        have HX := Hk.mk hx
        have HY := Hk.mk hy
        clear hx hy l1 l2
        generalize xs.getD k 0 = x at *
        generalize ys.getD k 0 = y at *
        have i1 : (0 : Int) ≤ (k : Int) := by omega
        have i2 : (k : Int) < (n : Int) := by omega
        by_cases q : x = y
        · subst q
          have b1 : (x == x) = true := by simp
          go_wp2
          go_quiet (fail)
          go_wp2
          go_roundw
          case rel => exact ⟨k + 1, by omega, by go_num, ⟨by rw [HX.out, HY.out, HT.out]⟩, ⟨by obtain ⟨m, rfl⟩ := HB.out; exact ⟨_, by rw [World.drewN_drewN]⟩⟩⟩
          case measure => simp [intOf]; omega
        · have b1 : (x == y) = false := by simp; omega
          have R : Hk (false = r) := ⟨by
            rw [← E.out]
            symm
            simp only [decide_eq_false_iff_not]
            intro e
            have h1 := HX.out
            rw [e, HY.out] at h1
            have := List.append_inj_right' h1 rfl
            simp at this; omega⟩
          go_wp2
          go_quiet (fail)
          go_wp2
          go_ret
          exact ⟨rb R.out, by obtain ⟨m, rfl⟩ := HB.out; exact ⟨_, by rw [World.drewN_drewN]⟩⟩
      · have hkn : k = n := by omega
        subst hkn
        have R : Hk (true = r) := ⟨by
          rw [← E.out]
          have h1 := HT.out
          rw [List.take_of_length_le (by omega), List.take_of_length_le (by omega)] at h1
          simp [h1]⟩
        go_wp2
        go_ret
        exact ⟨rb R.out, HB.out⟩
  · have b1 : ((n : Int) == (n' : Int)) = false := by simp; omega
    have b2 : ((n : Int) != (n' : Int)) = true := by simp; omega
    have R : Hk (false = r) := ⟨by
      rw [← E.out]; symm; simp only [decide_eq_false_iff_not]; intro e; rw [e] at l1; omega⟩
    clear l1 l2
    go_enter Try.func43, Try.ntmps43
    go_wp2
    go_ret
    exact ⟨rb R.out, 0, rfl⟩
/-- A value that owns these numbers. -/
def OwnI (w : World) (base : Nat) (v : Value) (n : Nat) (xs : List Int) : Prop := xs.length = n ∧ w.ownsRow base 3 1 v n (xs.map (Value.int .i64))
theorem OwnI.lt {w : World} {base n : Nat} {v : Value} {xs : List Int} (h : OwnI w base v n xs) : ∀ k, v.ownBlock = some k → base ≤ k ∧ k < w.heap.size := h.2.lt
theorem OwnI.nil (w : World) (base : Nat) : OwnI w base (.slice none 0 0) 0 [] := ⟨rfl, World.ownsRow_nil _ _ _ _⟩
theorem OwnI.nq {w : World} {base n : Nat} {v : Value} {xs : List Int} (h : OwnI w base v n xs) : ∃ a c, v = .slice a n c ∧ n ≤ c ∧ Nq w w.heap.size a n xs := by
  obtain ⟨h1, h3⟩ := h
  have h3' := h3
  rcases h3.2 with ⟨rfl, rfl⟩ | ⟨g, cap, cur, rfl, hg, hh, hc, hm, hs, ht⟩
  · exact ⟨none, 0, rfl, by omega, ⟨h1, fun h => absurd h (by omega)⟩⟩
  · refine ⟨_, _, rfl, hc, ⟨h1, fun hn => ⟨g, 0, rfl, lt_of_block hh, fun k hk => ?_⟩⟩⟩
    have := h3'.cellAt k (by omega)
    rw [Nat.zero_add, this]
    simp [List.getElem?_map, List.getD, List.getElem?_eq_getElem (show k < xs.length by omega)]
theorem OwnI.below {w w' : World} {base n : Nat} {v : Value} {xs : List Int} (h : OwnI w base v n xs) (hb : Below w.heap.size w w') : OwnI w' base v n xs := by
  refine ⟨h.1, h.2.kept (row := none) ⟨hb.os, hb.tape, hb.output, hb.size, fun i hi _ => hb.block i hi⟩ ?_⟩
  cases h' : v.ownBlock
  · exact .inl rfl
  · exact .inr (by simp)
theorem OwnI.drewN {w : World} {base n : Nat} {v : Value} {xs : List Int} (h : OwnI w base v n xs) (k : Nat) : OwnI (w.drewN k) base v n xs := h
theorem info_i : (Try.prog.info? 3).map (fun i => (i.zero, i.size, i.bytes)) = some (some (.int .i64 0), 1, 8) := by kernel_rfl
theorem take_mapi (xs : List Int) (k : Nat) (h : k < xs.length) : List.take k (List.map (Value.int .i64) xs) ++ [.int .i64 (xs[k]?.getD 0)] = (xs.take (k + 1)).map (Value.int .i64) := by
  rw [List.take_succ_eq_append_getElem h, List.map_append, List.map_take]
  simp [List.getElem?_eq_getElem h]
/-- Numbers copied lie in new memory. -/
theorem copyi_any (a : Option Addr) (n c : Nat) (xs : List Int) (w : World) (h : Nq w w.heap.size a n xs) (hn : n ≤ 1099511627776) :
    Calls Try.prog 28 #[.slice a n c] w fun e w' => ∃ v, e = .returned v ∧ OwnI w' w.heap.size v n xs ∧ Below w.heap.size w w' := by
  obtain ⟨i0, hi, hz0, hz1, hz2⟩ := info_parts info_i
  have H := Hk.mk h
  clear h
  go_enter Try.func28, Try.ntmps28
  go_wp2
  go_loopw [3, 4] (fun m i wr => ∃ k : Nat, k ≤ n ∧ i = .int .i64 k ∧ Hk (wr.ownsRow w.heap.size 3 1 m k ((xs.take k).map (Value.int .i64))) ∧ Hk (Below w.heap.size w wr)) (fun _ i _ => n - (intOf i).toNat)
  case atStart => exact ⟨0, Nat.zero_le _, rfl, ⟨World.ownsRow_nil _ _ _ _⟩, ⟨Below.refl _ _⟩⟩
  case round =>
    obtain ⟨k, hk, rfl, HO, HB⟩ := hrel
    by_cases hlt : k < n
    · obtain ⟨b, off, rfl, hbl, hc⟩ := H.out.at_ (by omega)
      have hcx := (HB.out.cell (p := ⟨b, off + k, none⟩) hbl).trans (hc k hlt)
      have hsz := HB.out.size
      have hown := HO.out
      clear hc
      go_wp2_with (at_builtin; refine wpList_append_own _ rfl _ _ 24 rfl w.heap.size 3 i0 (.int .i64 0) 1 8 Try.underlying24 hi hz0 hz1 hz2 rfl (by decide) _ _ _ rfl (hown.alloc _) ⟨wr.heap.size, 0, none⟩ 1 1 [.int .i64 (xs.getD k 0)] rfl rfl ?c1 ?c2 ?c3 ?c4 ?c5 ?_)
      case c1 =>
        intro j u hj
        match j, hj with
        | 0, hj => simp at hj; subst hj; simp [Addr.add]
      case c2 => intro u hu; simp at hu; subst hu; rfl
      case c3 => unfold maxLen; omega
      case c4 => omega
      case c5 => simp; omega
      · intro v' w1 hown' hgrow _
        rw [take_mapi xs k (by rw [H.out.len]; exact hlt)] at hown'
        have HO2 := Hk.mk hown'
        have HB2 := Hk.mk ((HB.out.alloc hsz (.cells #[.int .i64 (xs.getD k 0)] 3)).grown hgrow (by simp; omega) (fun g hg => (hown.lt g hg).1))
        clear hown' hgrow hown HO HB hcx
        go_wp2
        go_roundw
        case rel => exact ⟨k + 1, by omega, by go_num, HO2, HB2⟩
        case measure => simp [intOf]; omega
    · have hkn : k = n := by omega
      subst hkn
      go_wp2
      go_ret
      exact ⟨_, rfl, ⟨H.out.len, by have := HO.out; rwa [List.take_of_length_le (by rw [H.out.len]; omega)] at this⟩, HB.out⟩
end Go.Proofs.Ytkffleclofkjmaa
