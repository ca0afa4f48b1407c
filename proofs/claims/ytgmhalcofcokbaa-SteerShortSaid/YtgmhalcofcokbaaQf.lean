import Derived.Test.YtgmhalcofcokbaaQe
import Derived.StillTailTactics
/- What is made shorter, as numbers. -/
namespace Go.Proofs.Ytgmhalcofcokbaa.Fx
set_option linter.unusedVariables false
/-- A part of a number: c times m by n, towards 0. -/
def partS (c m n : Int) : Int := if c < 0 then -(sz c * m / n) else sz c * m / n
theorem part_q {c m n : Int} (hc : I64 c) (hm : 0 ≤ m) (hn : m < n) : 0 ≤ sz c * m / n ∧ sz c * m / n ≤ sz c := by
  have hs := sz_bd hc
  have hp := Int.mul_nonneg hs.1 hm
  refine ⟨Int.ediv_nonneg hp (by omega), ?_⟩
  have h1 : sz c * m ≤ sz c * n := Int.mul_le_mul_of_nonneg_left (by omega) hs.1
  have h2 := Int.ediv_le_ediv (c := n) (by omega) h1
  rwa [Int.mul_ediv_cancel _ (by omega)] at h2
theorem part_bd {c m n : Int} (hc : I64 c) (hm : 0 ≤ m) (hn : m < n) : -9223372036854775807 ≤ partS c m n ∧ partS c m n ≤ 9223372036854775807 := by
  have h := part_q hc hm hn
  have hs := sz_bd hc
  unfold partS; split <;> omega
theorem part_i64 {c m n : Int} (hc : I64 c) (hm : 0 ≤ m) (hn : m < n) : I64 (partS c m n) := i64_bd (part_bd hc hm hn)
theorem sgS_part {c m n : Int} (hc : I64 c) (hm : 0 ≤ m) (hn : m < n) : sgS (ovQ (sz c * m) n) (decide (c < 0)) false = partS c m n := by
  have h := part_q hc hm hn
  have hs := sz_bd hc
  have e1 : ovQ (sz c * m) n = sz c * m / n := by unfold ovQ; rw [if_neg (by omega)]
  rw [e1]
  unfold sgS partS Most
  generalize sz c * m / n = q at *
  by_cases h0 : c < 0
  · rw [if_pos (by simpa using h0), if_neg (by simp), if_neg (by omega), if_pos h0]
  · rw [if_neg (by simpa using h0), if_neg (by omega), if_neg h0]
theorem sz_cnt {a : Int} (h : I64 a) : sz (cnt a) = sz a := by
  have h1 := cnt_bd h
  unfold sz; rw [cnt_in h1.1]
theorem SQ_cnt {a b : Int} (ha : I64 a) (hb : I64 b) : SQ (cnt a) (cnt b) = SQ a b := by unfold SQ; rw [sz_cnt ha, sz_cnt hb]
theorem lenS_cnt {a b : Int} (ha : I64 a) (hb : I64 b) : lenS (cnt a) (cnt b) = lenS a b := by unfold lenS; rw [SQ_cnt ha hb]
theorem part_cnt {c m n : Int} (hc : I64 c) : partS (cnt c) m n = partS c m n := by
  have := cnt_sign hc
  unfold partS; rw [sz_cnt hc]
  by_cases h : c < 0
  · rw [if_pos h, if_pos (by omega)]
  · rw [if_neg h, if_neg (by omega)]
def most0 (k : Int) : Int := if k < 0 then 0 else k
noncomputable def clampX (a b k : Int) : Int := if lenS a b ≤ most0 k then cnt a else partS a (most0 k) (lenS a b)
noncomputable def clampY (a b k : Int) : Int := if lenS a b ≤ most0 k then cnt b else partS b (most0 k) (lenS a b)
end Go.Proofs.Ytgmhalcofcokbaa.Fx
/- The contracts of parts and of what is made shorter, of package vec and of the reference. -/
namespace Go.Proofs.Ytgmhalcofcokbaa
open Go.RowKit
set_option linter.unusedVariables false
theorem wdiv_pas (h l n q p r : Int) (w : World) (hp : Fx.Hd (0 ≤ p ∧ p ≤ 85070591730234615847396907784232501249)) (b0 : 1 ≤ n ∧ n ≤ 9223372036854775808)
    (e : Fx.Hd (h = p / 18446744073709551616 ∧ l = p % 18446744073709551616)) (e2 : Fx.Hd (q = p / n ∧ r = p % n)) (hq : 0 ≤ q ∧ q ≤ 9223372036854775807) :
    Calls Try.prog 47 #[.agg #[.int .u64 h, .int .u64 l], .int .u64 n] w fun e w' => e = .returned (.tuple #[.agg #[.int .u64 0, .int .u64 q], .int .u64 r]) ∧ Below w.heap.size w w' := by
  obtain ⟨⟨rfl, rfl⟩⟩ := e
  obtain ⟨⟨rfl, rfl⟩⟩ := e2
  have := hp.out
  have h := wdiv_any (p / 18446744073709551616) (p % 18446744073709551616) n w (by omega) (by omega) (by omega) (by omega) b0.1 b0.2
  rw [Fx.dT_div, show p / n / 18446744073709551616 = 0 by omega, show p / n % 18446744073709551616 = p / n by omega] at h
  exact h
set_option maxHeartbeats 400000 in
theorem part_any (c m n : Int) (w : World) (hc : Fx.I64 c) (hm : 0 ≤ m) (hn : m < n) (hn2 : n ≤ 9223372036854775807) :
    Calls Try.prog 33 #[.int .i64 c, .int .i64 m, .int .i64 n] w fun e w' => e = .returned (.int .i64 (Fx.partS c m n)) ∧ Below w.heap.size w w' := by
  have sc := Fx.sz_bd hc
  have sm : 0 ≤ m ∧ m ≤ 9223372036854775807 := by omega
  have P := Fx.Hd.mk (Fx.prod_bd sc sm)
  have hq := Fx.part_q hc hm hn
  obtain ⟨h, hh⟩ : ∃ h, h = Fx.sz c * m / 18446744073709551616 := ⟨_, rfl⟩
  obtain ⟨l, hl⟩ : ∃ l, l = Fx.sz c * m % 18446744073709551616 := ⟨_, rfl⟩
  have E := Fx.Hd.mk (And.intro hh hl)
  clear hh hl
  obtain ⟨q, eq⟩ : ∃ q, q = Fx.sz c * m / n := ⟨_, rfl⟩
  obtain ⟨r, er⟩ : ∃ r, r = Fx.sz c * m % n := ⟨_, rfl⟩
  rw [← eq] at hq
  have E2 := Fx.Hd.mk (And.intro eq er)
  clear eq er
  have q0 : 0 ≤ q ∧ q ≤ 9223372036854775807 := by omega
  have HB : Fx.Hd (Below w.heap.size w w) := ⟨Below.refl _ _⟩
  cases c1 : decide (c < 0)
  · have ED : Fx.Hd (Fx.partS c m n = q) := ⟨by rw [E2.out.1]; unfold Fx.partS; rw [if_neg (by simpa using c1)]⟩
    go_enter Try.func33, Try.ntmps33
    go_wp2_with (first | (go_at_call 48; (with_reducible refine (vsize_any c _ hc).mono ?_); rintro e w' ⟨rfl, rfl⟩) | (go_at_call 38; (with_reducible refine (up (wmul_as (Fx.sz c) m h l _ sc sm E) HB).mono ?_); clear HB; rintro e w' ⟨rfl, HB⟩) | (go_at_call 47; (with_reducible refine (up (wdiv_pas h l n q (Fx.sz c * m) r _ P (by omega) E E2 q0) HB).mono ?_); clear HB; rintro e w' ⟨rfl, HB⟩))
    go_ret
    exact ⟨Fx.ri ED.out.symm, HB.out.alloc HB.out.size _⟩
  · have ED : Fx.Hd (Fx.partS c m n = -q) := ⟨by rw [E2.out.1]; unfold Fx.partS; rw [if_pos (by simpa using c1)]⟩
    go_enter Try.func33, Try.ntmps33
    go_wp2_with (first | (go_at_call 48; (with_reducible refine (vsize_any c _ hc).mono ?_); rintro e w' ⟨rfl, rfl⟩) | (go_at_call 38; (with_reducible refine (up (wmul_as (Fx.sz c) m h l _ sc sm E) HB).mono ?_); clear HB; rintro e w' ⟨rfl, HB⟩) | (go_at_call 47; (with_reducible refine (up (wdiv_pas h l n q (Fx.sz c * m) r _ P (by omega) E E2 q0) HB).mono ?_); clear HB; rintro e w' ⟨rfl, HB⟩))
    go_ret
    exact ⟨Fx.ri ED.out.symm, HB.out.alloc HB.out.size _⟩
end Go.Proofs.Ytgmhalcofcokbaa
/- The contract of what is made shorter of package vec. -/
namespace Go.Proofs.Ytgmhalcofcokbaa
open Go.RowKit
set_option linter.unusedVariables false
set_option maxHeartbeats 1600000 in
theorem clamp_in_any (a b k m cx cy : Int) (w : World) (ha : Fx.I64 a) (hb : Fx.I64 b) (hk : Fx.I64 k) (hm : k < 0 ∧ m = 0 ∨ 0 ≤ k ∧ m = k) (hle : Fx.lenS a b ≤ m) (EX : Fx.Hd (cx = Fx.cnt a)) (EY : Fx.Hd (cy = Fx.cnt b)) :
    Calls Try.prog 7 #[.agg #[.int .i64 a, .int .i64 b], .int .i64 k] w fun e w' => e = .returned (.agg #[.int .i64 cx, .int .i64 cy]) ∧ Below w.heap.size w w' := by
  have k0 := Kept.start w (.int .i64 a) (.int .i64 b) (.int .i64 0) (.int .i64 0) 24 24
  rcases hm with ⟨hk0, rfl⟩ | ⟨hk0, rfl⟩
  · go_enter Try.func7, Try.ntmps7
    go_wp2_with fail
    generalize (w.alloc (.cells #[.int .i64 a, .int .i64 b] 24)).alloc (.cells #[.int .i64 0, .int .i64 0] 24) = W at *
    have e0 := k0.c0
    have e1 := k0.c1
    have e2 := k0.d0
    have e3 := k0.d1
    have e4 := k0.f0
    have e5 := k0.f1
    have K := Fx.Hd.mk k0
    clear k0
    go_wp2_with (first | (go_at_call 8; (with_reducible refine (heldV (len_any a b _ ha hb) K).mono ?_); clear K e0 e1 e2 e3 e4 e5; rintro e w2 ⟨rfl, K, e0, e1, e2, e3, e4, e5⟩))
    go_region_with (first | (go_at_call 32; (first | (with_reducible refine (vcounted_any a _ ha).mono ?_) | (with_reducible refine (vcounted_any b _ hb).mono ?_)); rintro e w' ⟨rfl, rfl⟩))
    all_goals
      go_wp2
      obtain ⟨rfl⟩ := EX
      obtain ⟨rfl⟩ := EY
      refine bodyPost_ret (v := .agg #[.int .i64 (Fx.cnt a), .int .i64 (Fx.cnt b)]) (by simp [results, Try.results7, go_sem, e2, e3]) rfl ⟨rfl, ?_⟩
      try (with_reducible refine Below.drew ?_)
      refine Below.setCell (p := ⟨w.heap.size + 1, 1, none⟩) (Below.setCell (p := ⟨w.heap.size + 1, 0, none⟩) ?_ (Nat.le_succ w.heap.size) _) (Nat.le_succ w.heap.size) _
      first | exact K.out.hB | exact K.out.hB.drew
  · go_enter Try.func7, Try.ntmps7
    go_wp2_with fail
    generalize (w.alloc (.cells #[.int .i64 a, .int .i64 b] 24)).alloc (.cells #[.int .i64 0, .int .i64 0] 24) = W at *
    have e0 := k0.c0
    have e1 := k0.c1
    have e2 := k0.d0
    have e3 := k0.d1
    have e4 := k0.f0
    have e5 := k0.f1
    have K := Fx.Hd.mk k0
    clear k0
    go_wp2_with (first | (go_at_call 8; (with_reducible refine (heldV (len_any a b _ ha hb) K).mono ?_); clear K e0 e1 e2 e3 e4 e5; rintro e w2 ⟨rfl, K, e0, e1, e2, e3, e4, e5⟩))
    go_region_with (first | (go_at_call 32; (first | (with_reducible refine (vcounted_any a _ ha).mono ?_) | (with_reducible refine (vcounted_any b _ hb).mono ?_)); rintro e w' ⟨rfl, rfl⟩))
    all_goals
      go_wp2
      obtain ⟨rfl⟩ := EX
      obtain ⟨rfl⟩ := EY
      refine bodyPost_ret (v := .agg #[.int .i64 (Fx.cnt a), .int .i64 (Fx.cnt b)]) (by simp [results, Try.results7, go_sem, e2, e3]) rfl ⟨rfl, ?_⟩
      try (with_reducible refine Below.drew ?_)
      refine Below.setCell (p := ⟨w.heap.size + 1, 1, none⟩) (Below.setCell (p := ⟨w.heap.size + 1, 0, none⟩) ?_ (Nat.le_succ w.heap.size) _) (Nat.le_succ w.heap.size) _
      first | exact K.out.hB | exact K.out.hB.drew
set_option maxHeartbeats 1600000 in
theorem clamp_out_any (a b k m cx cy : Int) (w : World) (ha : Fx.I64 a) (hb : Fx.I64 b) (hk : Fx.I64 k) (hm : k < 0 ∧ m = 0 ∨ 0 ≤ k ∧ m = k) (hle : m < Fx.lenS a b) (EX : Fx.Hd (cx = Fx.partS a m (Fx.lenS a b))) (EY : Fx.Hd (cy = Fx.partS b m (Fx.lenS a b))) :
    Calls Try.prog 7 #[.agg #[.int .i64 a, .int .i64 b], .int .i64 k] w fun e w' => e = .returned (.agg #[.int .i64 cx, .int .i64 cy]) ∧ Below w.heap.size w w' := by
  have k0 := Kept.start w (.int .i64 a) (.int .i64 b) (.int .i64 0) (.int .i64 0) 24 24
  have hl := (Fx.lenS_bd ha hb).2
  rcases hm with ⟨hk0, rfl⟩ | ⟨hk0, rfl⟩
  · go_enter Try.func7, Try.ntmps7
    go_wp2_with fail
    generalize (w.alloc (.cells #[.int .i64 a, .int .i64 b] 24)).alloc (.cells #[.int .i64 0, .int .i64 0] 24) = W at *
    have e0 := k0.c0
    have e1 := k0.c1
    have e2 := k0.d0
    have e3 := k0.d1
    have e4 := k0.f0
    have e5 := k0.f1
    have K := Fx.Hd.mk k0
    clear k0
    go_wp2_with (first | (go_at_call 8; (with_reducible refine (heldV (len_any a b _ ha hb) K).mono ?_); clear K e0 e1 e2 e3 e4 e5; rintro e w2 ⟨rfl, K, e0, e1, e2, e3, e4, e5⟩))
    replace K := Fx.Hd.mk K.out.drew
    go_region_with (first | (go_at_call 33; (first | (with_reducible refine (heldV (part_any a 0 (Fx.lenS a b) _ ha (by omega) hle hl) K).mono ?_) | (with_reducible refine (heldV (part_any b 0 (Fx.lenS a b) _ hb (by omega) hle hl) K).mono ?_)); clear K e0 e1 e2 e3 e4 e5; rintro e w2 ⟨rfl, K, e0, e1, e2, e3, e4, e5⟩))
    all_goals
      go_wp2
      obtain ⟨rfl⟩ := EX
      obtain ⟨rfl⟩ := EY
      refine bodyPost_ret (v := .agg #[.int .i64 (Fx.partS a 0 (Fx.lenS a b)), .int .i64 (Fx.partS b 0 (Fx.lenS a b))]) (by simp [results, Try.results7, go_sem, e2, e3]) rfl ⟨rfl, ?_⟩
      try (with_reducible refine Below.drew ?_)
      refine Below.setCell (p := ⟨w.heap.size + 1, 1, none⟩) (Below.setCell (p := ⟨w.heap.size + 1, 0, none⟩) ?_ (Nat.le_succ w.heap.size) _) (Nat.le_succ w.heap.size) _
      first | exact K.out.hB | exact K.out.hB.drew
  · go_enter Try.func7, Try.ntmps7
    go_wp2_with fail
    generalize (w.alloc (.cells #[.int .i64 a, .int .i64 b] 24)).alloc (.cells #[.int .i64 0, .int .i64 0] 24) = W at *
    have e0 := k0.c0
    have e1 := k0.c1
    have e2 := k0.d0
    have e3 := k0.d1
    have e4 := k0.f0
    have e5 := k0.f1
    have K := Fx.Hd.mk k0
    clear k0
    go_wp2_with (first | (go_at_call 8; (with_reducible refine (heldV (len_any a b _ ha hb) K).mono ?_); clear K e0 e1 e2 e3 e4 e5; rintro e w2 ⟨rfl, K, e0, e1, e2, e3, e4, e5⟩))
    replace K := Fx.Hd.mk K.out.drew
    go_region_with (first | (go_at_call 33; (first | (with_reducible refine (heldV (part_any a m (Fx.lenS a b) _ ha (by omega) hle hl) K).mono ?_) | (with_reducible refine (heldV (part_any b m (Fx.lenS a b) _ hb (by omega) hle hl) K).mono ?_)); clear K e0 e1 e2 e3 e4 e5; rintro e w2 ⟨rfl, K, e0, e1, e2, e3, e4, e5⟩))
    all_goals
      go_wp2
      obtain ⟨rfl⟩ := EX
      obtain ⟨rfl⟩ := EY
      refine bodyPost_ret (v := .agg #[.int .i64 (Fx.partS a m (Fx.lenS a b)), .int .i64 (Fx.partS b m (Fx.lenS a b))]) (by simp [results, Try.results7, go_sem, e2, e3]) rfl ⟨rfl, ?_⟩
      try (with_reducible refine Below.drew ?_)
      refine Below.setCell (p := ⟨w.heap.size + 1, 1, none⟩) (Below.setCell (p := ⟨w.heap.size + 1, 0, none⟩) ?_ (Nat.le_succ w.heap.size) _) (Nat.le_succ w.heap.size) _
      first | exact K.out.hB | exact K.out.hB.drew
end Go.Proofs.Ytgmhalcofcokbaa
/- The contract of what is made shorter of the reference of layer 2. -/
namespace Go.Proofs.Ytgmhalcofcokbaa
open Go.RowKit
set_option linter.unusedVariables false
theorem rlen_cnt (a b : Int) (w : World) (ha : Fx.I64 a) (hb : Fx.I64 b) :
    Calls Try.prog 26 #[.agg #[.int .i64 (Fx.cnt a), .int .i64 (Fx.cnt b)]] w fun e w' => e = .returned (.int .i64 (Fx.lenS a b)) ∧ Below w.heap.size w w' := by
  have h := rlen_any (Fx.cnt a) (Fx.cnt b) w (Fx.cnt_i64 ha) (Fx.cnt_i64 hb)
  rw [Fx.lenS_cnt ha hb] at h
  exact h
end Go.Proofs.Ytgmhalcofcokbaa
/- The contract of what is made shorter of the reference of layer 2, where it is shortened. -/
namespace Go.Proofs.Ytgmhalcofcokbaa
open Go.RowKit
set_option linter.unusedVariables false
end Go.Proofs.Ytgmhalcofcokbaa
/- The contracts of what is made shorter, for every number. -/
namespace Go.Proofs.Ytgmhalcofcokbaa
open Go.RowKit
set_option linter.unusedVariables false
theorem Fx.clamp_cases (a b k : Int) :
    (k < 0 ∧ Fx.lenS a b ≤ 0 ∧ Fx.clampX a b k = Fx.cnt a ∧ Fx.clampY a b k = Fx.cnt b) ∨ (0 ≤ k ∧ Fx.lenS a b ≤ k ∧ Fx.clampX a b k = Fx.cnt a ∧ Fx.clampY a b k = Fx.cnt b) ∨
    (k < 0 ∧ 0 < Fx.lenS a b ∧ Fx.clampX a b k = Fx.partS a 0 (Fx.lenS a b) ∧ Fx.clampY a b k = Fx.partS b 0 (Fx.lenS a b)) ∨ (0 ≤ k ∧ k < Fx.lenS a b ∧ Fx.clampX a b k = Fx.partS a k (Fx.lenS a b) ∧ Fx.clampY a b k = Fx.partS b k (Fx.lenS a b)) := by
  unfold Fx.clampX Fx.clampY Fx.most0
  by_cases hk : k < 0
  · rw [if_pos hk]
    by_cases hl : Fx.lenS a b ≤ 0
    · left; rw [if_pos hl, if_pos hl]; exact ⟨hk, hl, rfl, rfl⟩
    · right; right; left; rw [if_neg hl, if_neg hl]; exact ⟨hk, by omega, rfl, rfl⟩
  · rw [if_neg hk]
    by_cases hl : Fx.lenS a b ≤ k
    · right; left; rw [if_pos hl, if_pos hl]; exact ⟨by omega, hl, rfl, rfl⟩
    · right; right; right; rw [if_neg hl, if_neg hl]; exact ⟨by omega, by omega, rfl, rfl⟩
theorem clamp_any (a b k : Int) (w : World) (ha : Fx.I64 a) (hb : Fx.I64 b) (hk : Fx.I64 k) :
    Calls Try.prog 7 #[.agg #[.int .i64 a, .int .i64 b], .int .i64 k] w fun e w' => e = .returned (.agg #[.int .i64 (Fx.clampX a b k), .int .i64 (Fx.clampY a b k)]) ∧ Below w.heap.size w w' := by
  rcases Fx.clamp_cases a b k with ⟨h1, h2, h3, h4⟩ | ⟨h1, h2, h3, h4⟩ | ⟨h1, h2, h3, h4⟩ | ⟨h1, h2, h3, h4⟩
  · exact clamp_in_any a b k 0 _ _ w ha hb hk (.inl ⟨h1, rfl⟩) h2 ⟨h3⟩ ⟨h4⟩
  · exact clamp_in_any a b k k _ _ w ha hb hk (.inr ⟨h1, rfl⟩) h2 ⟨h3⟩ ⟨h4⟩
  · exact clamp_out_any a b k 0 _ _ w ha hb hk (.inl ⟨h1, rfl⟩) h2 ⟨h3⟩ ⟨h4⟩
  · exact clamp_out_any a b k k _ _ w ha hb hk (.inr ⟨h1, rfl⟩) h2 ⟨h3⟩ ⟨h4⟩
/-- A call that makes memory leaves three cells of the argument as they were. -/
theorem held3c {P : Program} {F : FuncId} {args : Array Value} {w w0 : World} {r : Ending} {b o1 o2 o3 : Nat} {x y z : Value} (h : Calls P F args w fun e w' => e = r ∧ Below w.heap.size w w')
    (hB : Below w0.heap.size w0 w) (hbl : b < w0.heap.size) (d0 : w.cell? ⟨b, o1, none⟩ = some x) (d1 : w.cell? ⟨b, o2, none⟩ = some y) (d2 : w.cell? ⟨b, o3, none⟩ = some z) :
    Calls P F args w fun e w' => e = r ∧ w'.cell? ⟨b, o1, none⟩ = some x ∧ w'.cell? ⟨b, o2, none⟩ = some y ∧ w'.cell? ⟨b, o3, none⟩ = some z ∧ Below w0.heap.size w0 w' :=
  h.mono fun e w' ⟨h1, h2⟩ => ⟨h1, (h2.cell (p := ⟨b, o1, none⟩) (Nat.lt_of_lt_of_le hbl hB.size)).trans d0, (h2.cell (p := ⟨b, o2, none⟩) (Nat.lt_of_lt_of_le hbl hB.size)).trans d1, (h2.cell (p := ⟨b, o3, none⟩) (Nat.lt_of_lt_of_le hbl hB.size)).trans d2, hB.trans (h2.mono hB.size)⟩
end Go.Proofs.Ytgmhalcofcokbaa
