/- Layer 4: the bytes of numbers. -/
import Derived.Test.YtmkehmeoglpkeaaPw
import Derived.Test.YtmkehmeoglpkeaaBya
namespace Go.Proofs.Ytmkehmeoglpkeaa
open Go.RowKit
set_option linter.unusedVariables false
/-- What is appended to bytes of the call's own. -/
theorem OwnB.more {w w1 : World} {base n : Nat} {v v' : Value} {xs : List Int} {y : Int} (h : OwnB w base v n xs) (hy : Fn.Byt y) (h' : w1.ownsRow base 5 1 v' (n + 1) (xs.map (Value.int .u8) ++ [.int .u8 y])) : OwnB w1 base v' (n + 1) (xs ++ [y]) := by
  refine ⟨by simp [h.1], fun b hb => ?_, by simpa using h'⟩
  rcases List.mem_append.1 hb with h1 | h1
  · exact h.2.1 b h1
  · simp at h1; subst h1; exact hy
theorem OwnB.nil (w : World) (base : Nat) : OwnB w base (.slice none 0 0) 0 [] := ⟨rfl, by simp, World.ownsRow_nil _ _ _ _⟩
theorem one_at {w : World} {y : Int} {t : TypeId} : ∀ (j : Nat) (u : Value), [Value.int .u8 y][j]? = some u → (w.alloc (.cells #[.int .u8 y] t)).cell? ((⟨w.heap.size, 0, none⟩ : Addr).add j) = some u := by
  intro j u hj
  match j, hj with
  | 0, hj => simp at hj; subst hj; simp [Addr.add]
theorem one_one {y : Int} : ∀ u ∈ [Value.int .u8 y], u.oneCell' = true := by intro u hu; simp at hu; subst hu; rfl
/-- One byte appended: what the law leaves. -/
theorem OwnB.step {w w0 w1 : World} {q : Nat} {v v' : Value} {p : List Int} {y : Int} {t : TypeId} (h : OwnB w w0.heap.size v q p) (hb : Below w0.heap.size w0 w) (hy : Fn.Byt y)
    (h' : w1.ownsRow w0.heap.size 5 1 v' (q + 1) (p.map (Value.int .u8) ++ [.int .u8 y])) (hg : (w.alloc (.cells #[.int .u8 y] t)).grownBy w1 v.ownBlock) :
    OwnB w1 w0.heap.size v' (q + 1) (p ++ [y]) ∧ Below w0.heap.size w0 w1 :=
  ⟨h.more hy h', (hb.alloc hb.size _).grown hg (by have := hb.size; simp; omega) (fun g hg => (h.lt g hg).1)⟩
theorem Wr.or8 (m : Nat) : bits BinOp.or IntKind.u8 ((m : Int) % 128) 128 = ((m % 128 + 128 : Nat) : Int) := by
  rw [u8_or _ _ (by omega) (by omega) (by omega) (by omega)]
  have h := Nat.two_pow_add_eq_or_of_lt (i := 7) (b := m % 128) (by omega) 1
  have e : ((m : Int) % 128).toNat = m % 128 := by omega
  rw [e, show (128 : Int).toNat = 2 ^ 7 * 1 by decide, Nat.or_comm, ← h]; omega
set_option maxRecDepth 100000 in
theorem rnum_any (n : Nat) (w : World) (hn : n ≤ 9223372036854775807) :
    Calls Try.prog 25 #[.int .i64 n] w fun e w' => ∃ v, e = .returned v ∧ OwnB w' w.heap.size v (Wr.numL n).length (Wr.numL n) ∧ Below w.heap.size w w' := by
  obtain ⟨i0, hi, hz0, hz1, hz2⟩ := info_parts info_u8
  have HL := Hk.mk (Wr.numL_nine (n := n) (by omega))
  have HN := Hk.mk hn
  clear hn
  go_enter Try.func25, Try.ntmps25
  go_wp2
  go_loopw [0, 3] (fun x v wr => ∃ (m q : Nat) (p : List Int), x = .int .i64 m ∧ m ≤ n ∧ q ≤ 9 ∧ Hk (OwnB wr w.heap.size v q p) ∧ Hk (p ++ Wr.numL m = Wr.numL n) ∧ Hk (Below w.heap.size w wr)) (fun x _ _ => (intOf x).toNat)
  case atStart => exact ⟨n, 0, [], rfl, by omega, by omega, ⟨OwnB.nil _ _⟩, ⟨rfl⟩, ⟨Below.refl _ _⟩⟩
  case round =>
    obtain ⟨m, q, p, rfl, hm, hq, HO, HE, HB⟩ := hrel
    have hsz := HB.out.size
    have hown := HO.out.2.2
    by_cases hlt : m < 128
    · have i1 : decide ((128 : Int) ≤ (m : Int)) = false := by simp; omega
      have hy : Fn.Byt (m : Int) := by unfold Fn.Byt; omega
      go_wp2_with (at_builtin; refine wpList_append_own _ rfl _ _ 24 rfl w.heap.size 5 i0 (.int .u8 0) 1 1 Try.underlying24 hi hz0 hz1 hz2 rfl (by decide) _ _ _ rfl (hown.alloc _) ⟨wr.heap.size, 0, none⟩ 1 1 [.int .u8 (m : Int)] rfl rfl one_at one_one (by unfold maxLen; omega) (by omega) (by simp; omega) ?_; intro v' w1 hown' hgrow _)
      go_ret
      have hs := HO.out.step HB.out hy hown' hgrow
      refine ⟨_, rfl, ?_, hs.2⟩
      have e : p ++ [(m : Int)] = Wr.numL n := by have := HE.out; rwa [Wr.numL_low hlt] at this
      rw [← e, show (p ++ [(m : Int)]).length = q + 1 by simp [HO.out.1]]
      exact hs.1
    · have i1 : decide ((128 : Int) ≤ (m : Int)) = true := by simp; omega
      have hm3 : (m : Int) ≤ 9223372036854775807 := by have := HN.out; omega
      have hor := Wr.or8 m
      obtain ⟨y, hy⟩ : ∃ y : Int, ((m % 128 + 128 : Nat) : Int) = y := ⟨_, rfl⟩
      rw [hy] at hor
      have hyb : Fn.Byt y := by unfold Fn.Byt; omega
      have HY := Hk.mk hy
      have hq8 : q < 9 := by
        have h1 := congrArg List.length HE.out
        have h2 := Wr.numL_pos m
        have h3 := HL.out
        have h4 := HO.out.1
        simp at h1; omega
      clear hy
      go_wp2_with (at_builtin; refine wpList_append_own _ rfl _ _ 24 rfl w.heap.size 5 i0 (.int .u8 0) 1 1 Try.underlying24 hi hz0 hz1 hz2 rfl (by decide) _ _ _ rfl (hown.alloc _) ⟨wr.heap.size, 0, none⟩ 1 1 [.int .u8 y] rfl rfl one_at one_one (by unfold maxLen; omega) (by omega) (by simp; omega) ?_; intro v' w1 hown' hgrow _)
      go_roundw
      case rel =>
        have hs := HO.out.step HB.out hyb hown' hgrow
        exact ⟨m / 128, q + 1, p ++ [y], by go_num, by omega, by omega, ⟨hs.1⟩, ⟨by have := HE.out; rw [Wr.numL_high (by omega), HY.out] at this; simpa using this⟩, ⟨hs.2⟩⟩
      case measure => simp [intOf]; omega
theorem Wr.or8' (m : Nat) : bits BinOp.or IntKind.u8 ((m : Int) % 256) 128 = ((m % 128 + 128 : Nat) : Int) := by
  rw [u8_or _ _ (by omega) (by omega) (by omega) (by omega)]
  have e : ((m : Int) % 256).toNat = m % 256 := by omega
  rw [e, show (128 : Int).toNat = 128 by decide]
  have h1 : m % 256 = m % 256 / 128 * 128 + m % 128 := by omega
  have h2 : m % 256 / 128 = 0 ∨ m % 256 / 128 = 1 := by omega
  have h := Nat.two_pow_add_eq_or_of_lt (i := 7) (b := m % 128) (by omega) 1
  rw [show (2 ^ 7 * 1 : Nat) = 128 by decide] at h
  rcases h2 with h2 | h2
  · rw [h2] at h1
    rw [show m % 256 = m % 128 by omega, Nat.or_comm, ← h, Nat.add_comm]
  · rw [h2] at h1
    rw [show m % 256 = 128 + m % 128 by omega, h, Nat.or_comm, ← Nat.or_assoc, Nat.or_self, ← h, Nat.add_comm]
set_option maxRecDepth 100000 in
theorem num_any (n : Nat) (w : World) (hn : n ≤ 9223372036854775807) :
    Calls Try.prog 36 #[.int .i64 n] w fun e w' => ∃ v, e = .returned (.tuple #[v, .int .i64 0]) ∧ OwnB w' w.heap.size v (Wr.numL n).length (Wr.numL n) ∧ Below w.heap.size w w' := by
  obtain ⟨i0, hi, hz0, hz1, hz2⟩ := info_parts info_u8
  have HL := Hk.mk (Wr.numL_nine (n := n) (by omega))
  have HN := Hk.mk hn
  clear hn
  have HZ : decide ((n : Int) < 0) = false := by simp
  go_enter Try.func36, Try.ntmps36
  go_wp2
  go_loopw [0, 4] (fun x v wr => ∃ (m q : Nat) (p : List Int), x = .int .i64 m ∧ m ≤ n ∧ q ≤ 9 ∧ Hk (OwnB wr w.heap.size v q p) ∧ Hk (p ++ Wr.numL m = Wr.numL n) ∧ Hk (Below w.heap.size w wr)) (fun x _ _ => (intOf x).toNat)
  case atStart => exact ⟨n, 0, [], rfl, by omega, by omega, ⟨OwnB.nil _ _⟩, ⟨rfl⟩, ⟨Below.refl _ _⟩⟩
  case round =>
    obtain ⟨m, q, p, rfl, hm, hq, HO, HE, HB⟩ := hrel
    have hsz := HB.out.size
    have hown := HO.out.2.2
    by_cases hlt : m < 128
    · have i1 : decide ((128 : Int) ≤ (m : Int)) = false := by simp; omega
      have hy : Fn.Byt (m : Int) := by unfold Fn.Byt; omega
      go_wp2_with (at_builtin; refine wpList_append_own _ rfl _ _ 24 rfl w.heap.size 5 i0 (.int .u8 0) 1 1 Try.underlying24 hi hz0 hz1 hz2 rfl (by decide) _ _ _ rfl (hown.alloc _) ⟨wr.heap.size, 0, none⟩ 1 1 [.int .u8 (m : Int)] rfl rfl one_at one_one (by unfold maxLen; omega) (by omega) (by simp; omega) ?_; intro v' w1 hown' hgrow _)
      go_ret2
      have hs := HO.out.step HB.out hy hown' hgrow
      refine ⟨_, rfl, ?_, hs.2⟩
      have e : p ++ [(m : Int)] = Wr.numL n := by have := HE.out; rwa [Wr.numL_low hlt] at this
      rw [← e, show (p ++ [(m : Int)]).length = q + 1 by simp [HO.out.1]]
      exact hs.1
    · have i1 : decide ((128 : Int) ≤ (m : Int)) = true := by simp; omega
      have hm3 : (m : Int) ≤ 9223372036854775807 := by have := HN.out; omega
      have hor := Wr.or8' m
      obtain ⟨y, hy⟩ : ∃ y : Int, ((m % 128 + 128 : Nat) : Int) = y := ⟨_, rfl⟩
      rw [hy] at hor
      have hyb : Fn.Byt y := by unfold Fn.Byt; omega
      have HY := Hk.mk hy
      have hq8 : q < 9 := by
        have h1 := congrArg List.length HE.out
        have h2 := Wr.numL_pos m
        have h3 := HL.out
        have h4 := HO.out.1
        simp at h1; omega
      clear hy
      go_wp2_with (at_builtin; refine wpList_append_own _ rfl _ _ 24 rfl w.heap.size 5 i0 (.int .u8 0) 1 1 Try.underlying24 hi hz0 hz1 hz2 rfl (by decide) _ _ _ rfl (hown.alloc _) ⟨wr.heap.size, 0, none⟩ 1 1 [.int .u8 y] rfl rfl one_at one_one (by unfold maxLen; omega) (by omega) (by simp; omega) ?_; intro v' w1 hown' hgrow _)
      go_roundw
      case rel =>
        have hs := HO.out.step HB.out hyb hown' hgrow
        exact ⟨m / 128, q + 1, p ++ [y], by go_num, by omega, by omega, ⟨hs.1⟩, ⟨by have := HE.out; rw [Wr.numL_high (by omega), HY.out] at this; simpa using this⟩, ⟨hs.2⟩⟩
      case measure => simp [intOf]; omega
theorem num_neg (n : Int) (w : World) (hn : n < 0) : Calls Try.prog 36 #[.int .i64 n] w fun e w' => e = .returned (.tuple #[.slice none 0 0, .int .i64 1]) ∧ w = w' := by
  go_enter Try.func36, Try.ntmps36
  go_wp2
  go_ret2
  exact ⟨rfl, rfl⟩
end Go.Proofs.Ytmkehmeoglpkeaa
