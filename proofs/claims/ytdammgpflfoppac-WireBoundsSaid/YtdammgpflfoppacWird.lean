/- Layer 4: bytes with their number ahead. -/
import Derived.Test.YtdammgpflfoppacWirc
import Derived.Test.YtdammgpflfoppacByd
import Derived.Test.YtdammgpflfoppacFnvb
namespace Go.Proofs.Ytdammgpflfoppac
open Go.RowKit
set_option linter.unusedVariables false
def rawL (xs : List Int) : List Int := Wr.numL xs.length ++ xs
set_option maxRecDepth 100000 in
theorem raw_any (a : Option Addr) (n c : Nat) (xs : List Int) (w : World) (h : By w w.heap.size a n xs) (hc : a = none → c = 0) (hn : n ≤ 1048576) :
    Calls Try.prog 13 #[.slice a n c] w fun e w' => ∃ v, e = .returned (.tuple #[v, .int .i64 0]) ∧ OwnB w' w.heap.size v (rawL xs).length (rawL xs) ∧ Below w.heap.size w w' := by
  have H := Hk.mk h
  have HC := Hk.mk hc
  have h9 := Hk.mk (Wr.numL_nine (n := n) (by omega))
  clear h hc
  go_enter Try.func13, Try.ntmps13
  go_wp2_with (first | (go_at_call 7; (with_reducible refine (num_any n _ (by omega)).mono ?_); rintro e w1 ⟨v, rfl, ho, hb⟩) | (refine wpList_append_by _ rfl (.tmp 15) (.tmp 16) rfl w.heap.size v (Wr.numL n).length (Wr.numL n) rfl ho w.heap.size a n c xs rfl (H.out.below hb (Nat.le_refl _)) HC.out (by have := h9.out; omega) hb.size ?_; intro v2 w2 ho2 hg2))
  go_ret2
  have e : rawL xs = Wr.numL n ++ xs := by unfold rawL; rw [H.out.len]
  rw [e, show (Wr.numL n ++ xs).length = (Wr.numL n).length + n by simp [H.out.len]]
  exact ⟨v2, rfl, ho2, ho.next hb hg2⟩
def rawErr (xs : List Int) : Int := if (Wr.getS xs).2.2 = 0 then (if 1048576 < (Wr.getS xs).1 then 1 else if (xs.length : Int) - (Wr.getS xs).2.1 < (Wr.getS xs).1 then 11 else 0) else (Wr.getS xs).2.2
theorem raw_cases (xs : List Int) (hx : ∀ b ∈ xs, Fn.Byt b) : ∃ (N K : Nat) (E : Int), Hk (Wr.getS xs = ((N : Int), (K : Int), E)) ∧ K ≤ xs.length ∧ (N : Int) ≤ 9223372036854775807 ∧
    ((E ≠ 0 ∧ rawErr xs = E) ∨ (E = 0 ∧ 1 ≤ K ∧ 1048576 < N ∧ rawErr xs = 1) ∨ (E = 0 ∧ 1 ≤ K ∧ N ≤ 1048576 ∧ xs.length - K < N ∧ rawErr xs = 11) ∨ (E = 0 ∧ 1 ≤ K ∧ N ≤ 1048576 ∧ K + N ≤ xs.length ∧ rawErr xs = 0)) := by
  have hb := Wr.getS_bd hx
  unfold rawErr
  obtain ⟨R, hR⟩ : ∃ R, Wr.getS xs = R := ⟨_, rfl⟩
  rw [hR] at hb ⊢
  obtain ⟨N, K, E⟩ := R
  unfold Wr.GetOk at hb
  obtain ⟨h1, h2, h3, h4, h5, h6⟩ := hb
  simp only at h1 h2 h3 h4 h5 h6 ⊢
  obtain ⟨N, rfl⟩ := Int.eq_ofNat_of_zero_le h1
  obtain ⟨K, rfl⟩ := Int.eq_ofNat_of_zero_le h3
  refine ⟨N, K, E, ⟨rfl⟩, by omega, h2, ?_⟩
  by_cases he : E = 0
  · subst he
    rw [if_pos rfl]
    by_cases g1 : 1048576 < (N : Int)
    · rw [if_pos g1]; right; left; exact ⟨rfl, by omega, by omega, rfl⟩
    · rw [if_neg g1]
      by_cases g2 : (xs.length : Int) - (K : Int) < (N : Int)
      · rw [if_pos g2]; right; right; left; exact ⟨rfl, by omega, by omega, by omega, rfl⟩
      · rw [if_neg g2]; right; right; right; exact ⟨rfl, by omega, by omega, by omega, rfl⟩
  · rw [if_neg he]; exact .inl ⟨he, rfl⟩
def rawK (xs : List Int) : Int := (Wr.getS xs).2.1 + (Wr.getS xs).1
def rawN (xs : List Int) : Nat := (Wr.getS xs).1.toNat
def rawX (xs : List Int) : List Int := (xs.drop (Wr.getS xs).2.1.toNat).take (Wr.getS xs).1.toNat
set_option maxRecDepth 100000 in
theorem getraw_bad (a : Option Addr) (n c : Nat) (xs : List Int) (E0 : Int) (w : World) (h : By w w.heap.size a n xs) (hn : n ≤ 1099511627776) (hE : Hk (rawErr xs = E0)) (h0 : E0 ≠ 0) :
    Calls Try.prog 14 #[.slice a n c] w fun e w' => e = .returned (.tuple #[.slice none 0 0, .int .i64 0, .int .i64 E0]) ∧ w = w' := by
  have HG := Hk.mk (getnum_any a n c xs w h hn)
  obtain ⟨N, K, E, HS, hK, hN, hcase⟩ := raw_cases xs h.byt
  have hl := h.len
  rw [hl] at hK hcase
  rw [HS.out] at HG
  simp only at HG
  clear h hl
  rcases hcase with ⟨he, h2⟩ | ⟨rfl, h1, h3, h2⟩ | ⟨rfl, h1, h3, h4, h2⟩ | ⟨rfl, h1, h3, h4, h2⟩
  · rw [hE.out] at h2
    subst h2
    have g1 : (E0 == 0) = false := by simpa using h0
    have g2 : (E0 != 0) = true := by simpa using h0
    go_enter Try.func14, Try.ntmps14
    go_wp2_with (go_at_call 9; refine HG.out.mono ?_; rintro e w' ⟨rfl, rfl⟩)
    go_ret3
    exact ⟨rfl, rfl⟩
  · rw [hE.out] at h2
    subst h2
    have g2 : decide (1048576 < (N : Int)) = true := by simp; omega
    go_enter Try.func14, Try.ntmps14
    go_wp2_with (go_at_call 9; refine HG.out.mono ?_; rintro e w' ⟨rfl, rfl⟩)
    go_ret3
    exact ⟨rfl, rfl⟩
  · rw [hE.out] at h2
    subst h2
    have g2 : decide (1048576 < (N : Int)) = false := by simp; omega
    have g3 : decide ((n : Int) - (K : Int) < (N : Int)) = true := by simp; omega
    have i1 : (K : Int) ≤ (n : Int) := by omega
    have i2 : (n : Int) ≤ 1099511627776 := by omega
    go_enter Try.func14, Try.ntmps14
    go_wp2_with (go_at_call 9; refine HG.out.mono ?_; rintro e w' ⟨rfl, rfl⟩)
    go_ret3
    exact ⟨rfl, rfl⟩
  · exact absurd (hE.out.symm.trans h2) h0
set_option maxRecDepth 100000 in
theorem getraw_ok (a : Option Addr) (n c : Nat) (xs : List Int) (w : World) (h : By w w.heap.size a n xs) (hnc : n ≤ c) (hcm : c ≤ 9223372036854775807) (hn : n ≤ 1099511627776) (hE : Hk (rawErr xs = 0)) :
    Calls Try.prog 14 #[.slice a n c] w fun e w' => ∃ v, e = .returned (.tuple #[v, .int .i64 (rawK xs), .int .i64 0]) ∧ OwnB w' w.heap.size v (rawN xs) (rawX xs) ∧ Below w.heap.size w w' := by
  have HG := Hk.mk (getnum_any a n c xs w h hn)
  obtain ⟨N, K, E, HS, hK, hN, hcase⟩ := raw_cases xs h.byt
  have hl := h.len
  rw [hl] at hK hcase
  rw [HS.out] at HG
  simp only at HG
  obtain ⟨rfl, h1, h3, h4⟩ : E = 0 ∧ 1 ≤ K ∧ N ≤ 1048576 ∧ K + N ≤ n := by
    have := hE.out
    rcases hcase with ⟨he, h2⟩ | ⟨rfl, h1, h3, h2⟩ | ⟨rfl, h1, h3, h4, h2⟩ | ⟨rfl, h1, h3, h4, h2⟩ <;> omega
  obtain ⟨b, off, rfl, hbl, -⟩ := h.at_ (by omega)
  have HM := Hk.mk ((h.cut hK hnc).head (k := N) (by omega))
  obtain ⟨TA, hTA⟩ : ∃ TA, (if c = K then some (⟨b, off, none⟩ : Addr) else some ⟨b, off + K, none⟩) = TA := ⟨_, rfl⟩
  have HTN : Hk (TA = none → c - K = 0) := ⟨by rw [← hTA]; split <;> (intro h; cases h)⟩
  rw [hTA] at HM
  have HM2 : Hk (By w w.heap.size TA (K + N - K) ((xs.drop K).take N)) := ⟨by rw [Nat.add_sub_cancel_left]; exact HM.out⟩
  have eK : rawK xs = (K : Int) + N := by unfold rawK; rw [HS.out]
  have eN : rawN xs = N := by unfold rawN; rw [HS.out]; rfl
  have eX : rawX xs = (xs.drop K).take N := by unfold rawX; rw [HS.out]; rfl
  have EK := Hk.mk eK
  have EN := Hk.mk eN
  have EX := Hk.mk eX
  clear eK eN eX hcase hl HS h
  have g2 : decide (1048576 < (N : Int)) = false := by simp; omega
  have g3 : decide ((n : Int) - (K : Int) < (N : Int)) = false := by simp; omega
  have i1 : (K : Int) ≤ (n : Int) := by omega
  have i2 : (n : Int) ≤ 1099511627776 := by omega
  have i3 : (K : Int) + (N : Int) ≤ (n : Int) := by omega
  have i4 : (n : Int) ≤ (c : Int) := by omega
  have i5 : (K : Int) + (N : Int) ≤ (c : Int) := by omega
  have i6 : (c : Int) ≤ 9223372036854775807 := by omega
  clear hN hcm h4
  go_enter Try.func14, Try.ntmps14
  go_wp2_with (first | (go_at_call 9; refine HG.out.mono ?_; rintro e w' ⟨rfl, rfl⟩) | (at_builtin; refine wpList_append_by _ rfl (.tmp 26) (.tmp 32) rfl w.heap.size (.slice none 0 0) 0 [] rfl (OwnB.nil _ _) w.heap.size TA (K + N - K) (c - K) _ rfl HM2.out HTN.out (by omega) (Nat.le_refl _) ?_; intro v2 w2 ho2 hg2))
  go_ret3
  simp only [Nat.zero_add, List.nil_append, Nat.add_sub_cancel_left] at ho2
  rw [EK.out, EN.out, EX.out]
  exact ⟨v2, rfl, ho2, (OwnB.nil w w.heap.size).next (Below.refl _ _) hg2⟩
end Go.Proofs.Ytdammgpflfoppac
