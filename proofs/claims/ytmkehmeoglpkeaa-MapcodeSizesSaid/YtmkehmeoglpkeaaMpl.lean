/- Layer 7: what is read is just its bytes; a map cut off; a byte turned: plain. -/
import Derived.Test.YtmkehmeoglpkeaaMpk
namespace Go.Proofs.Ytmkehmeoglpkeaa
open Go.RowKit
set_option linter.unusedVariables false
/-- From a on the bytes are L, up to a'. -/
def Sg (xs : List Int) (a : Nat) (L : List Int) (a' : Nat) : Prop := xs.drop a = L ++ xs.drop a' ∧ a' = a + L.length
theorem Sg.nil (xs : List Int) (a : Nat) : Sg xs a [] a := ⟨rfl, rfl⟩
theorem Sg.trans {xs L M : List Int} {a b c : Nat} (h : Sg xs a L b) (k : Sg xs b M c) : Sg xs a (L ++ M) c := ⟨by rw [h.1, k.1, List.append_assoc], by rw [k.2, h.2, List.length_append]; omega⟩
theorem byteS_ok {xs : List Int} {lo hi z : Int} {a a' : Nat} {e : Int} (h : byteS xs lo hi a e = (z, a', 0)) : e = 0 ∧ Sg xs a [z] a' ∧ lo ≤ z ∧ z ≤ hi := by
  unfold byteS at h
  split at h
  · simp only [Prod.mk.injEq] at h; omega
  · split at h
    · simp only [Prod.mk.injEq] at h; omega
    · split at h
      · simp only [Prod.mk.injEq] at h; omega
      · rename_i h1 h2 h3
        simp only [Prod.mk.injEq] at h
        obtain ⟨rfl, rfl, -⟩ := h
        refine ⟨by omega, ⟨?_, rfl⟩, by omega, by omega⟩
        rw [List.drop_eq_getElem_cons (by omega)]
        simp [List.getD, List.getElem?_eq_getElem (show a < xs.length by omega)]
theorem signS_ok {xs : List Int} (L : List Int) : ∀ {a a' : Nat} {e : Int}, signS xs L a e = (a', 0) → e = 0 ∧ Sg xs a L a' := by
  induction L with
  | nil => intro a a' e h; simp only [signS, Prod.mk.injEq] at h; obtain ⟨rfl, rfl⟩ := h; exact ⟨rfl, Sg.nil _ _⟩
  | cons x l ih =>
    intro a a' e h
    obtain ⟨r, hr⟩ : ∃ r, byteS xs x x a e = r := ⟨_, rfl⟩
    obtain ⟨z, b, e'⟩ := r
    have h1 : signS xs l b e' = (a', 0) := by
      have h0 : signS xs (x :: l) a e = signS xs l (byteS xs x x a e).2.1 (byteS xs x x a e).2.2 := rfl
      rw [h0, hr] at h; exact h
    obtain ⟨rfl, h2⟩ := ih h1
    obtain ⟨h3, h4, h5, h6⟩ := byteS_ok hr
    have h7 : z = x := by omega
    subst h7
    exact ⟨h3, h4.trans h2⟩
theorem tileS_ok {xs : List Int} (k : Nat) {a : Nat} {e : Int} : ∀ {ts : List Int} {a' : Nat}, tileS xs k a e = (ts, a', 0) → e = 0 ∧ Sg xs a ts a' ∧ (∀ x ∈ ts, 0 ≤ x ∧ x ≤ 5) ∧ ts.length = k := by
  induction k with
  | zero => intro ts a' h; simp only [tileS, Prod.mk.injEq] at h; obtain ⟨rfl, rfl, rfl⟩ := h; exact ⟨rfl, Sg.nil _ _, by simp, rfl⟩
  | succ k ih =>
    intro ts a' h
    obtain ⟨r, hr⟩ : ∃ r, tileS xs k a e = r := ⟨_, rfl⟩
    obtain ⟨us, b, e'⟩ := r
    obtain ⟨q, hq⟩ : ∃ q, byteS xs 0 5 b e' = q := ⟨_, rfl⟩
    obtain ⟨z, b2, e2⟩ := q
    simp only [tileS, hr, hq, Prod.mk.injEq] at h
    obtain ⟨rfl, rfl, rfl⟩ := h
    obtain ⟨rfl, h2, h3, h4⟩ := byteS_ok hq
    obtain ⟨rfl, h5, h6, h7⟩ := ih hr
    refine ⟨rfl, h5.trans h2, fun x hx => ?_, by simp [h7]⟩
    rcases List.mem_append.1 hx with h | h
    · exact h6 x h
    · simp at h; subst h; exact ⟨h3, h4⟩
theorem rdV_ok {xs : List Int} (hx : ∀ b ∈ xs, Fn.Byt b) {a a' : Nat} {e W : Int} (h : rdV false xs 1 128 a e = (W, a', 0)) : e = 0 ∧ Sg xs a (Wr.numL W.toNat) a' ∧ 1 ≤ W ∧ W ≤ 128 := by
  have hxd : ∀ b ∈ xs.drop a, Fn.Byt b := fun b hb => hx b (List.mem_of_mem_drop hb)
  have hb := Wr.getS_bd hxd
  unfold rdV stpC at h
  obtain ⟨G, hG⟩ : ∃ G, Wr.getS (xs.drop a) = G := ⟨_, rfl⟩
  obtain ⟨N, K, E⟩ := G
  rw [hG] at h hb
  obtain ⟨b1, b2, b3, b4, b5, b6⟩ := hb
  simp only [Bool.false_eq_true, if_false] at h b3 b4
  split at h
  · simp only [Prod.mk.injEq] at h; omega
  · split at h
    · simp only [Prod.mk.injEq] at h; omega
    · split at h
      · simp only [Prod.mk.injEq] at h; omega
      · rename_i q1 q2 q3
        simp only [Prod.mk.injEq] at h
        obtain ⟨rfl, rfl, -⟩ := h
        have hE : E = 0 := by omega
        rw [hE] at hG
        have h1 := (Wr.getS_bytes hxd hG).1
        have h2 : K.toNat ≤ (xs.drop a).length := by omega
        have h3 : (Wr.numL N.toNat).length = K.toNat := by rw [← h1, List.length_take]; omega
        refine ⟨by omega, ⟨?_, by rw [h3]⟩, by omega, by omega⟩
        rw [← h1, ← List.drop_drop, List.take_append_drop]
/-- What is read as a map are just its bytes. -/
theorem mapS_ok {xs : List Int} (hx : ∀ b ∈ xs, Fn.Byt b) {W H : Int} {ts : List Int} (h : mapS xs = (W, H, ts, 0)) :
    xs = Mp.mapL W H ts ∧ (1 ≤ W ∧ W ≤ 128) ∧ (1 ≤ H ∧ H ≤ 128) ∧ (ts.length : Int) = W * H ∧ ∀ x ∈ ts, 0 ≤ x ∧ x ≤ 5 := by
  obtain ⟨a1, e1, h1⟩ : ∃ a1 e1, signS xs [84, 71] 0 0 = (a1, e1) := ⟨_, _, rfl⟩
  have q1 : e1 = 0 := by
    apply Classical.byContradiction; intro he
    have h9 := mapS_1 h1 he; rw [h] at h9; simp only [Prod.mk.injEq] at h9; omega
  subst q1
  obtain ⟨W1, a2, e2, h2⟩ : ∃ W1 a2 e2, rdV false xs 1 128 a1 0 = (W1, a2, e2) := ⟨_, _, _, rfl⟩
  have q2 : e2 = 0 := by
    apply Classical.byContradiction; intro he
    have h9 := mapS_2 h1 h2 he; rw [h] at h9; simp only [Prod.mk.injEq] at h9; omega
  subst q2
  obtain ⟨H1, a3, e3, h3⟩ : ∃ H1 a3 e3, rdV false xs 1 128 a2 0 = (H1, a3, e3) := ⟨_, _, _, rfl⟩
  have q3 : e3 = 0 := by
    apply Classical.byContradiction; intro he
    have h9 := mapS_3 h1 h2 h3 he; rw [h] at h9; simp only [Prod.mk.injEq] at h9; omega
  subst q3
  obtain ⟨us, a4, e4, h4⟩ : ∃ us a4 e4, tileS xs (W1 * H1).toNat a3 0 = (us, a4, e4) := ⟨_, _, _, rfl⟩
  have q4 : e4 = 0 := by
    apply Classical.byContradiction; intro he
    have h9 := mapS_4 h1 h2 h3 rfl (by rw [h4]) he; rw [h] at h9; simp only [Prod.mk.injEq] at h9; omega
  subst q4
  obtain ⟨a5, e5, h5⟩ : ∃ a5 e5, hashS xs a4 0 = (a5, e5) := ⟨_, _, rfl⟩
  have q5 : e5 = 0 := by
    apply Classical.byContradiction; intro he
    have h9 := mapS_5 h1 h2 h3 rfl (by rw [h4]) h5 he; rw [h] at h9; simp only [Prod.mk.injEq] at h9; omega
  subst q5
  have h9 := mapS_6 h1 h2 h3 rfl h4 h5
  rw [h] at h9
  by_cases hl : a5 < xs.length
  · rw [if_pos hl] at h9; simp only [Prod.mk.injEq] at h9; omega
  rw [if_neg hl] at h9
  simp only [Prod.mk.injEq] at h9
  obtain ⟨rfl, rfl, rfl, -⟩ := h9
  obtain ⟨-, s1⟩ := signS_ok _ h1
  obtain ⟨-, s2, w1, w2⟩ := rdV_ok hx h2
  obtain ⟨-, s3, w3, w4⟩ := rdV_ok hx h3
  obtain ⟨-, s4, t1, t2⟩ := tileS_ok _ h4
  have sB : Sg xs 0 (Mp.mapB W H ts) a4 := ((s1.trans s2).trans s3).trans s4
  have hB : xs.take a4 = Mp.mapB W H ts := by
    have e := sB.1
    have e2 := sB.2
    rw [List.drop_zero] at e
    rw [e, e2, Nat.zero_add, List.take_left']
    rfl
  unfold hashS at h5
  rw [if_neg (by omega), hB] at h5
  obtain ⟨-, s5⟩ := signS_ok _ h5
  have sL : Sg xs 0 (Mp.mapL W H ts) a5 := sB.trans s5
  refine ⟨?_, ⟨w1, w2⟩, ⟨w3, w4⟩, ?_, t1⟩
  · have e := sL.1
    rw [List.drop_zero, List.drop_of_length_le (by omega), List.append_nil] at e
    exact e
  · rw [t2]
    have := Int.mul_nonneg (show 0 ≤ W by omega) (show 0 ≤ H by omega)
    omega
end Go.Proofs.Ytmkehmeoglpkeaa
