/- What was read as a command are just its bytes; what is cut off is no command. -/
import Derived.Test.YtkffleclofkjmaaCmr
import Derived.Test.YtkffleclofkjmaaPw2
namespace Go.Proofs.Ytkffleclofkjmaa
set_option linter.unusedVariables false
theorem stpC_ok {N K E lo hi : Int} {at_ : Nat} {e z : Int} {at' : Nat} (h : stpC N K E lo hi at_ e = (z, at', 0)) : e = 0 ∧ E = 0 ∧ z = N ∧ lo ≤ z ∧ z ≤ hi ∧ at' = at_ + K.toNat := by
  unfold stpC at h
  (repeat' split at h) <;> (injection h with h1 h2; injection h2 with h2 h3)
  · omega
  · omega
  · omega
  · rename_i g1 g2 g3
    exact ⟨by omega, by omega, h1.symm, by omega, by omega, h2.symm⟩
theorem take_add {xs a : List Int} {at_ m : Nat} (h : (xs.drop at_).take m = a) : xs.take (at_ + m) = xs.take at_ ++ a := by
  rw [List.take_add, h]
theorem rdV_ok {xs : List Int} (hx : ∀ b ∈ xs, Fn.Byt b) {lo hi z : Int} {at_ at' : Nat} {e : Int} (h : rdV false xs lo hi at_ e = (z, at', 0)) : e = 0 ∧ lo ≤ z ∧ z ≤ hi ∧ 0 ≤ z ∧ xs.take at' = xs.take at_ ++ Wr.numL z.toNat := by
  unfold rdV at h
  obtain ⟨G, hG⟩ : ∃ G, Wr.getS (xs.drop at_) = G := ⟨_, rfl⟩
  obtain ⟨N, K, E⟩ := G
  rw [hG] at h
  obtain ⟨h1, h2, h3, h4, h5, h6⟩ := stpC_ok h
  simp at h2 h3 h6
  subst h2 h3 h6
  have hb := Wr.getS_bytes (fun b hb => hx b (List.mem_of_mem_drop hb)) hG
  exact ⟨h1, h4, h5, hb.2, take_add hb.1⟩
theorem rdV_oki {xs : List Int} (hx : ∀ b ∈ xs, Fn.Byt b) {lo hi z : Int} {at_ at' : Nat} {e : Int} (h : rdV true xs lo hi at_ e = (z, at', 0)) : e = 0 ∧ lo ≤ z ∧ z ≤ hi ∧ xs.take at' = xs.take at_ ++ Wr.numL (Wr.zig z) := by
  unfold rdV at h
  obtain ⟨G, hG⟩ : ∃ G, Wr.getS (xs.drop at_) = G := ⟨_, rfl⟩
  obtain ⟨N, K, E⟩ := G
  rw [hG] at h
  obtain ⟨h1, h2, h3, h4, h5, h6⟩ := stpC_ok h
  simp at h2 h3 h6
  subst h2 h6
  have hb := Wr.getS_bytes (fun b hb => hx b (List.mem_of_mem_drop hb)) hG
  refine ⟨h1, h4, h5, ?_⟩
  rw [h3, Wr.zig_unzig hb.2]
  exact take_add hb.1
theorem rdU_ok {xs : List Int} (hx : ∀ b ∈ xs, Fn.Byt b) : ∀ (k : Nat) {last : Int} {l : List Int} {at_ at' : Nat} {e : Int}, rdU xs k last at_ e = (l, at', 0) → e = 0 ∧ l.length = k ∧ ascL last l = true ∧ xs.take at' = xs.take at_ ++ uL l := by
  intro k
  induction k with
  | zero =>
    intro last l at_ at' e h
    simp [rdU] at h
    obtain ⟨rfl, rfl, rfl⟩ := h
    simp [ascL, uL]
  | succ k ih =>
    intro last l at_ at' e h
    obtain ⟨G, hG⟩ : ∃ G, rdV false xs (last + 1) 1099511627776 at_ e = G := ⟨_, rfl⟩
    obtain ⟨z, a1, e1⟩ := G
    simp only [rdU, hG] at h
    obtain ⟨G2, hG2⟩ : ∃ G, rdU xs k z a1 e1 = G := ⟨_, rfl⟩
    obtain ⟨l2, a2, e2⟩ := G2
    rw [hG2] at h
    injection h with h1 h2
    injection h2 with h2 h3
    simp at h1 h2 h3
    subst h1 h2 h3
    obtain ⟨rfl, b2, b3, b4⟩ := ih hG2
    obtain ⟨c1, c2, c3, c4, c5⟩ := rdV_ok hx hG
    refine ⟨c1, by simp [b2], by simp [ascL, b3]; omega, ?_⟩
    rw [b4, c5]
    simp [uL]
theorem rdP_ok {xs : List Int} (hx : ∀ b ∈ xs, Fn.Byt b) {q : Int} {f f' : CF} {at_ at' : Nat} {e : Int} (h0 : q = 2 → f.u = []) (h : rdP xs q f at_ e = (f', at', 0)) : e = 0 ∧ vB q f' = true ∧ xs.take at' = xs.take at_ ++ wrB q f' ∧ f' = setF q f' f := by
  unfold rdP at h
  unfold vB wrB setF
  by_cases q0 : q = 0
  · simp only [q0, ↓reduceIte] at *
    obtain ⟨⟨z, a1, e1⟩, hG⟩ : ∃ G, rdV false xs 0 3 at_ e = G := ⟨_, rfl⟩
    rw [hG] at h
    simp at h
    obtain ⟨rfl, rfl, rfl⟩ := h
    obtain ⟨c1, c2, c3, c4, c5⟩ := rdV_ok hx hG
    exact ⟨c1, by simp; omega, c5, rfl⟩
  by_cases q1 : q = 1
  · simp only [q1, ↓reduceIte] at *
    obtain ⟨⟨z, a1, e1⟩, hG⟩ : ∃ G, rdV false xs 1 1099511627776 at_ e = G := ⟨_, rfl⟩
    simp [hG] at h
    obtain ⟨rfl, rfl, rfl⟩ := h
    obtain ⟨c1, c2, c3, c4, c5⟩ := rdV_ok hx hG
    exact ⟨c1, by simp; omega, by simpa using c5, by simp⟩
  by_cases q2 : q = 2
  · simp only [q2, ↓reduceIte] at *
    obtain ⟨⟨z, a1, e1⟩, hG⟩ : ∃ G, rdV false xs 1 64 at_ e = G := ⟨_, rfl⟩
    obtain ⟨⟨l, a2, e2⟩, hU⟩ : ∃ G, rdU xs z.toNat 0 a1 e1 = G := ⟨_, rfl⟩
    simp [hG, hU, h0] at h
    obtain ⟨rfl, rfl, rfl⟩ := h
    obtain ⟨rfl, d2, d3, d4⟩ := rdU_ok hx _ hU
    obtain ⟨c1, c2, c3, c4, c5⟩ := rdV_ok hx hG
    refine ⟨c1, by simp [idsB, d3]; omega, ?_, by simp⟩
    rw [d4, c5, ← d2]
    simp
  by_cases q3 : q = 3
  · simp only [q3, ↓reduceIte] at *
    obtain ⟨⟨z, a1, e1⟩, hG⟩ : ∃ G, rdV false xs 0 16383 at_ e = G := ⟨_, rfl⟩
    simp [hG] at h
    obtain ⟨rfl, rfl, rfl⟩ := h
    obtain ⟨c1, c2, c3, c4, c5⟩ := rdV_ok hx hG
    exact ⟨c1, by simp; omega, by simpa using c5, by simp⟩
  by_cases q4 : q = 4
  · simp only [q4, ↓reduceIte] at *
    obtain ⟨⟨z, a1, e1⟩, hG⟩ : ∃ G, rdV false xs 1 4 at_ e = G := ⟨_, rfl⟩
    obtain ⟨⟨z2, a2, e2⟩, hG2⟩ : ∃ G, rdV false xs 1 4 a1 e1 = G := ⟨_, rfl⟩
    simp [hG, hG2] at h
    obtain ⟨rfl, rfl, rfl⟩ := h
    obtain ⟨rfl, d2, d3, d4, d5⟩ := rdV_ok hx hG2
    obtain ⟨c1, c2, c3, c4, c5⟩ := rdV_ok hx hG
    refine ⟨c1, by simp; omega, ?_, by simp⟩
    rw [d5, c5]; simp
  · simp only [q0, q1, q2, q3, q4, ↓reduceIte] at *
    obtain ⟨⟨z, a1, e1⟩, hG⟩ : ∃ G, rdV true xs (-1099511627776) 1099511627776 at_ e = G := ⟨_, rfl⟩
    obtain ⟨⟨z2, a2, e2⟩, hG2⟩ : ∃ G, rdV true xs (-1099511627776) 1099511627776 a1 e1 = G := ⟨_, rfl⟩
    simp [hG, hG2] at h
    obtain ⟨rfl, rfl, rfl⟩ := h
    obtain ⟨rfl, d2, d3, d4⟩ := rdV_oki hx hG2
    obtain ⟨c1, c2, c3, c4⟩ := rdV_oki hx hG
    refine ⟨c1, by simp; omega, ?_, by simp⟩
    rw [d4, c4]; simp
theorem par_ok {xs : List Int} (hx : ∀ b ∈ xs, Fn.Byt b) {p s k : Int} {f : CF} {at' : Nat} (h : parC xs = (k, p, s, f, at', 0)) : okC p s k f = true ∧ bytesC p s k f = xs.take at' := by
  unfold parC at h
  obtain ⟨⟨k1, a1, e1⟩, hK⟩ : ∃ G, rdV false xs 1 7 0 0 = G := ⟨_, rfl⟩
  obtain ⟨⟨p1, a2, e2⟩, hP⟩ : ∃ G, rdV false xs 1 8 a1 e1 = G := ⟨_, rfl⟩
  obtain ⟨⟨s1, a3, e3⟩, hS⟩ : ∃ G, rdV false xs 0 1099511627776 a2 e2 = G := ⟨_, rfl⟩
  simp only [hK, hP, hS] at h
  obtain ⟨⟨f1, a4, e4⟩, hL⟩ : ∃ G, rdL xs (partsL k1) zeroF a3 e3 = G := ⟨_, rfl⟩
  rw [hL] at h
  simp at h
  obtain ⟨rfl, rfl, rfl, rfl, rfl, rfl⟩ := h
  have one : ∀ q1, partsL k1 = [q1] → e3 = 0 ∧ vB q1 f1 = true ∧ xs.take a4 = xs.take a3 ++ wrB q1 f1 ∧ f1 = setF q1 f1 zeroF := by
    intro q1 e
    rw [e] at hL
    simp only [rdL] at hL
    obtain ⟨⟨g1, b1, c1⟩, hQ⟩ : ∃ G, rdP xs q1 zeroF a3 e3 = G := ⟨_, rfl⟩
    rw [hQ] at hL
    simp at hL
    obtain ⟨rfl, rfl, rfl⟩ := hL
    exact rdP_ok hx (fun _ => rfl) hQ
  have two : ∀ q1 q2, partsL k1 = [q1, q2] → q2 ≠ 2 → ∃ g1, e3 = 0 ∧ vB q1 g1 = true ∧ vB q2 f1 = true ∧ xs.take a4 = xs.take a3 ++ wrB q1 g1 ++ wrB q2 f1 ∧ g1 = setF q1 g1 zeroF ∧ f1 = setF q2 f1 g1 := by
    intro q1 q2 e hq
    rw [e] at hL
    simp only [rdL] at hL
    obtain ⟨⟨g1, b1, c1⟩, hQ⟩ : ∃ G, rdP xs q1 zeroF a3 e3 = G := ⟨_, rfl⟩
    rw [hQ] at hL
    obtain ⟨⟨g2, b2, c2⟩, hQ2⟩ : ∃ G, rdP xs q2 g1 b1 c1 = G := ⟨_, rfl⟩
    simp [hQ2] at hL
    obtain ⟨rfl, rfl, rfl⟩ := hL
    obtain ⟨rfl, y2, y3, y4⟩ := rdP_ok hx (fun e => absurd e hq) hQ2
    obtain ⟨z1, z2, z3, z4⟩ := rdP_ok hx (fun _ => rfl) hQ
    exact ⟨g1, z1, z2, y2, by rw [y3, z3], z4, y4⟩
  have none_ : partsL k1 = [] → e3 = 0 := by
    intro e
    rw [e] at hL
    simp [rdL] at hL
    exact hL.2.2
  have he3 : e3 = 0 := by
    by_cases hk : k1 < 1 ∨ 7 < k1
    · exact none_ (partsL_none hk)
    · have hc : k1 = 1 ∨ k1 = 2 ∨ k1 = 3 ∨ k1 = 4 ∨ k1 = 5 ∨ k1 = 6 ∨ k1 = 7 := by omega
      rcases hc with rfl | rfl | rfl | rfl | rfl | rfl | rfl
      · exact (two 0 5 rfl (by simp)).choose_spec.1
      · exact (two 2 3 rfl (by simp)).choose_spec.1
      · exact (one 2 rfl).1
      · exact (two 3 4 rfl (by simp)).choose_spec.1
      · exact (one 1 rfl).1
      · exact (two 2 1 rfl (by simp)).choose_spec.1
      · exact (two 1 3 rfl (by simp)).choose_spec.1
  subst he3
  obtain ⟨rfl, s1a, s1b, s1c, hs4⟩ := rdV_ok hx hS
  obtain ⟨rfl, p1a, p1b, p1c, hp4⟩ := rdV_ok hx hP
  obtain ⟨-, k1a, k1b, k1c, hk4⟩ := rdV_ok hx hK
  have hB : baseB p1 s1 = true := by unfold baseB; simp; omega
  have hT : xs.take a3 = Wr.numL k1.toNat ++ Wr.numL p1.toNat ++ Wr.numL s1.toNat := by rw [hs4, hp4, hk4]; simp
  rw [refC_eq]
  unfold bytesC refC
  rw [hB, ← hT]
  have hc : k1 = 1 ∨ k1 = 2 ∨ k1 = 3 ∨ k1 = 4 ∨ k1 = 5 ∨ k1 = 6 ∨ k1 = 7 := by omega
  clear hL hK hP hS none_ hx hs4 hp4 hk4 hT
  obtain ⟨n, u, t, w, h', x, y⟩ := f1
  rcases hc with rfl | rfl | rfl | rfl | rfl | rfl | rfl
  · obtain ⟨⟨n', u', t', w', h'', x', y'⟩, -, v1, v2, hb, e1, e2⟩ := two 0 5 rfl (by simp)
    simp [setF, zeroF] at e1 e2
    simp [partsL, hb, wrB] at *
    simp [vB] at *
    grind
  · obtain ⟨⟨n', u', t', w', h'', x', y'⟩, -, v1, v2, hb, e1, e2⟩ := two 2 3 rfl (by simp)
    simp [setF, zeroF] at e1 e2
    simp [partsL, hb, wrB] at *
    simp [vB] at *
    grind
  · obtain ⟨-, v1, hb, e1⟩ := one 2 rfl
    simp [setF, zeroF] at e1
    simp [partsL, hb, wrB] at *
    simp [vB] at *
    grind
  · obtain ⟨⟨n', u', t', w', h'', x', y'⟩, -, v1, v2, hb, e1, e2⟩ := two 3 4 rfl (by simp)
    simp [setF, zeroF] at e1 e2
    simp [partsL, hb, wrB] at *
    simp [vB] at *
    grind
  · obtain ⟨-, v1, hb, e1⟩ := one 1 rfl
    simp [setF, zeroF] at e1
    simp [partsL, hb, wrB] at *
    simp [vB] at *
    grind
  · obtain ⟨⟨n', u', t', w', h'', x', y'⟩, -, v1, v2, hb, e1, e2⟩ := two 2 1 rfl (by simp)
    simp [setF, zeroF] at e1 e2
    simp [partsL, hb, wrB] at *
    simp [vB] at *
    grind
  · obtain ⟨⟨n', u', t', w', h'', x', y'⟩, -, v1, v2, hb, e1, e2⟩ := two 1 3 rfl (by simp)
    simp [setF, zeroF] at e1 e2
    simp [partsL, hb, wrB] at *
    simp [vB] at *
    grind
theorem drop_cut (ys : List Int) (j at_ : Nat) : (ys.take j).drop at_ = (ys.drop at_).take (j - at_) := List.drop_take ..
theorem getS_11 {n : Nat} (h : n < 9223372036854775808) {i : Nat} (hi : i < (Wr.numL n).length) (rest : List Int) : Wr.getS ((Wr.numL n ++ rest).take i) = (0, 0, 11) := by
  rw [List.take_append_of_le_length (by omega)]
  exact Wr.getS_cut h hi
theorem rdV_cut {ys rest : List Int} {lo hi z : Int} {at_ j : Nat} (h0 : 0 ≤ z) (h1 : lo ≤ z) (h2 : z ≤ hi) (hz : z ≤ 1099511627776) (hd : ys.drop at_ = Wr.numL z.toNat ++ rest) (hj : at_ ≤ j) :
    (at_ + (Wr.numL z.toNat).length ≤ j ∧ rdV false (ys.take j) lo hi at_ 0 = (z, at_ + (Wr.numL z.toNat).length, 0)) ∨ rdV false (ys.take j) lo hi at_ 0 = (0, at_, 11) := by
  have hd2 := drop_cut ys j at_
  rw [hd] at hd2
  by_cases hc : at_ + (Wr.numL z.toNat).length ≤ j
  · refine .inl ⟨hc, ?_⟩
    rw [List.take_append] at hd2
    rw [List.take_of_length_le (l := Wr.numL z.toNat) (by omega)] at hd2
    exact rdV_num h0 h1 h2 hz hd2
  · refine .inr ?_
    unfold rdV
    rw [hd2, getS_11 (by omega) (by omega)]
    simp [stpC]
theorem rdV_cuti {ys rest : List Int} {lo hi z : Int} {at_ j : Nat} (h1 : lo ≤ z) (h2 : z ≤ hi) (hz : -1099511627776 ≤ z ∧ z ≤ 1099511627776) (hd : ys.drop at_ = Wr.numL (Wr.zig z) ++ rest) (hj : at_ ≤ j) :
    (at_ + (Wr.numL (Wr.zig z)).length ≤ j ∧ rdV true (ys.take j) lo hi at_ 0 = (z, at_ + (Wr.numL (Wr.zig z)).length, 0)) ∨ rdV true (ys.take j) lo hi at_ 0 = (0, at_, 11) := by
  have hd2 := drop_cut ys j at_
  rw [hd] at hd2
  by_cases hc : at_ + (Wr.numL (Wr.zig z)).length ≤ j
  · refine .inl ⟨hc, ?_⟩
    rw [List.take_append] at hd2
    rw [List.take_of_length_le (l := Wr.numL (Wr.zig z)) (by omega)] at hd2
    exact rdV_int h1 h2 hz hd2
  · refine .inr ?_
    unfold rdV
    rw [hd2, getS_11 (by unfold Wr.zig; split <;> omega) (by omega)]
    simp [stpC]
theorem rdV_11 (sg : Bool) (xs : List Int) (lo hi : Int) (at_ : Nat) : rdV sg xs lo hi at_ 11 = (0, at_, 11) := by unfold rdV stpC; simp
theorem rdU_11 (xs : List Int) (k : Nat) : ∀ (last : Int) (at_ : Nat), (rdU xs k last at_ 11).2.2 = 11 := by
  induction k with
  | zero => intro last at_; rfl
  | succ k ih => intro last at_; simp only [rdU, rdV_11]; exact ih 0 at_
theorem rdP_11 (xs : List Int) (q : Int) (f : CF) (at_ : Nat) : (rdP xs q f at_ 11).2.2 = 11 := by
  unfold rdP
  (repeat' split) <;> simp [rdV_11, rdU_11]
theorem rdL_11 (xs : List Int) (l : List Int) : ∀ (f : CF) (at_ : Nat), (rdL xs l f at_ 11).2.2 = 11 := by
  induction l with
  | nil => intro f at_; rfl
  | cons q l ih =>
    intro f at_
    simp only [rdL]
    rw [rdP_11]
    exact ih _ _
theorem rdU_cut {ys : List Int} {j : Nat} {u : List Int} : ∀ {last : Int} {rest : List Int} {at_ : Nat}, ascL last u = true → 0 ≤ last → ys.drop at_ = uL u ++ rest → at_ ≤ j →
    (at_ + (uL u).length ≤ j ∧ rdU (ys.take j) u.length last at_ 0 = (u, at_ + (uL u).length, 0)) ∨ (rdU (ys.take j) u.length last at_ 0).2.2 = 11 := by
  induction u with
  | nil => intro last rest at_ _ _ hd hj; exact .inl ⟨by simpa [uL] using hj, by simp [rdU, uL]⟩
  | cons a u ih =>
    intro last rest at_ ha hl hd hj
    unfold ascL at ha
    simp at ha
    have hd' : ys.drop at_ = Wr.numL a.toNat ++ (uL u ++ rest) := by rw [hd]; simp [uL]
    rcases rdV_cut (lo := last + 1) (hi := 1099511627776) (z := a) (j := j) (by omega) (by omega) (by omega) (by omega) hd' hj with ⟨h1, h2⟩ | h2
    · rcases ih (last := a) (rest := rest) (at_ := at_ + (Wr.numL a.toNat).length) ha.2 (by omega) (drop_more hd') h1 with ⟨h3, h4⟩ | h4
      · refine .inl ⟨by simp [uL] at *; omega, ?_⟩
        simp only [List.length_cons, rdU, h2, h4]
        simp [uL]; omega
      · refine .inr ?_
        simp only [List.length_cons, rdU, h2]
        exact h4
    · refine .inr ?_
      simp only [List.length_cons, rdU, h2]
      exact rdU_11 _ _ _ _
theorem rdP_cut {q : Int} {f f0 : CF} {ys rest : List Int} {at_ j : Nat} (hv : vB q f = true) (h0 : q = 2 → f0.u = []) (hd : ys.drop at_ = wrB q f ++ rest) (hj : at_ ≤ j) :
    (at_ + (wrB q f).length ≤ j ∧ rdP (ys.take j) q f0 at_ 0 = (setF q f f0, at_ + (wrB q f).length, 0)) ∨ (rdP (ys.take j) q f0 at_ 0).2.2 = 11 := by
  by_cases hc : at_ + (wrB q f).length ≤ j
  · refine .inl ⟨hc, rdP_set (rest := rest.take (j - at_ - (wrB q f).length)) hv h0 ?_⟩
    rw [drop_cut, hd, List.take_append, List.take_of_length_le (by omega)]
  · refine .inr ?_
    unfold vB at hv
    unfold wrB at hd hc
    unfold rdP
    by_cases q0 : q = 0
    · simp only [q0, ↓reduceIte] at *
      simp at hv
      rcases rdV_cut (lo := 0) (hi := 3) (z := f.n) (by omega) (by omega) (by omega) (by omega) hd hj with ⟨h1, h2⟩ | h2
      · omega
      · rw [h2]
    by_cases q1 : q = 1
    · simp only [q1, ↓reduceIte] at *
      simp at hv hd hc ⊢
      rcases rdV_cut (lo := 1) (hi := 1099511627776) (z := f.n) (by omega) (by omega) (by omega) (by omega) hd hj with ⟨h1, h2⟩ | h2
      · omega
      · rw [h2]
    by_cases q2 : q = 2
    · simp only [q2, ↓reduceIte] at *
      simp at hv hd hc ⊢
      unfold idsB at hv
      simp at hv
      have hd' : ys.drop at_ = Wr.numL (f.u.length : Int).toNat ++ (uL f.u ++ rest) := by simpa using hd
      rcases rdV_cut (lo := 1) (hi := 64) (z := (f.u.length : Int)) (by omega) (by omega) (by omega) (by omega) hd' hj with ⟨h1, h2⟩ | h2
      · rw [h2]
        rcases rdU_cut (u := f.u) (last := 0) (rest := rest) hv.2 (by omega) (drop_more hd') h1 with ⟨h3, h4⟩ | h4
        · simp at h3; omega
        · simpa using h4
      · rw [h2]
        exact rdU_11 _ _ _ _
    by_cases q3 : q = 3
    · simp only [q3, ↓reduceIte] at *
      simp at hv hd hc ⊢
      rcases rdV_cut (lo := 0) (hi := 16383) (z := f.t) (by omega) (by omega) (by omega) (by omega) hd hj with ⟨h1, h2⟩ | h2
      · omega
      · rw [h2]
    by_cases q4 : q = 4
    · simp only [q4, ↓reduceIte] at *
      simp at hv hd hc ⊢
      rcases rdV_cut (lo := 1) (hi := 4) (z := f.w) (by omega) (by omega) (by omega) (by omega) hd hj with ⟨h1, h2⟩ | h2
      · rw [h2]
        rcases rdV_cut (lo := 1) (hi := 4) (z := f.h) (by omega) (by omega) (by omega) (by omega) (drop_more hd) h1 with ⟨h3, h4⟩ | h4
        · omega
        · rw [h4]
      · rw [h2]; simp [rdV_11]
    · simp only [q0, q1, q2, q3, q4, ↓reduceIte] at *
      simp at hv hd hc ⊢
      rcases rdV_cuti (lo := -1099511627776) (hi := 1099511627776) (z := f.x) (by omega) (by omega) (by omega) hd hj with ⟨h1, h2⟩ | h2
      · rw [h2]
        rcases rdV_cuti (lo := -1099511627776) (hi := 1099511627776) (z := f.y) (by omega) (by omega) (by omega) (drop_more hd) h1 with ⟨h3, h4⟩ | h4
        · omega
        · rw [h4]
      · rw [h2]; simp [rdV_11]
theorem par_cut {p s k : Int} {f : CF} {j : Nat} (h : okC p s k f = true) (hj : j < (bytesC p s k f).length) : (parC ((bytesC p s k f).take j)).2.2.2.2.2 = 11 := by
  obtain ⟨⟨hp1, hp2, hs1, hs2⟩, ⟨hk1, hk2⟩, hv⟩ := okC_parts h
  generalize hys : bytesC p s k f = ys at *
  have d0 : ys.drop 0 = Wr.numL k.toNat ++ (Wr.numL p.toNat ++ (Wr.numL s.toNat ++ (((partsL k).flatMap fun q => wrB q f) ++ []))) := by rw [← hys]; simp [bytesC]
  have hl : ys.length = 0 + (Wr.numL k.toNat).length + (Wr.numL p.toNat).length + (Wr.numL s.toNat).length + ((partsL k).flatMap fun q => wrB q f).length := by rw [← hys]; simp [bytesC]; omega
  clear hys h
  unfold parC
  rcases rdV_cut (lo := 1) (hi := 7) (z := k) (by omega) (by omega) (by omega) (by omega) d0 (Nat.zero_le j) with ⟨h1, e1⟩ | e1
  case inr => simp only [e1, rdV_11]; exact rdL_11 _ _ _ _
  have d1 := drop_more d0
  rcases rdV_cut (lo := 1) (hi := 8) (z := p) (by omega) (by omega) (by omega) (by omega) d1 h1 with ⟨h2, e2⟩ | e2
  case inr => simp only [e1, e2, rdV_11]; exact rdL_11 _ _ _ _
  have d2 := drop_more d1
  rcases rdV_cut (lo := 0) (hi := 1099511627776) (z := s) (by omega) (by omega) (by omega) (by omega) d2 h2 with ⟨h3, e3⟩ | e3
  case inr => simp only [e1, e2, e3]; exact rdL_11 _ _ _ _
  have d3 := drop_more d2
  simp only [e1, e2, e3]
  generalize 0 + (Wr.numL k.toNat).length + (Wr.numL p.toNat).length + (Wr.numL s.toNat).length = A at *
  clear d0 d1 d2 e1 e2 e3 h1 h2
  have two : ∀ q1 q2, partsL k = [q1, q2] → q2 ≠ 2 → (rdL (ys.take j) (partsL k) zeroF A 0).2.2 = 11 := by
    intro q1 q2 e h2
    rw [e] at d3 hv hl ⊢
    simp at d3 hv hl
    simp only [rdL]
    rcases rdP_cut (f0 := zeroF) hv.1 (fun _ => rfl) d3 h3 with ⟨g1, g2⟩ | g2
    · rw [g2]
      rcases rdP_cut (f0 := setF q1 f zeroF) (rest := []) hv.2 (fun e => absurd e h2) (by simpa using drop_more d3) g1 with ⟨g3, g4⟩ | g4
      · omega
      · exact g4
    · rw [g2]; exact rdP_11 _ _ _ _
  have one : ∀ q1, partsL k = [q1] → (rdL (ys.take j) (partsL k) zeroF A 0).2.2 = 11 := by
    intro q1 e
    rw [e] at d3 hv hl ⊢
    simp at d3 hv hl
    simp only [rdL]
    rcases rdP_cut (f0 := zeroF) (rest := []) hv (fun _ => rfl) (by simpa using d3) h3 with ⟨g1, g2⟩ | g2
    · omega
    · exact g2
  have hc : k = 1 ∨ k = 2 ∨ k = 3 ∨ k = 4 ∨ k = 5 ∨ k = 6 ∨ k = 7 := by omega
  rcases hc with rfl | rfl | rfl | rfl | rfl | rfl | rfl
  · exact two 0 5 rfl (by simp)
  · exact two 2 3 rfl (by simp)
  · exact one 2 rfl
  · exact two 3 4 rfl (by simp)
  · exact one 1 rfl
  · exact two 2 1 rfl (by simp)
  · exact two 1 3 rfl (by simp)
end Go.Proofs.Ytkffleclofkjmaa
