/- What was written is read again: commands. -/
import Derived.Test.YtkffleclofkjmaaCmk
namespace Go.Proofs.Ytkffleclofkjmaa
set_option linter.unusedVariables false
theorem rdV_num {xs rest : List Int} {lo hi z : Int} {at_ : Nat} (h0 : 0 ≤ z) (h1 : lo ≤ z) (h2 : z ≤ hi) (hz : z ≤ 1099511627776) (hd : xs.drop at_ = Wr.numL z.toNat ++ rest) :
    rdV false xs lo hi at_ 0 = (z, at_ + (Wr.numL z.toNat).length, 0) := by
  unfold rdV
  rw [hd, Wr.getS_num (by omega)]
  unfold stpC
  have e : ((z.toNat : Nat) : Int) = z := by omega
  simp [e]
  omega
theorem rdV_int {xs rest : List Int} {lo hi z : Int} {at_ : Nat} (h1 : lo ≤ z) (h2 : z ≤ hi) (hz : -1099511627776 ≤ z ∧ z ≤ 1099511627776) (hd : xs.drop at_ = Wr.numL (Wr.zig z) ++ rest) :
    rdV true xs lo hi at_ 0 = (z, at_ + (Wr.numL (Wr.zig z)).length, 0) := by
  unfold rdV
  rw [hd, Wr.getS_num (by unfold Wr.zig; split <;> omega)]
  unfold stpC
  have e := Wr.unzig_zig z
  simp [e]
  omega
theorem drop_more {xs a rest : List Int} {at_ : Nat} (hd : xs.drop at_ = a ++ rest) : xs.drop (at_ + a.length) = rest := by
  rw [← List.drop_drop, hd, List.drop_left]
theorem rdU_num {xs : List Int} {u : List Int} : ∀ {last : Int} {rest : List Int} {at_ : Nat}, ascL last u = true → 0 ≤ last → xs.drop at_ = uL u ++ rest → rdU xs u.length last at_ 0 = (u, at_ + (uL u).length, 0) := by
  induction u with
  | nil => intro last rest at_ _ _ hd; simp [rdU, uL]
  | cons a u ih =>
    intro last rest at_ ha hl hd
    unfold ascL at ha
    simp at ha
    have hd' : xs.drop at_ = Wr.numL a.toNat ++ (uL u ++ rest) := by rw [hd]; simp [uL]
    have h1 := rdV_num (lo := last + 1) (hi := 1099511627776) (z := a) (by omega) (by omega) (by omega) (by omega) hd'
    have h2 := ih (last := a) (rest := rest) (at_ := at_ + (Wr.numL a.toNat).length) ha.2 (by omega) (drop_more hd')
    simp only [List.length_cons, rdU, h1, h2]
    simp [uL]; omega
def setF (q : Int) (f f0 : CF) : CF :=
  if q = 0 then { f0 with n := f.n } else if q = 1 then { f0 with n := f.n } else if q = 2 then { f0 with u := f.u } else if q = 3 then { f0 with t := f.t } else if q = 4 then { f0 with w := f.w, h := f.h } else { f0 with x := f.x, y := f.y }
theorem rdP_set {q : Int} {f f0 : CF} {xs rest : List Int} {at_ : Nat} (hv : vB q f = true) (h0 : q = 2 → f0.u = []) (hd : xs.drop at_ = wrB q f ++ rest) : rdP xs q f0 at_ 0 = (setF q f f0, at_ + (wrB q f).length, 0) := by
  unfold vB at hv
  unfold wrB at hd
  unfold rdP setF wrB
  by_cases q0 : q = 0
  · simp only [q0, ↓reduceIte] at *
    simp at hv
    rw [rdV_num (z := f.n) (by omega) (by omega) (by omega) (by omega) hd]
  by_cases q1 : q = 1
  · simp only [q1, ↓reduceIte] at *
    simp at hv hd ⊢
    rw [rdV_num (z := f.n) (by omega) (by omega) (by omega) (by omega) hd]
    simp
  by_cases q2 : q = 2
  · simp only [q2, ↓reduceIte] at *
    simp at hv hd ⊢
    unfold idsB at hv
    simp at hv
    have hd' : xs.drop at_ = Wr.numL (f.u.length : Int).toNat ++ (uL f.u ++ rest) := by simpa using hd
    have h1 := rdV_num (lo := 1) (hi := 64) (z := (f.u.length : Int)) (by omega) (by omega) (by omega) (by omega) hd'
    rw [h1]
    have h2 := rdU_num (u := f.u) (last := 0) (rest := rest) hv.2 (by omega) (drop_more hd')
    simp at h2 ⊢
    rw [h2]
    simp [h0]; omega
  by_cases q3 : q = 3
  · simp only [q3, ↓reduceIte] at *
    simp at hv hd ⊢
    rw [rdV_num (z := f.t) (by omega) (by omega) (by omega) (by omega) hd]
    simp
  by_cases q4 : q = 4
  · simp only [q4, ↓reduceIte] at *
    simp at hv hd ⊢
    have h1 := rdV_num (lo := 1) (hi := 4) (z := f.w) (by omega) (by omega) (by omega) (by omega) hd
    rw [h1]
    have h2 := rdV_num (lo := 1) (hi := 4) (z := f.h) (by omega) (by omega) (by omega) (by omega) (drop_more hd)
    rw [h2]
    simp; omega
  · simp only [q0, q1, q2, q3, q4, ↓reduceIte] at *
    simp at hv hd ⊢
    have h1 := rdV_int (lo := -1099511627776) (hi := 1099511627776) (z := f.x) (by omega) (by omega) (by omega) hd
    rw [h1]
    have h2 := rdV_int (lo := -1099511627776) (hi := 1099511627776) (z := f.y) (by omega) (by omega) (by omega) (drop_more hd)
    rw [h2]
    simp; omega
theorem par_back {p s k : Int} {f : CF} {ys : List Int} (h : okC p s k f = true) : parC (bytesC p s k f ++ ys) = (k, p, s, f, (bytesC p s k f).length, 0) := by
  obtain ⟨⟨hp1, hp2, hs1, hs2⟩, ⟨hk1, hk2⟩, hv⟩ := okC_parts h
  have hr := h
  rw [refC_eq] at hr
  generalize hxs : bytesC p s k f ++ ys = xs
  have d0 : xs.drop 0 = Wr.numL k.toNat ++ (Wr.numL p.toNat ++ (Wr.numL s.toNat ++ (((partsL k).flatMap fun q => wrB q f) ++ ys))) := by rw [← hxs]; simp [bytesC]
  have e1 := rdV_num (lo := 1) (hi := 7) (z := k) (by omega) (by omega) (by omega) (by omega) d0
  have d1 := drop_more d0
  have e2 := rdV_num (lo := 1) (hi := 8) (z := p) (by omega) (by omega) (by omega) (by omega) d1
  have d2 := drop_more d1
  have e3 := rdV_num (lo := 0) (hi := 1099511627776) (z := s) (by omega) (by omega) (by omega) (by omega) d2
  have d3 := drop_more d2
  unfold parC
  simp only [e1, e2, e3]
  have hl : (bytesC p s k f).length = 0 + (Wr.numL k.toNat).length + (Wr.numL p.toNat).length + (Wr.numL s.toNat).length + ((partsL k).flatMap fun q => wrB q f).length := by simp [bytesC]; omega
  rw [hl]
  generalize 0 + (Wr.numL k.toNat).length + (Wr.numL p.toNat).length + (Wr.numL s.toNat).length = A at *
  clear hl hxs d0 d1 d2 e1 e2 e3
  unfold refC at hr
  simp only [Bool.and_eq_true] at hr
  replace hr := hr.2
  have two : ∀ q1 q2, partsL k = [q1, q2] → (q1 ≠ 2 → q2 ≠ 2) → q2 ≠ 2 → rdL xs (partsL k) zeroF A 0 = (setF q2 f (setF q1 f zeroF), A + ((partsL k).flatMap fun q => wrB q f).length, 0) := by
    intro q1 q2 e _ h2
    rw [e] at d3 hv ⊢
    simp at d3 hv
    have f1 := rdP_set (f0 := zeroF) hv.1 (fun _ => rfl) d3
    have f2 := rdP_set (f0 := setF q1 f zeroF) hv.2 (fun e => absurd e h2) (drop_more d3)
    simp only [rdL, f1, f2]
    simp; omega
  have one : ∀ q1, partsL k = [q1] → rdL xs (partsL k) zeroF A 0 = (setF q1 f zeroF, A + ((partsL k).flatMap fun q => wrB q f).length, 0) := by
    intro q1 e
    rw [e] at d3 hv ⊢
    simp at d3 hv
    have f1 := rdP_set (f0 := zeroF) hv (fun _ => rfl) d3
    simp only [rdL, f1]
    simp
  have hc : k = 1 ∨ k = 2 ∨ k = 3 ∨ k = 4 ∨ k = 5 ∨ k = 6 ∨ k = 7 := by omega
  obtain ⟨n, u, t, w, h', x, y⟩ := f
  rcases hc with rfl | rfl | rfl | rfl | rfl | rfl | rfl
  · rw [two 0 5 rfl (by simp) (by simp)]; simp at hr ⊢; simp [setF, zeroF]; first | omega | grind
  · rw [two 2 3 rfl (by simp) (by simp)]; simp at hr ⊢; simp [setF, zeroF]; first | omega | grind
  · rw [one 2 rfl]; simp at hr ⊢; simp [setF, zeroF]; first | omega | grind
  · rw [two 3 4 rfl (by simp) (by simp)]; simp at hr ⊢; simp [setF, zeroF]; first | omega | grind
  · rw [one 1 rfl]; simp at hr ⊢; simp [setF, zeroF]; first | omega | grind
  · rw [two 2 1 rfl (by simp) (by simp)]; simp at hr ⊢; simp [setF, zeroF]; first | omega | grind
  · rw [two 1 3 rfl (by simp) (by simp)]; simp at hr ⊢; simp [setF, zeroF]; first | omega | grind
end Go.Proofs.Ytkffleclofkjmaa
