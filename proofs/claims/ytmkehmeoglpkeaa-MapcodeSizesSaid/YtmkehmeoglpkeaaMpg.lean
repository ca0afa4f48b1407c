/- Layer 7: what was written is read: plain. -/
import Derived.Test.YtmkehmeoglpkeaaMpf
namespace Go.Proofs.Ytmkehmeoglpkeaa
open Go.RowKit
set_option linter.unusedVariables false
theorem byteS_hit {xs : List Int} {lo hi x : Int} {at_ : Nat} (hl : at_ < xs.length) (hx : xs.getD at_ 0 = x) (h1 : lo ≤ x) (h2 : x ≤ hi) : byteS xs lo hi at_ 0 = (x, at_ + 1, 0) := by
  unfold byteS; rw [if_neg (by omega), if_neg (by omega), hx, if_neg (by omega)]
theorem byteS_cut {xs : List Int} {lo hi : Int} {at_ : Nat} (hl : xs.length ≤ at_) : byteS xs lo hi at_ 0 = (0, at_, 11) := by
  unfold byteS; rw [if_neg (by omega), if_pos hl]
theorem byteS_bad {xs : List Int} {lo hi : Int} {at_ : Nat} (hl : at_ < xs.length) (h : xs.getD at_ 0 < lo ∨ hi < xs.getD at_ 0) : byteS xs lo hi at_ 0 = (0, at_, 1) := by
  unfold byteS; rw [if_neg (by omega), if_neg (by omega), if_pos h]
theorem byteS_err {xs : List Int} {lo hi e : Int} {at_ : Nat} (he : e ≠ 0) : byteS xs lo hi at_ e = (0, at_, e) := by unfold byteS; rw [if_pos he]
theorem getD_mid (pre post : List Int) (x : Int) : (pre ++ x :: post).getD pre.length 0 = x := by simp [List.getD]
theorem signS_hit (L : List Int) : ∀ pre post : List Int, signS (pre ++ (L ++ post)) L pre.length 0 = (pre.length + L.length, 0) := by
  induction L with
  | nil => intro pre post; simp [signS]
  | cons x l ih =>
    intro pre post
    have h1 : byteS (pre ++ (x :: l ++ post)) x x pre.length 0 = (x, pre.length + 1, 0) := byteS_hit (by simp) (by simp) (by omega) (by omega)
    have h2 := ih (pre ++ [x]) post
    have h3 : pre ++ [x] ++ (l ++ post) = pre ++ (x :: l ++ post) := by simp
    rw [h3] at h2
    show signS _ l (byteS _ x x pre.length 0).2.1 (byteS _ x x pre.length 0).2.2 = _
    rw [h1]
    simp only [List.length_append, List.length_cons, List.length_nil] at h2 ⊢
    rw [h2]
    congr 1; omega
theorem signS_err (xs L : List Int) (at_ : Nat) {e : Int} (he : e ≠ 0) : signS xs L at_ e = (at_, e) := by
  induction L with
  | nil => rfl
  | cons x l ih => show signS xs l (byteS xs x x at_ e).2.1 (byteS xs x x at_ e).2.2 = _; rw [byteS_err he]; exact ih
theorem rdV_err (sg : Bool) (xs : List Int) (lo hi : Int) (at_ : Nat) {e : Int} (he : e ≠ 0) : rdV sg xs lo hi at_ e = (0, at_, e) := by unfold rdV stpC; rw [if_pos he]
theorem rdV_hit {W : Int} (h1 : 1 ≤ W) (h2 : W ≤ 128) (pre post : List Int) : rdV false (pre ++ (Wr.numL W.toNat ++ post)) 1 128 pre.length 0 = (W, pre.length + (Wr.numL W.toNat).length, 0) := by
  unfold rdV
  rw [List.drop_left, Wr.getS_num (by omega)]
  unfold stpC
  simp only [Bool.false_eq_true, if_false]
  rw [if_neg (by omega), if_neg (by omega), if_neg (by omega)]
  simp; omega
theorem tileS_err (xs : List Int) (k at_ : Nat) {e : Int} (he : e ≠ 0) : (tileS xs k at_ e).2 = (at_, e) := by
  induction k with
  | zero => rfl
  | succ k ih => simp only [tileS, ih, byteS_err he]
theorem tileS_hit (ts pre post : List Int) (h : ∀ x ∈ ts, 0 ≤ x ∧ x ≤ 5) (k : Nat) (hk : k ≤ ts.length) : tileS (pre ++ (ts ++ post)) k pre.length 0 = (ts.take k, pre.length + k, 0) := by
  induction k with
  | zero => simp [tileS]
  | succ k ih =>
    have ih := ih (by omega)
    have hm := h _ (getD_mem (xs := ts) (k := k) (by omega))
    have hg : (pre ++ (ts ++ post)).getD (pre.length + k) 0 = ts.getD k 0 := by
      simp [List.getD, List.getElem?_append_right, List.getElem?_append_left (show k < ts.length by omega)]
    have h1 : byteS (pre ++ (ts ++ post)) 0 5 (pre.length + k) 0 = (ts.getD k 0, pre.length + k + 1, 0) := byteS_hit (by simp; omega) hg hm.1 hm.2
    simp only [tileS, ih, h1]
    rw [take_get (by omega)]
    rfl
theorem hashS_hit (pre post : List Int) : hashS (pre ++ (Mp.eight (Mp.hash pre) ++ post)) pre.length 0 = (pre.length + 8, 0) := by
  unfold hashS
  rw [if_neg (by omega), List.take_left, signS_hit, Mp.eight_len]
theorem mapS_back {W H : Int} {ts : List Int} (w1 : 1 ≤ W) (w2 : W ≤ 128) (h1 : 1 ≤ H) (h2 : H ≤ 128) (hl : (ts.length : Int) = W * H) (ht : ∀ x ∈ ts, 0 ≤ x ∧ x ≤ 5) (ys : List Int) :
    mapS (Mp.mapL W H ts ++ ys) = if ys = [] then (W, H, ts, 0) else (0, 0, [], 1) := by
  have e1 : Mp.mapL W H ts ++ ys = [] ++ ([84, 71] ++ (Wr.numL W.toNat ++ (Wr.numL H.toNat ++ (ts ++ (Mp.eight (Mp.hash (Mp.mapB W H ts)) ++ ys))))) := by
    unfold Mp.mapL; conv => lhs; unfold Mp.mapB
    simp [Mp.mapB]
  have s1 : signS (Mp.mapL W H ts ++ ys) [84, 71] 0 0 = (2, 0) := by rw [e1]; exact signS_hit [84, 71] [] _
  have s2 : rdV false (Mp.mapL W H ts ++ ys) 1 128 2 0 = (W, 2 + (Wr.numL W.toNat).length, 0) := by
    have := rdV_hit w1 w2 [84, 71] (Wr.numL H.toNat ++ (ts ++ (Mp.eight (Mp.hash (Mp.mapB W H ts)) ++ ys)))
    rw [e1]; simpa using this
  have s3 : rdV false (Mp.mapL W H ts ++ ys) 1 128 (2 + (Wr.numL W.toNat).length) 0 = (H, 2 + (Wr.numL W.toNat).length + (Wr.numL H.toNat).length, 0) := by
    have := rdV_hit h1 h2 ([84, 71] ++ Wr.numL W.toNat) (ts ++ (Mp.eight (Mp.hash (Mp.mapB W H ts)) ++ ys))
    rw [e1]
    have hh : ([84, 71] ++ Wr.numL W.toNat).length = 2 + (Wr.numL W.toNat).length := by simp; omega
    rw [hh] at this
    simpa using this
  have s4 : tileS (Mp.mapL W H ts ++ ys) (W * H).toNat (2 + (Wr.numL W.toNat).length + (Wr.numL H.toNat).length) 0 = (ts, (Mp.mapB W H ts).length, 0) := by
    have := tileS_hit ts ([84, 71] ++ Wr.numL W.toNat ++ Wr.numL H.toNat) (Mp.eight (Mp.hash (Mp.mapB W H ts)) ++ ys) ht ts.length (Nat.le_refl _)
    have hh : ([84, 71] ++ Wr.numL W.toNat ++ Wr.numL H.toNat).length = 2 + (Wr.numL W.toNat).length + (Wr.numL H.toNat).length := by simp; omega
    rw [hh] at this
    rw [e1, ← hl, mapB_len]
    simpa using this
  have s5 : hashS (Mp.mapL W H ts ++ ys) (Mp.mapB W H ts).length 0 = ((Mp.mapB W H ts).length + 8, 0) := by
    have := hashS_hit (Mp.mapB W H ts) ys
    unfold Mp.mapL
    simpa using this
  have hlen : (Mp.mapL W H ts ++ ys).length = (Mp.mapB W H ts).length + 8 + ys.length := by unfold Mp.mapL; simp [Mp.eight_len]; omega
  unfold mapS
  simp only [s1, s2, s3, s4, s5, endS, hlen]
  cases ys with
  | nil => simp
  | cons y l => simp
theorem mapL_one : Mp.mapL 1 1 [2] = [84, 71, 1, 1, 2] ++ Mp.eight (Mp.hash [84, 71, 1, 1, 2]) := by
  have h1 : Mp.mapB 1 1 [2] = [84, 71, 1, 1, 2] := by unfold Mp.mapB; simp [Wr.numL_low]
  unfold Mp.mapL; rw [h1]
end Go.Proofs.Ytmkehmeoglpkeaa
