/- Plain arithmetic of layer 19: who is there stays there. -/
import Derived.Test.YtmihmgjbecedaaaFn19c
import Derived.Test.YtmihmgjbecedaaaFp
namespace Go.Proofs.Ytmihmgjbecedaaa.Fx
def Tiny (d : Int) : Prop := -65536 < d ∧ d < 65536
def Small (p : Int) : Prop := -288230376151711744 ≤ p ∧ p ≤ 288230376151711743
theorem len00 : lenS 0 0 = 0 := by
  unfold lenS
  rw [rootS_of (R := 0) ⟨by decide, by decide, by decide⟩]
  decide
theorem len_one : lenS 65536 0 = 65536 := by
  unfold lenS
  rw [rootS_of (R := 65536) ⟨by decide, by decide, by decide⟩]
  decide
theorem most0_nn (k : Int) : 0 ≤ most0 k := by unfold most0; split <;> omega
theorem clamp00 (k : Int) : clampX 0 0 k = 0 ∧ clampY 0 0 k = 0 := by
  unfold clampX clampY
  simp only [len00, if_pos (most0_nn k)]
  decide
theorem tow_same {x y k : Int} (hx : I64 x) (hy : I64 y) : towX x y x y k = 0 ∧ towY x y x y k = 0 := by
  unfold towX towY
  rw [sub_self hx, sub_self hy]
  exact clamp00 k
theorem small_i64 {p : Int} (h : Small p) : I64 p := by unfold Small at h; unfold I64; omega
theorem sum_i64 {p d : Int} (h : Small p) (hd : Tiny d) : I64 (p + d) ∧ I64 (p - d) := by unfold Small at h; unfold Tiny at hd; unfold I64; omega
theorem sub_to {p d : Int} (h : Small p) (hd : Tiny d) : subS (p + d) p = d ∧ subS p (p + d) = -d ∧ subS p (p - d) = d := by
  unfold Small at h; unfold Tiny at hd
  unfold subS addS negS clampM cnt Most
  refine ⟨?_, ?_, ?_⟩ <;> (repeat' split) <;> omega
theorem part0 (c n : Int) : partS c 0 n = 0 := by
  unfold partS
  rw [Int.mul_zero, Int.zero_ediv]
  split <;> omega
theorem clamp_none {d e k : Int} (hd : Tiny d) (he : Tiny e) (hk : k ≤ 0) : clampX d e k = 0 ∧ clampY d e k = 0 := by
  unfold Tiny at hd he
  obtain ⟨a, b, c, f⟩ := small_ge (X := d) (Y := e) (by omega) (by omega)
  have m : most0 k = 0 := by unfold most0; split <;> omega
  unfold clampX clampY
  rw [m]
  by_cases h : lenS d e ≤ 0
  · rw [if_pos h, if_pos h, cnt_in (by omega), cnt_in (by omega)]; omega
  · rw [if_neg h, if_neg h, part0, part0]; exact ⟨rfl, rfl⟩
theorem tow_none {p q d e k : Int} (hp : Small p) (hq : Small q) (hd : Tiny d) (he : Tiny e) (hk : k ≤ 0) : towX p q (p + d) (q + e) k = 0 ∧ towY p q (p + d) (q + e) k = 0 := by
  unfold towX towY
  rw [(sub_to hp hd).1, (sub_to hq he).1]
  exact clamp_none hd he hk
theorem tiny_mid {d : Int} (h : Tiny d) : Mid d := by unfold Tiny at h; unfold Mid; omega
theorem sq_tiny {d e : Int} (hd : Tiny d) (he : Tiny e) : SQ d e < 262144 * 262144 := by
  unfold Tiny at hd he
  unfold SQ
  have a := sz_bd (i64_small (x := d) (n := 65536) hd (by omega))
  have b := sz_bd (i64_small (x := e) (n := 65536) he (by omega))
  have a1 : sz d ≤ 65536 := by unfold sz cnt Most; (repeat' split) <;> omega
  have b1 : sz e ≤ 65536 := by unfold sz cnt Most; (repeat' split) <;> omega
  have a2 := Int.mul_le_mul a1 a1 a.1 (by omega)
  have b2 := Int.mul_le_mul b1 b1 b.1 (by omega)
  omega
theorem within_tiny {p q d e : Int} (hp : Small p) (hq : Small q) (hd : Tiny d) (he : Tiny e) : withinS p q (p + d) (q + e) 262144 = true ∧ withinS p q (p - d) (q - e) 262144 = true := by
  have hd' : Tiny (-d) := by unfold Tiny at *; omega
  have he' : Tiny (-e) := by unfold Tiny at *; omega
  unfold withinS
  rw [(sub_to hp hd).2.1, (sub_to hq he).2.1, (sub_to hp hd).2.2, (sub_to hq he).2.2]
  exact ⟨by rw [decide_eq_true (show (0 : Int) ≤ 262144 by omega), decide_eq_true (sq_tiny hd' he')]; rfl, by rw [decide_eq_true (show (0 : Int) ≤ 262144 by omega), decide_eq_true (sq_tiny hd he)]; rfl⟩
theorem part_neg (c m n : Int) (h : Mid c) (h0 : sz 0 = 0) : partS (-c) m n = -partS c m n := by
  unfold partS
  rw [sz_neg h]
  by_cases a : c < 0
  · rw [if_neg (by omega), if_pos a]; omega
  · by_cases b : c = 0
    · subst b; rw [h0]; simp
    · rw [if_pos (by omega), if_neg a]
theorem clamp_neg {d e k : Int} (hd : Mid d) (he : Mid e) : clampX (-d) (-e) k = -clampX d e k ∧ clampY (-d) (-e) k = -clampY d e k := by
  unfold clampX clampY
  rw [len_neg hd he]
  split
  · rw [hd.neg.cnt, he.neg.cnt, hd.cnt, he.cnt]; exact ⟨rfl, rfl⟩
  · exact ⟨part_neg _ _ _ hd (by decide), part_neg _ _ _ he (by decide)⟩
theorem clamp_most {d e k : Int} (hd : I64 d) (he : I64 e) : (-9223372036854775807 ≤ clampX d e k ∧ clampX d e k ≤ 9223372036854775807) ∧ (-9223372036854775807 ≤ clampY d e k ∧ clampY d e k ≤ 9223372036854775807) := by
  unfold clampX clampY
  split
  · exact ⟨cnt_bd hd, cnt_bd he⟩
  · exact ⟨part_bd hd (most0_nn k) (by omega), part_bd he (most0_nn k) (by omega)⟩
theorem add_back {c : Int} (h : -9223372036854775807 ≤ c ∧ c ≤ 9223372036854775807) : addS (addS 0 (-c)) c = 0 := by
  unfold addS clampM cnt Most
  (repeat' split) <;> omega
/-- Two that stand alike on both sides. -/
theorem push_pair {p q d e : Int} (hp : Small p) (hq : Small q) (hd : Tiny d) (he : Tiny e) (hn : ¬ (d = 0 ∧ e = 0)) (f g : Nat → Int) (f0 : f 0 = p + d) (g0 : g 0 = q + e) (f1 : f 1 = p - d) (g1 : g 1 = q - e) : pushX p q 262144 f g 2 = 0 ∧ pushY p q 262144 f g 2 = 0 := by
  obtain ⟨w1, w2⟩ := within_tiny hp hq hd he
  have ln : lenS (-d) (-e) = lenS d e := len_neg (tiny_mid hd) (tiny_mid he)
  have a1 : aw0 (-d) (-e) = -d := by unfold aw0; rw [if_neg (by omega)]
  have a2 : aw0 d e = d := by unfold aw0; rw [if_neg hn]
  obtain ⟨cn1, cn2⟩ := clamp_neg (k := 262144 - lenS d e) (tiny_mid hd) (tiny_mid he)
  obtain ⟨b1, b2⟩ := clamp_most (k := 262144 - lenS d e) (tiny_mid hd).i64 (tiny_mid he).i64
  have e1 : pushX p q 262144 f g 1 = addS 0 (-clampX d e (262144 - lenS d e)) ∧ pushY p q 262144 f g 1 = addS 0 (-clampY d e (262144 - lenS d e)) := by
    have h := pst_yes (x := p) (y := q) (r := 262144) (qx := f 0) (qy := g 0) (by rw [f0, g0]; exact w1) (by rw [f0]; exact (sub_to hp hd).2.1) (by rw [g0]; exact (sub_to hq he).2.1) ln rfl 0 0 (-d) a1
    rw [cn1, cn2] at h
    exact h
  have e2 := pst_yes (x := p) (y := q) (r := 262144) (qx := f 1) (qy := g 1) (by rw [f1, g1]; exact w2) (by rw [f1]; exact (sub_to hp hd).2.2) (by rw [g1]; exact (sub_to hq he).2.2) rfl rfl (pushX p q 262144 f g 1) (pushY p q 262144 f g 1) d a2
  rw [e1.1, e1.2] at e2
  rw [add_back b1, add_back b2] at e2
  show pstX p q 262144 (pushX p q 262144 f g 1) (f 1) (g 1) = 0 ∧ pstY p q 262144 (pushY p q 262144 f g 1) (f 1) (g 1) = 0
  rw [e1.1, e1.2]
  exact e2
/-- One on the spot. -/
theorem push_spot {p q : Int} (hp : I64 p) (hq : I64 q) (f g : Nat → Int) (f0 : f 0 = p) (g0 : g 0 = q) : pushX p q 262144 f g 1 = 65536 ∧ pushY p q 262144 f g 1 = 0 := by
  have hw : withinS p q p q 262144 = true := by
    unfold withinS
    rw [sub_self hp, sub_self hq, SQ_zero]
    decide
  have h := pst_yes (x := p) (y := q) (r := 262144) (qx := f 0) (qy := g 0) (by rw [f0, g0]; exact hw) (by rw [f0]; exact sub_self hp) (by rw [g0]; exact sub_self hq) len00 rfl 0 0 65536 (by unfold aw0; rw [if_pos ⟨rfl, rfl⟩])
  have c : clampX 65536 0 (262144 - 0) = 65536 ∧ clampY 65536 0 (262144 - 0) = 0 := by
    unfold clampX clampY
    rw [len_one]
    decide
  rw [c.1, c.2] at h
  have z : addS 0 65536 = 65536 ∧ addS 0 0 = 0 := by decide
  rw [z.1, z.2] at h
  exact h
end Go.Proofs.Ytmihmgjbecedaaa.Fx
