/- Plain arithmetic of layer 19: what pushes away. -/
import Derived.Test.YtmihmgjbecedaaaFn19b
namespace Go.Proofs.Ytmihmgjbecedaaa.Fx
def aw0 (dx dy : Int) : Int := if dx = 0 ∧ dy = 0 then 65536 else dx
noncomputable def pstX (x y r s qx qy : Int) : Int := if withinS x y qx qy r = true then addS s (clampX (aw0 (subS x qx) (subS y qy)) (subS y qy) (r - lenS (subS x qx) (subS y qy))) else s
noncomputable def pstY (x y r s qx qy : Int) : Int := if withinS x y qx qy r = true then addS s (clampY (aw0 (subS x qx) (subS y qy)) (subS y qy) (r - lenS (subS x qx) (subS y qy))) else s
noncomputable def pushX (x y r : Int) (f g : Nat → Int) : Nat → Int
  | 0 => 0
  | k + 1 => pstX x y r (pushX x y r f g k) (f k) (g k)
noncomputable def pushY (x y r : Int) (f g : Nat → Int) : Nat → Int
  | 0 => 0
  | k + 1 => pstY x y r (pushY x y r f g k) (f k) (g k)
theorem pstX_i64 {x y r s qx qy : Int} (h : I64 s) : I64 (pstX x y r s qx qy) := by unfold pstX; split; exact add_i64 _ _; exact h
theorem pstY_i64 {x y r s qx qy : Int} (h : I64 s) : I64 (pstY x y r s qx qy) := by unfold pstY; split; exact add_i64 _ _; exact h
theorem pushX_i64 (x y r : Int) (f g : Nat → Int) (k : Nat) : I64 (pushX x y r f g k) := by
  induction k with
  | zero => unfold pushX I64; omega
  | succ k ih => exact pstX_i64 ih
theorem pushY_i64 (x y r : Int) (f g : Nat → Int) (k : Nat) : I64 (pushY x y r f g k) := by
  induction k with
  | zero => unfold pushY I64; omega
  | succ k ih => exact pstY_i64 ih
theorem pst_no {x y r qx qy : Int} (h : withinS x y qx qy r = false) (s t : Int) : pstX x y r s qx qy = s ∧ pstY x y r t qx qy = t := by
  unfold pstX pstY; rw [if_neg (by simp [h]), if_neg (by simp [h])]; exact ⟨rfl, rfl⟩
theorem pst_yes {x y r qx qy dx dy m L : Int} (h : withinS x y qx qy r = true) (ex : subS x qx = dx) (ey : subS y qy = dy) (el : lenS dx dy = L) (em : r - L = m) (s t ax : Int) (ea : aw0 dx dy = ax) : pstX x y r s qx qy = addS s (clampX ax dy m) ∧ pstY x y r t qx qy = addS t (clampY ax dy m) := by
  unfold pstX pstY; rw [if_pos h, if_pos h, ex, ey, el, em, ea]; exact ⟨rfl, rfl⟩
theorem clamp_i64 {a b k : Int} (ha : I64 a) (hb : I64 b) (hk : I64 k) : I64 (clampX a b k) ∧ I64 (clampY a b k) := by
  unfold clampX clampY
  have l := lenS_bd ha hb
  have m0 : 0 ≤ most0 k := by unfold most0; split <;> omega
  split
  · exact ⟨cnt_i64 ha, cnt_i64 hb⟩
  · exact ⟨part_i64 ha m0 (by omega), part_i64 hb m0 (by omega)⟩
theorem within_pos {x y qx qy r : Int} (h : withinS x y qx qy r = true) : 0 ≤ r := by
  unfold withinS at h; simp at h; exact h.1
end Go.Proofs.Ytmihmgjbecedaaa.Fx
