import Derived.Test.YtgmhalcofcokbaaQg
import Derived.Test.YtgmhalcofcokbaaQe
import Derived.Test.YtgmhalcofcokbaaQf
/- What a call that makes memory leaves as it was: a box, the result behind it, a variable behind that. -/
namespace Go.Proofs.Ytgmhalcofcokbaa
open Go.RowKit
set_option linter.unusedVariables false
structure C3 (w0 w : World) (p0 p1 r0 r1 s0 s1 : Value) : Prop where
  c0 : w.cell? ⟨w0.heap.size, 0, none⟩ = some p0
  c1 : w.cell? ⟨w0.heap.size, 1, none⟩ = some p1
  d0 : w.cell? ⟨w0.heap.size + 1, 0, none⟩ = some r0
  d1 : w.cell? ⟨w0.heap.size + 1, 1, none⟩ = some r1
  e0 : w.cell? ⟨w0.heap.size + 1 + 1, 0, none⟩ = some s0
  e1 : w.cell? ⟨w0.heap.size + 1 + 1, 1, none⟩ = some s1
  f0 : w.frozen? ⟨w0.heap.size + 1, 0, none⟩ = false
  f1 : w.frozen? ⟨w0.heap.size + 1, 1, none⟩ = false
  g0 : w.frozen? ⟨w0.heap.size + 1 + 1, 0, none⟩ = false
  g1 : w.frozen? ⟨w0.heap.size + 1 + 1, 1, none⟩ = false
  hs : w0.heap.size + 1 + 1 < w.heap.size
  hB : Below w0.heap.size w0 w
theorem C3.start (w : World) (p0 p1 r0 r1 s0 s1 : Value) (t t' t'' : TypeId) : C3 w (((w.alloc (.cells #[p0, p1] t)).alloc (.cells #[r0, r1] t')).alloc (.cells #[s0, s1] t'')) p0 p1 r0 r1 s0 s1 :=
  ⟨by go_simp, by go_simp, by go_simp, by go_simp, by go_simp, by go_simp, by go_simp, by go_simp, by go_simp, by go_simp, by simp, (((Below.refl _ _).alloc (Nat.le_refl _) _).alloc (by simp) _).alloc (by simp <;> omega) _⟩
section
variable {w0 w w' : World} {p0 p1 r0 r1 s0 s1 : Value}
theorem C3.next (h : C3 w0 w p0 p1 r0 r1 s0 s1) (hb : Below w.heap.size w w') : C3 w0 w' p0 p1 r0 r1 s0 s1 := by
  have hs := h.hs
  have a0 : w0.heap.size < w.heap.size := by omega
  have a1 : w0.heap.size + 1 < w.heap.size := by omega
  exact ⟨(hb.cell (p := ⟨w0.heap.size, 0, none⟩) a0).trans h.c0, (hb.cell (p := ⟨w0.heap.size, 1, none⟩) a0).trans h.c1,
   (hb.cell (p := ⟨w0.heap.size + 1, 0, none⟩) a1).trans h.d0, (hb.cell (p := ⟨w0.heap.size + 1, 1, none⟩) a1).trans h.d1,
   (hb.cell (p := ⟨w0.heap.size + 1 + 1, 0, none⟩) hs).trans h.e0, (hb.cell (p := ⟨w0.heap.size + 1 + 1, 1, none⟩) hs).trans h.e1,
   (hb.frozen (p := ⟨w0.heap.size + 1, 0, none⟩) a1).trans h.f0, (hb.frozen (p := ⟨w0.heap.size + 1, 1, none⟩) a1).trans h.f1,
   (hb.frozen (p := ⟨w0.heap.size + 1 + 1, 0, none⟩) hs).trans h.g0, (hb.frozen (p := ⟨w0.heap.size + 1 + 1, 1, none⟩) hs).trans h.g1, Nat.lt_of_lt_of_le hs hb.size, h.hB.trans (hb.mono h.hB.size)⟩
theorem C3.alloc (h : C3 w0 w p0 p1 r0 r1 s0 s1) (o : Obj) : C3 w0 (w.alloc o) p0 p1 r0 r1 s0 s1 := h.next ((Below.refl _ _).alloc (Nat.le_refl _) _)
theorem C3.drew (h : C3 w0 w p0 p1 r0 r1 s0 s1) : C3 w0 w.drew p0 p1 r0 r1 s0 s1 := ⟨h.c0, h.c1, h.d0, h.d1, h.e0, h.e1, h.f0, h.f1, h.g0, h.g1, h.hs, h.hB.drew⟩
theorem C3.set (h : C3 w0 w p0 p1 r0 r1 s0 s1) (X Y : Value) : C3 w0 ((w.setCell ⟨w0.heap.size + 1 + 1, 0, none⟩ X).setCell ⟨w0.heap.size + 1 + 1, 1, none⟩ Y) p0 p1 r0 r1 X Y := by
  have ot : ∀ (b o o' : Nat) (v : Value) (u : World), b ≠ w0.heap.size + 1 + 1 → (u.setCell ⟨w0.heap.size + 1 + 1, o, none⟩ v).cell? ⟨b, o', none⟩ = u.cell? ⟨b, o', none⟩ := fun b o o' v u hb => World.cell?_setCell_other _ _ _ _ (by simp <;> omega)
  refine ⟨?_, ?_, ?_, ?_, ?_, ?_, ?_, ?_, ?_, ?_, ?_, ?_⟩
  · rw [ot _ _ _ _ _ (by omega), ot _ _ _ _ _ (by omega)]; exact h.c0
  · rw [ot _ _ _ _ _ (by omega), ot _ _ _ _ _ (by omega)]; exact h.c1
  · rw [ot _ _ _ _ _ (by omega), ot _ _ _ _ _ (by omega)]; exact h.d0
  · rw [ot _ _ _ _ _ (by omega), ot _ _ _ _ _ (by omega)]; exact h.d1
  · rw [World.cell?_setCell_other _ _ _ _ (by simp)]; exact World.cell?_setCell_same _ _ _ (u := s0) h.e0
  · refine World.cell?_setCell_same _ _ _ (u := s1) ?_
    rw [World.cell?_setCell_other _ _ _ _ (by simp)]; exact h.e1
  · simpa using h.f0
  · simpa using h.f1
  · simpa using h.g0
  · simpa using h.g1
  · simpa using h.hs
  · exact (h.hB.setCell (by simp; omega) _).setCell (by simp; omega) _
end
theorem heldC3 {P : Program} {F : FuncId} {args : Array Value} {w w0 : World} {r : Ending} {p0 p1 r0 r1 s0 s1 : Value} (h : Calls P F args w fun e w' => e = r ∧ Below w.heap.size w w') (hk : Fx.Hd (C3 w0 w p0 p1 r0 r1 s0 s1)) :
    Calls P F args w fun e w' => e = r ∧ Fx.Hd (C3 w0 w' p0 p1 r0 r1 s0 s1) ∧ w'.cell? ⟨w0.heap.size, 0, none⟩ = some p0 ∧ w'.cell? ⟨w0.heap.size, 1, none⟩ = some p1 ∧ w'.cell? ⟨w0.heap.size + 1, 0, none⟩ = some r0 ∧ w'.cell? ⟨w0.heap.size + 1, 1, none⟩ = some r1 ∧
      w'.cell? ⟨w0.heap.size + 1 + 1, 0, none⟩ = some s0 ∧ w'.cell? ⟨w0.heap.size + 1 + 1, 1, none⟩ = some s1 ∧ w'.frozen? ⟨w0.heap.size + 1, 0, none⟩ = false ∧ w'.frozen? ⟨w0.heap.size + 1, 1, none⟩ = false ∧ w'.frozen? ⟨w0.heap.size + 1 + 1, 0, none⟩ = false ∧ w'.frozen? ⟨w0.heap.size + 1 + 1, 1, none⟩ = false :=
  h.mono fun e w' ⟨h1, h2⟩ => by
    have k := hk.out.next h2
    exact ⟨h1, ⟨k⟩, k.c0, k.c1, k.d0, k.d1, k.e0, k.e1, k.f0, k.f1, k.g0, k.g1⟩
end Go.Proofs.Ytgmhalcofcokbaa
/- The contracts of nearness and length at what VecSquares names. -/
namespace Go.Proofs.Ytgmhalcofcokbaa
open Go.RowKit
set_option linter.unusedVariables false
theorem within_as (a b c d r : Int) (g : Bool) (w : World) (ha : Fx.I64 a) (hb : Fx.I64 b) (hc : Fx.I64 c) (hd : Fx.I64 d) (hr : Fx.I64 r) (G : Fx.Hd (Fx.withinS a b c d r = g)) :
    Calls Try.prog 12 #[.agg #[.int .i64 a, .int .i64 b], .agg #[.int .i64 c, .int .i64 d], .int .i64 r] w fun e w' => e = .returned (.bool g) ∧ Below w.heap.size w w' := by
  obtain ⟨rfl⟩ := G
  exact within_any a b c d r w ha hb hc hd hr
theorem k_len1 (w : World) : Calls Try.prog 8 #[.agg #[.int .i64 (-3), .int .i64 (-4)]] w fun e w' => e = .returned (.int .i64 5) ∧ Below w.heap.size w w' := by
  have h := len_any (-3) (-4) w (by unfold Fx.I64; omega) (by unfold Fx.I64; omega)
  rw [Fx.len_three] at h
  exact h
theorem k_len2 (w : World) : Calls Try.prog 8 #[.agg #[.int .i64 9223372036854775807, .int .i64 9223372036854775807]] w fun e w' => e = .returned (.int .i64 9223372036854775807) ∧ Below w.heap.size w w' := by
  have h := len_any 9223372036854775807 9223372036854775807 w (by unfold Fx.I64; omega) (by unfold Fx.I64; omega)
  rw [Fx.len_most] at h
  exact h
end Go.Proofs.Ytgmhalcofcokbaa
/- The contracts of package vec at what VecTurns names. -/
namespace Go.Proofs.Ytgmhalcofcokbaa
open Go.RowKit
set_option linter.unusedVariables false
theorem t_add (X Y : Int) (w : World) (hX : Fx.Mid X) (hY : Fx.Mid Y) :
    Calls Try.prog 42 #[.agg #[.int .i64 X, .int .i64 Y], .agg #[.int .i64 (-X), .int .i64 (-Y)]] w fun e w' => e = .returned (.agg #[.int .i64 0, .int .i64 0]) ∧ Below w.heap.size w w' := by
  have h := vadd_any X Y (-X) (-Y) w hX.i64 hY.i64 hX.neg.i64 hY.neg.i64
  rw [Fx.add_neg_mid hX, Fx.add_neg_mid hY] at h
  exact h
theorem t_sub (X Y : Int) (w : World) (hX : Fx.Mid X) (hY : Fx.Mid Y) :
    Calls Try.prog 11 #[.agg #[.int .i64 X, .int .i64 Y], .agg #[.int .i64 X, .int .i64 Y]] w fun e w' => e = .returned (.agg #[.int .i64 0, .int .i64 0]) ∧ Below w.heap.size w w' := by
  have h := vsub_any X Y X Y w hX.i64 hY.i64 hX.i64 hY.i64
  rw [Fx.sub_self hX.i64, Fx.sub_self hY.i64] at h
  exact h
theorem t_lenneg (X Y : Int) (w : World) (hX : Fx.Mid X) (hY : Fx.Mid Y) :
    Calls Try.prog 8 #[.agg #[.int .i64 (-X), .int .i64 (-Y)]] w fun e w' => e = .returned (.int .i64 (Fx.lenS X Y)) ∧ Below w.heap.size w w' := by
  have h := len_any (-X) (-Y) w hX.neg.i64 hY.neg.i64
  rw [Fx.len_neg hX hY] at h
  exact h
theorem t_len (X Y : Int) (w : World) (hX : Fx.Mid X) (hY : Fx.Mid Y) :
    Calls Try.prog 8 #[.agg #[.int .i64 X, .int .i64 Y]] w fun e w' => e = .returned (.int .i64 (Fx.lenS X Y)) ∧ Below w.heap.size w w' := len_any X Y w hX.i64 hY.i64
theorem t_lenturn (X Y : Int) (w : World) (hX : Fx.Mid X) (hY : Fx.Mid Y) :
    Calls Try.prog 8 #[.agg #[.int .i64 Y, .int .i64 (-X)]] w fun e w' => e = .returned (.int .i64 (Fx.lenS X Y)) ∧ Below w.heap.size w w' := by
  have h := len_any Y (-X) w hY.i64 hX.neg.i64
  rw [Fx.len_turn hX] at h
  exact h
/-- A call that makes memory leaves two cells of one block as they were. -/
theorem held1 {P : Program} {F : FuncId} {args : Array Value} {w w0 : World} {r : Ending} {p : Nat} {x y : Value} (h : Calls P F args w fun e w' => e = r ∧ Below w.heap.size w w')
    (c0 : w.cell? ⟨p, 0, none⟩ = some x) (c1 : w.cell? ⟨p, 1, none⟩ = some y) (hB : Below w0.heap.size w0 w) :
    Calls P F args w fun e w' => e = r ∧ w'.cell? ⟨p, 0, none⟩ = some x ∧ w'.cell? ⟨p, 1, none⟩ = some y ∧ p < w'.heap.size ∧ Below w0.heap.size w0 w' :=
  h.mono fun e w' ⟨h1, h2⟩ => by
    have l1 := World.block_lt_of_cell? _ _ c0
    exact ⟨h1, (h2.cell (p := ⟨p, 0, none⟩) l1).trans c0, (h2.cell (p := ⟨p, 1, none⟩) l1).trans c1, Nat.lt_of_lt_of_le l1 h2.size, hB.trans (h2.mono hB.size)⟩
end Go.Proofs.Ytgmhalcofcokbaa
/- What VecShort's calls answer, with the answers as letters. -/
namespace Go.Proofs.Ytgmhalcofcokbaa
open Go.RowKit
set_option linter.unusedVariables false
theorem len_as (a b l : Int) (w : World) (ha : Fx.I64 a) (hb : Fx.I64 b) (E : Fx.Hd (Fx.lenS a b = l)) :
    Calls Try.prog 8 #[.agg #[.int .i64 a, .int .i64 b]] w fun e w' => e = .returned (.int .i64 l) ∧ Below w.heap.size w w' := by
  rw [← E.out]; exact len_any a b w ha hb
theorem clamp_as (a b k cx cy : Int) (w : World) (ha : Fx.I64 a) (hb : Fx.I64 b) (hk : Fx.I64 k) (EX : Fx.Hd (Fx.clampX a b k = cx)) (EY : Fx.Hd (Fx.clampY a b k = cy)) :
    Calls Try.prog 7 #[.agg #[.int .i64 a, .int .i64 b], .int .i64 k] w fun e w' => e = .returned (.agg #[.int .i64 cx, .int .i64 cy]) ∧ Below w.heap.size w w' := by
  rw [← EX.out, ← EY.out]; exact clamp_any a b k w ha hb hk
/-- What holds of a way and what became of it. -/
structure Fx.Sh (X Y m cx cy l lc : Int) : Prop where
  i1 : Fx.I64 X
  i2 : Fx.I64 Y
  i3 : Fx.I64 m
  i4 : Fx.I64 cx
  i5 : Fx.I64 cy
  ex : Fx.Hd (Fx.clampX X Y m = cx)
  ey : Fx.Hd (Fx.clampY X Y m = cy)
  el : Fx.Hd (Fx.lenS X Y = l)
  ec : Fx.Hd (Fx.lenS cx cy = lc)
  fx : Fx.Hd (Fx.clampX cx cy m = cx)
  fy : Fx.Hd (Fx.clampY cx cy m = cy)
  o1 : lc ≤ m
  o2 : lc ≤ l
  sx : cx < 0 → X < 0
  tx : 0 < cx → 0 < X
  sy : cy < 0 → Y < 0
  ty : 0 < cy → 0 < Y
theorem Fx.sh_of {X Y m : Int} (hX : Fx.Mid X) (hY : Fx.Mid Y) (hm : 0 ≤ m) (im : Fx.I64 m) : ∃ cx cy l lc, Fx.Sh X Y m cx cy l lc := by
  obtain ⟨h1, h2, h3, h4, h5, h6, h7, h8, h9, h10⟩ := Fx.short_all hX hY hm
  exact ⟨_, _, _, _, hX.i64, hY.i64, im, h1, h2, ⟨rfl⟩, ⟨rfl⟩, ⟨rfl⟩, ⟨rfl⟩, ⟨h9⟩, ⟨h10⟩, h3, h4, h5, h6, h7, h8⟩
end Go.Proofs.Ytgmhalcofcokbaa
/- Plain arithmetic of layer 19: what pushes away. -/
namespace Go.Proofs.Ytgmhalcofcokbaa.Fx
set_option linter.unusedVariables false
def aw0 (dx dy : Int) : Int := if dx = 0 ∧ dy = 0 then 65536 else dx
noncomputable def pstX (x y r s qx qy : Int) : Int := if withinS x y qx qy r = true then addS s (clampX (aw0 (subS x qx) (subS y qy)) (subS y qy) (r - lenS (subS x qx) (subS y qy))) else s
noncomputable def pstY (x y r s qx qy : Int) : Int := if withinS x y qx qy r = true then addS s (clampY (aw0 (subS x qx) (subS y qy)) (subS y qy) (r - lenS (subS x qx) (subS y qy))) else s
noncomputable def pushX (x y r : Int) (f g : Nat → Int) : Nat → Int
  | 0 => 0
  | k + 1 => pstX x y r (pushX x y r f g k) (f k) (g k)
noncomputable def pushY (x y r : Int) (f g : Nat → Int) : Nat → Int
  | 0 => 0
  | k + 1 => pstY x y r (pushY x y r f g k) (f k) (g k)
theorem pstX_i64 {x y r s qx qy : Int} (h : I64 s) : I64 (pstX x y r s qx qy) := by unfold pstX; split; exact add_i64 _ _; exact h
theorem pstY_i64 {x y r s qx qy : Int} (h : I64 s) : I64 (pstY x y r s qx qy) := by unfold pstY; split; exact add_i64 _ _; exact h
theorem pushX_i64 (x y r : Int) (f g : Nat → Int) (k : Nat) : I64 (pushX x y r f g k) := by
  induction k with
  | zero => unfold pushX I64; omega
  | succ k ih => exact pstX_i64 ih
theorem pushY_i64 (x y r : Int) (f g : Nat → Int) (k : Nat) : I64 (pushY x y r f g k) := by
  induction k with
  | zero => unfold pushY I64; omega
  | succ k ih => exact pstY_i64 ih
theorem pst_no {x y r qx qy : Int} (h : withinS x y qx qy r = false) (s t : Int) : pstX x y r s qx qy = s ∧ pstY x y r t qx qy = t := by
  unfold pstX pstY; rw [if_neg (by simp [h]), if_neg (by simp [h])]; exact ⟨rfl, rfl⟩
theorem pst_yes {x y r qx qy dx dy m L : Int} (h : withinS x y qx qy r = true) (ex : subS x qx = dx) (ey : subS y qy = dy) (el : lenS dx dy = L) (em : r - L = m) (s t ax : Int) (ea : aw0 dx dy = ax) : pstX x y r s qx qy = addS s (clampX ax dy m) ∧ pstY x y r t qx qy = addS t (clampY ax dy m) := by
  unfold pstX pstY; rw [if_pos h, if_pos h, ex, ey, el, em, ea]; exact ⟨rfl, rfl⟩
theorem clamp_i64 {a b k : Int} (ha : I64 a) (hb : I64 b) (hk : I64 k) : I64 (clampX a b k) ∧ I64 (clampY a b k) := by
  unfold clampX clampY
  have l := lenS_bd ha hb
  have m0 : 0 ≤ most0 k := by unfold most0; split <;> omega
  split
  · exact ⟨cnt_i64 ha, cnt_i64 hb⟩
  · exact ⟨part_i64 ha m0 (by omega), part_i64 hb m0 (by omega)⟩
theorem within_pos {x y qx qy r : Int} (h : withinS x y qx qy r = true) : 0 ≤ r := by
  unfold withinS at h; simp at h; exact h.1
end Go.Proofs.Ytgmhalcofcokbaa.Fx
/- Layer 19: what calls leave: a box, the result, a variable, and one pair more. -/
namespace Go.Proofs.Ytgmhalcofcokbaa
open Go.RowKit
set_option linter.unusedVariables false
theorem vsub_as (a b c d X Y : Int) (w : World) (ha : Fx.I64 a) (hb : Fx.I64 b) (hc : Fx.I64 c) (hd : Fx.I64 d) (EX : Fx.Hd (Fx.subS a c = X)) (EY : Fx.Hd (Fx.subS b d = Y)) :
    Calls Try.prog 11 #[.agg #[.int .i64 a, .int .i64 b], .agg #[.int .i64 c, .int .i64 d]] w fun e w' => e = .returned (.agg #[.int .i64 X, .int .i64 Y]) ∧ Below w.heap.size w w' := by
  obtain ⟨rfl⟩ := EX; obtain ⟨rfl⟩ := EY; exact vsub_any a b c d w ha hb hc hd
theorem rvsub_as (a b c d X Y : Int) (w : World) (ha : Fx.I64 a) (hb : Fx.I64 b) (hc : Fx.I64 c) (hd : Fx.I64 d) (EX : Fx.Hd (Fx.subS a c = X)) (EY : Fx.Hd (Fx.subS b d = Y)) :
    Calls Try.prog 27 #[.agg #[.int .i64 a, .int .i64 b], .agg #[.int .i64 c, .int .i64 d]] w fun e w' => e = .returned (.agg #[.int .i64 X, .int .i64 Y]) ∧ Below w.heap.size w w' := by
  obtain ⟨rfl⟩ := EX; obtain ⟨rfl⟩ := EY; exact rvsub_any a b c d w ha hb hc hd
theorem rlen_as (a b l : Int) (w : World) (ha : Fx.I64 a) (hb : Fx.I64 b) (E : Fx.Hd (Fx.lenS a b = l)) :
    Calls Try.prog 26 #[.agg #[.int .i64 a, .int .i64 b]] w fun e w' => e = .returned (.int .i64 l) ∧ Below w.heap.size w w' := by
  obtain ⟨rfl⟩ := E; exact rlen_any a b w ha hb
theorem rwithin_as (a b c d r : Int) (g : Bool) (w : World) (ha : Fx.I64 a) (hb : Fx.I64 b) (hc : Fx.I64 c) (hd : Fx.I64 d) (hr : Fx.I64 r) (G : Fx.Hd (Fx.withinS a b c d r = g)) :
    Calls Try.prog 30 #[.agg #[.int .i64 a, .int .i64 b], .agg #[.int .i64 c, .int .i64 d], .int .i64 r] w fun e w' => e = .returned (.bool g) ∧ Below w.heap.size w w' := by
  obtain ⟨rfl⟩ := G; exact rwithin_any a b c d r w ha hb hc hd hr
section
variable {w0 w w' : World} {p0 p1 r0 r1 s0 s1 : Value}
theorem C3.other (h : C3 w0 w p0 p1 r0 r1 s0 s1) (b o : Nat) (X : Value) (hb : w0.heap.size + 1 + 1 < b) : C3 w0 (w.setCell ⟨b, o, none⟩ X) p0 p1 r0 r1 s0 s1 := by
  have ot : ∀ (b' o' : Nat), b' ≤ w0.heap.size + 1 + 1 → (w.setCell ⟨b, o, none⟩ X).cell? ⟨b', o', none⟩ = w.cell? ⟨b', o', none⟩ := fun b' o' hb' => World.cell?_setCell_other _ _ _ _ (by simp <;> omega)
  refine ⟨(ot _ _ (by omega)).trans h.c0, (ot _ _ (by omega)).trans h.c1, (ot _ _ (by omega)).trans h.d0, (ot _ _ (by omega)).trans h.d1, (ot _ _ (by omega)).trans h.e0, (ot _ _ (by omega)).trans h.e1, by simpa using h.f0, by simpa using h.f1, by simpa using h.g0, by simpa using h.g1, by simpa using h.hs, h.hB.setCell (by simp; omega) _⟩
end
theorem heldC3P {P : Program} {F : FuncId} {args : Array Value} {w w0 : World} {r : Ending} {p0 p1 r0 r1 s0 s1 u v : Value} {Q : Nat} (h : Calls P F args w fun e w' => e = r ∧ Below w.heap.size w w') (hk : Fx.Hd (C3 w0 w p0 p1 r0 r1 s0 s1))
    (q0 : w.cell? ⟨Q, 0, none⟩ = some u) (q1 : w.cell? ⟨Q, 1, none⟩ = some v) (z0 : w.frozen? ⟨Q, 0, none⟩ = false) (z1 : w.frozen? ⟨Q, 1, none⟩ = false) :
    Calls P F args w fun e w' => e = r ∧ Fx.Hd (C3 w0 w' p0 p1 r0 r1 s0 s1) ∧ w'.cell? ⟨w0.heap.size, 0, none⟩ = some p0 ∧ w'.cell? ⟨w0.heap.size, 1, none⟩ = some p1 ∧ w'.cell? ⟨w0.heap.size + 1, 0, none⟩ = some r0 ∧ w'.cell? ⟨w0.heap.size + 1, 1, none⟩ = some r1 ∧
      w'.cell? ⟨w0.heap.size + 1 + 1, 0, none⟩ = some s0 ∧ w'.cell? ⟨w0.heap.size + 1 + 1, 1, none⟩ = some s1 ∧ w'.frozen? ⟨w0.heap.size + 1, 0, none⟩ = false ∧ w'.frozen? ⟨w0.heap.size + 1, 1, none⟩ = false ∧ w'.frozen? ⟨w0.heap.size + 1 + 1, 0, none⟩ = false ∧ w'.frozen? ⟨w0.heap.size + 1 + 1, 1, none⟩ = false ∧
      w'.cell? ⟨Q, 0, none⟩ = some u ∧ w'.cell? ⟨Q, 1, none⟩ = some v ∧ w'.frozen? ⟨Q, 0, none⟩ = false ∧ w'.frozen? ⟨Q, 1, none⟩ = false :=
  h.mono fun e w' ⟨h1, h2⟩ => by
    have k := hk.out.next h2
    have l := World.block_lt_of_cell? _ _ q0
    exact ⟨h1, ⟨k⟩, k.c0, k.c1, k.d0, k.d1, k.e0, k.e1, k.f0, k.f1, k.g0, k.g1, (h2.cell (p := ⟨Q, 0, none⟩) l).trans q0, (h2.cell (p := ⟨Q, 1, none⟩) l).trans q1, (h2.frozen (p := ⟨Q, 0, none⟩) l).trans z0, (h2.frozen (p := ⟨Q, 1, none⟩) l).trans z1⟩
end Go.Proofs.Ytgmhalcofcokbaa
