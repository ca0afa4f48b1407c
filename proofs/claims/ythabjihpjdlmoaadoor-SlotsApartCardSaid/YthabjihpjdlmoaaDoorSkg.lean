import Derived.ProofKit
import Derived.LaidMore
import Derived.OpenShut
import Derived.Stop.Joined
import Derived.WalkKit
import Derived.WalkLawsBesides
import Derived.WalkSpells
import Derived.Test.YthabjihpjdlmoaaDoorRows
import Derived.Test.YthabjihpjdlmoaaDoorChecked
import Derived.Test.YthabjihpjdlmoaaDoorSka
/- The table of costs, cell by cell (where it is the only one of package kind). -/
namespace Go.Proofs.YthabjihpjdlmoaaDoor
open Go.ChangeShapes Go.WideShapes Go.ChangeAt Go.RowKit
set_option linter.unusedVariables false
def ctL : List Int := [2, 1, 3, 5, 0, 0, 2, 1, 6, 0, 0, 0, 2, 1, 0, 3, 2, 0]
/-- What a class pays on a terrain. -/
def ctS (c t : Nat) : Int := ctL.getD (c * 6 + t) 0
theorem cst_one_at {cs : List Value} {a n j : Nat} {v : Value} (hj : j < n) (h : (((cs.drop a).take n).drop j).take 1 = [v]) : cs[a + j]? = some v := by
  have h1 := congrArg (fun l : List Value => l[0]?) h
  simp only [List.getElem?_take, List.getElem?_drop] at h1
  simpa [hj] using h1
section
variable {H : Type} {enc : TypeId × Value → H} {w : World} {base : Nat} {sp : Nat → Bool} {held : Bool}
theorem cst_int_is {t : TypeId} {fuel : Nat} {cs : List Value} {x : DataW H × List MemPlace} {z : Int} (ht : Tryd.prog.underlying t = some (.int .i64)) (h : DataW.trod enc Tryd.prog w base sp held fuel t cs = some x) (hx : x.1 = .lit (.int .i64 z)) : cs = [.int .i64 z] := by
  obtain ⟨n, rfl, e, _⟩ := DataW.trod_int ht h
  rw [e] at hx
  simp at hx
  rw [hx]
theorem cst_row_is {fuel : Nat} {cs : List Value} {x : DataW H × List MemPlace} {n0 n1 n2 n3 n4 n5 : Int} (h : DataW.trod enc Tryd.prog w base sp held fuel 115 cs = some x)
    (hx : x.1 = .agg [.lit (.int .i64 n0), .lit (.int .i64 n1), .lit (.int .i64 n2), .lit (.int .i64 n3), .lit (.int .i64 n4), .lit (.int .i64 n5)]) :
    ∀ j, j < 6 → (cs.drop j).take 1 = [.int .i64 ([n0, n1, n2, n3, n4, n5].getD j 0)] := by
  have h3 : Tryd.prog.cellsOf 3 = 1 := by kernel_rfl
  obtain ⟨ys, n', _, e, _, hyl, hg⟩ := DataW.trod_array Tryd.underlying115 h
  match ys, hyl with
  | [y0, y1, y2, y3, y4, y5], _ =>
    rw [e] at hx
    simp at hx
    obtain ⟨e0, e1, e2, e3, e4, e5⟩ := hx
    simp only [h3, Nat.mul_one] at hg
    intro j hj
    have gj := hg j hj
    match j, hj, gj with
    | 0, _, gj => exact cst_int_is Tryd.underlying3 gj e0
    | 1, _, gj => exact cst_int_is Tryd.underlying3 gj e1
    | 2, _, gj => exact cst_int_is Tryd.underlying3 gj e2
    | 3, _, gj => exact cst_int_is Tryd.underlying3 gj e3
    | 4, _, gj => exact cst_int_is Tryd.underlying3 gj e4
    | 5, _, gj => exact cst_int_is Tryd.underlying3 gj e5
end
structure LC (w : World) : Prop where
  costs : ∀ i j, i < 3 → j < 6 → w.cell? ⟨1, i * 6 + j, none⟩ = some (.int .i64 (ctL.getD (i * 6 + j) 0))
  size : 1 < w.heap.size
theorem LC.below {B : Nat} {w w' : World} (h : LC w) (hb : Below B w w') (hB : w.heap.size ≤ B) : LC w' :=
  ⟨fun i j hi hj => (hb.cell (p := ⟨1, i * 6 + j, none⟩) (by have := h.size; show 1 < B; omega)).trans (h.costs i j hi hj), Nat.lt_of_lt_of_le h.size hb.size⟩
theorem LC.drewN {w : World} (h : LC w) (n : Nat) : LC (w.drewN n) := ⟨h.costs, h.size⟩
theorem gCosts : Tryd.prog.globalNamed "throng/kind.costs" = some 1 := by kernel_rfl
theorem tCosts : (Tryd.prog.globals[1]?).map (·.type) = some 116 := by kernel_rfl
theorem of_laidC {W : World} (h : laidMetH Tryd.prog [("throng/kind.costs", Rows.laid_throng_kind_costs)] W) : LC W := by
  rw [MakeChecks.laidMetH_plain _ _ _ (by kernel_rfl)] at h
  obtain ⟨ps, ⟨g0, t0, cs0, f0, p0, q0, hg0, ht0, hv0, hd0, _, _⟩, _, _⟩ := h
  obtain rfl := Option.some.inj (gCosts.symm.trans hg0)
  obtain rfl := Option.some.inj (tCosts.symm.trans ht0)
  have c38 : Tryd.prog.cellsOf 115 = 6 := by kernel_rfl
  have C : ∀ i j, i < 3 → j < 6 → W.cell? ⟨1, i * 6 + j, none⟩ = some (.int .i64 (ctL.getD (i * 6 + j) 0)) := by
    obtain ⟨xs, m, _, e, _, hyl, hg⟩ := DataW.trod_array Tryd.underlying116 hd0
    simp only [Prod.mk.injEq, Rows.laid_throng_kind_costs, DataW.agg.injEq] at e
    match xs, hyl with
    | [y0, y1, y2], _ =>
      simp at e
      obtain ⟨⟨e0, e1, e2⟩, _⟩ := e
      simp only [c38] at hg
      intro i j hi hj
      have gi := hg i hi
      rw [World.var?_cell hg0 hv0 (i * 6 + j), ← Array.getElem?_toList]
      match i, hi, gi with
      | 0, _, gi => rw [cst_one_at hj (cst_row_is gi e0.symm j hj)]; match j, hj with | 0, _ => rfl | 1, _ => rfl | 2, _ => rfl | 3, _ => rfl | 4, _ => rfl | 5, _ => rfl
      | 1, _, gi => rw [cst_one_at hj (cst_row_is gi e1.symm j hj)]; match j, hj with | 0, _ => rfl | 1, _ => rfl | 2, _ => rfl | 3, _ => rfl | 4, _ => rfl | 5, _ => rfl
      | 2, _, gi => rw [cst_one_at hj (cst_row_is gi e2.symm j hj)]; match j, hj with | 0, _ => rfl | 1, _ => rfl | 2, _ => rfl | 3, _ => rfl | 4, _ => rfl | 5, _ => rfl
  exact ⟨C, World.block_lt_of_cell? _ _ (C 0 0 (by omega) (by omega))⟩
theorem ct_abs (c t : Nat) : 0 ≤ ctS c t ∧ ctS c t ≤ 6 := by
  unfold ctS
  by_cases h : c * 6 + t < 18
  · have q : ∀ k : Fin 18, 0 ≤ ctL.getD k.val 0 ∧ ctL.getD k.val 0 ≤ 6 := by decide
    exact q ⟨_, h⟩
  · have : ctL.getD (c * 6 + t) 0 = 0 := by unfold ctL; simp [List.getD]; rw [List.getElem?_eq_none (by simp; omega)]; rfl
    rw [this]; omega
theorem costC_any (c t : Nat) (w : World) (h : LC w) (hc : c < 3) (ht : t < 6) : Calls Tryd.prog 109 #[.int .i64 c, .int .u8 t] w fun e w' => e = .returned (.tuple #[.int .i64 (ctS c t), .int .i64 0]) ∧ w = w' := by
  have c0 : w.cell? ⟨1, c * 6 + t, none⟩ = some (.int .i64 (ctS c t)) := h.costs c t hc ht
  have j1 : (0 : Int) ≤ (c : Int) := by omega
  have j2 : (c : Int) < 3 := by omega
  have j3 : (0 : Int) ≤ (t : Int) := by omega
  have j4 : (t : Int) < 6 := by omega
  have d1 : decide ((c : Int) < 0) = false := by simp
  have d2 : decide ((2 : Int) < (c : Int)) = false := by simp; omega
  have d3 : decide ((5 : Int) < (t : Int)) = false := by simp; omega
  clear h hc ht
  generalize ctS c t = r at *
  go_enter Tryd.func109, Tryd.ntmps109
  go_wp2
  go_ret2
  exact ⟨rfl, rfl⟩
theorem costC_as (c t : Nat) (x y r : Int) (w : World) (h : LC w) (hc : c < 3) (ht : t < 6) (hx : Hk (x = c)) (hy : Hk (y = t)) (hr : Hk (ctS c t = r)) : Calls Tryd.prog 109 #[.int .i64 x, .int .u8 y] w fun e w' => e = .returned (.tuple #[.int .i64 r, .int .i64 0]) ∧ w = w' := by
  rw [hx.out, hy.out, ← hr.out]; exact costC_any c t w h hc ht
set_option maxHeartbeats 3200000 in
theorem rcostC_any (c t : Nat) (w : World) (hc : c < 3) (ht : t < 6) : Calls Tryd.prog 61 #[.int .i64 c, .int .u8 t] w fun e w' => e = .returned (.int .i64 (ctS c t)) ∧ Below w.heap.size w w' := by
  have hcc : c = 0 ∨ c = 1 ∨ c = 2 := by omega
  have htt : t = 0 ∨ t = 1 ∨ t = 2 ∨ t = 3 ∨ t = 4 ∨ t = 5 := by omega
  clear hc ht
  rcases hcc with rfl | rfl | rfl <;> rcases htt with rfl | rfl | rfl | rfl | rfl | rfl <;>
  · go_enter Tryd.func61, Tryd.ntmps61
    go_wp2
    refine bodyPost_ret (v := .int .i64 _) (by simp [results, Tryd.results61, go_sem]; try rfl) rfl ⟨rfl, ?_⟩
    first | exact Below.refl _ _ | exact (Below.refl _ _).alloc (Nat.le_refl _) _

theorem rcostC_as (c t : Nat) (x y r : Int) (w : World) (hc : c < 3) (ht : t < 6) (hx : Hk (x = c)) (hy : Hk (y = t)) (hr : Hk (ctS c t = r)) : Calls Tryd.prog 61 #[.int .i64 x, .int .u8 y] w fun e w' => e = .returned (.int .i64 r) ∧ Below w.heap.size w w' := by
  rw [hx.out, hy.out, ← hr.out]; exact rcostC_any c t w hc ht
theorem classC_as (r : Bool) (x : Int) (w : World) (E : Hk (decide (0 ≤ x ∧ x ≤ 2) = r)) : Calls Tryd.prog 65 #[.int .i64 x] w fun e w' => e = .returned (.bool r) ∧ w = w' := by
  have hE := E.out
  by_cases h0 : 0 ≤ x
  · by_cases h2 : x ≤ 2
    · have R : Hk (true = r) := ⟨by rw [← hE]; simp; omega⟩
      clear hE E
      go_enter Tryd.func65, Tryd.ntmps65
      go_wp2
      go_ret
      exact ⟨congrArg (fun b => Ending.returned (.bool b)) R.out, rfl⟩
    · have R : Hk (false = r) := ⟨by rw [← hE]; symm; simp; omega⟩
      clear hE E
      go_enter Tryd.func65, Tryd.ntmps65
      go_wp2
      go_ret
      exact ⟨congrArg (fun b => Ending.returned (.bool b)) R.out, rfl⟩
  · have R : Hk (false = r) := ⟨by rw [← hE]; symm; simp; omega⟩
    have h0' : x < 0 := by omega
    clear hE E
    go_enter Tryd.func65, Tryd.ntmps65
    go_wp2
    go_ret
    exact ⟨congrArg (fun b => Ending.returned (.bool b)) R.out, rfl⟩
end Go.Proofs.YthabjihpjdlmoaaDoor
