import Derived.Deep.QuietTactic
import Derived.BigQuiet
import Derived.Deep.RegionWith
import Derived.Deep.RegionHeld3
import Derived.Deep.DeepCutAuto
import Derived.Deep.DeepFit
import Derived.Outline
import Derived.Test.YthabjihpjdlmoaaDoorGkc
import Derived.Test.YthabjihpjdlmoaaDoorGkf
import Derived.Test.YthabjihpjdlmoaaDoorGka
import Derived.OwnWalk
/- Layer 13: the tables of costs, of ways and of sides together. -/
namespace Go.Proofs.YthabjihpjdlmoaaDoor
open Go.ChangeShapes Go.WideShapes Go.ChangeAt Go.RowKit
set_option linter.unusedVariables false
def sdL : List Int := [0, 1, 2, 1, 2, 3, 0, 3]
section
variable {H : Type} {enc : TypeId × Value → H} {w : World} {base : Nat} {sp : Nat → Bool} {held : Bool}
theorem side_is {fuel : Nat} {cs : List Value} {x : DataW H × List MemPlace} {n0 n1 : Int} (h : DataW.trod enc Tryd.prog w base sp held fuel 153 cs = some x)
    (hx : x.1 = .agg [.lit (.int .i64 n0), .lit (.int .i64 n1)]) :
    ∀ j, j < 2 → (cs.drop j).take 1 = [.int .i64 ([n0, n1].getD j 0)] := by
  have h3 : Tryd.prog.cellsOf 3 = 1 := by kernel_rfl
  obtain ⟨ys, n', _, e, _, hyl, hg⟩ := DataW.trod_array Tryd.underlying153 h
  match ys, hyl with
  | [y0, y1], _ =>
    rw [e] at hx
    simp at hx
    obtain ⟨e0, e1⟩ := hx
    simp only [h3, Nat.mul_one] at hg
    intro j hj
    have gj := hg j hj
    match j, hj, gj with
    | 0, _, gj => exact cst_int_is Tryd.underlying3 gj e0
    | 1, _, gj => exact cst_int_is Tryd.underlying3 gj e1
end
structure LS (w : World) : Prop where
  sides : ∀ i j, i < 4 → j < 2 → w.cell? ⟨0, i * 2 + j, none⟩ = some (.int .i64 (sdL.getD (i * 2 + j) 0))
  size : 0 < w.heap.size
theorem LS.below {B : Nat} {w w' : World} (h : LS w) (hb : Below B w w') (hB : w.heap.size ≤ B) : LS w' :=
  ⟨fun i j hi hj => (hb.cell (p := ⟨0, i * 2 + j, none⟩) (by have := h.size; show 0 < B; omega)).trans (h.sides i j hi hj), Nat.lt_of_lt_of_le h.size hb.size⟩
theorem LS.drewN {w : World} (h : LS w) (n : Nat) : LS (w.drewN n) := ⟨h.sides, h.size⟩
structure LF (w : World) : Prop where
  lc : LC w
  lt : LT w
  ls : LS w
theorem LF.below {B : Nat} {w w' : World} (h : LF w) (hb : Below B w w') (hB : w.heap.size ≤ B) : LF w' := ⟨h.lc.below hb hB, h.lt.below hb hB, h.ls.below hb hB⟩
theorem LF.drewN {w : World} (h : LF w) (n : Nat) : LF (w.drewN n) := ⟨h.lc.drewN n, h.lt.drewN n, h.ls.drewN n⟩
theorem gSides : Tryd.prog.globalNamed "throng/step.sides" = some 0 := by kernel_rfl
theorem tSides : (Tryd.prog.globals[0]?).map (·.type) = some 154 := by kernel_rfl
theorem of_laidF {W : World} (h : laidMetH Tryd.prog [("throng/kind.costs", Rows.laid_throng_kind_costs), ("throng/tiles.offsets", Rows.laid_throng_tiles_offsets), ("throng/step.sides", Rows.laid_throng_step_sides)] W) : LF W := by
  rw [MakeChecks.laidMetH_plain _ _ _ (by kernel_rfl)] at h
  obtain ⟨ps, ⟨g0, t0, cs0, f0, p0, q0, hg0, ht0, hv0, hd0, ⟨g1, t1, cs1, f1, p1, q1, hg1, ht1, hv1, hd1, ⟨g2, t2, cs2, f2, p2, q2, hg2, ht2, hv2, hd2, _, _⟩, _⟩, _⟩, _, _⟩ := h
  obtain rfl := Option.some.inj (gCosts.symm.trans hg0)
  obtain rfl := Option.some.inj (tCosts.symm.trans ht0)
  obtain rfl := Option.some.inj (gOffs.symm.trans hg1)
  obtain rfl := Option.some.inj (tOffs.symm.trans ht1)
  obtain rfl := Option.some.inj (gSides.symm.trans hg2)
  obtain rfl := Option.some.inj (tSides.symm.trans ht2)
  have c38 : Tryd.prog.cellsOf 115 = 6 := by kernel_rfl
  have c2 : Tryd.prog.cellsOf 180 = 2 := by kernel_rfl
  have c22 : Tryd.prog.cellsOf 153 = 2 := by kernel_rfl
  have C : ∀ i j, i < 3 → j < 6 → W.cell? ⟨1, i * 6 + j, none⟩ = some (.int .i64 (ctL.getD (i * 6 + j) 0)) := by
    obtain ⟨xs, m, _, e, _, hyl, hg⟩ := DataW.trod_array Tryd.underlying116 hd0
    simp only [Prod.mk.injEq, Rows.laid_throng_kind_costs, DataW.agg.injEq] at e
    match xs, hyl with
    | [y0, y1, y2], _ =>
      simp at e
      obtain ⟨⟨e0, e1, e2⟩, _⟩ := e
      simp only [c38] at hg
      intro i j hi hj
      have gi := hg i hi
      rw [World.var?_cell hg0 hv0 (i * 6 + j), ← Array.getElem?_toList]
      match i, hi, gi with
      | 0, _, gi => rw [cst_one_at hj (cst_row_is gi e0.symm j hj)]; match j, hj with | 0, _ => rfl | 1, _ => rfl | 2, _ => rfl | 3, _ => rfl | 4, _ => rfl | 5, _ => rfl
      | 1, _, gi => rw [cst_one_at hj (cst_row_is gi e1.symm j hj)]; match j, hj with | 0, _ => rfl | 1, _ => rfl | 2, _ => rfl | 3, _ => rfl | 4, _ => rfl | 5, _ => rfl
      | 2, _, gi => rw [cst_one_at hj (cst_row_is gi e2.symm j hj)]; match j, hj with | 0, _ => rfl | 1, _ => rfl | 2, _ => rfl | 3, _ => rfl | 4, _ => rfl | 5, _ => rfl
  have K : ∀ i j, i < 8 → j < 2 → W.cell? ⟨2, i * 2 + j, none⟩ = some (.int .i64 (oL.getD (i * 2 + j) 0)) := by
    obtain ⟨xs, m, _, e, _, hyl, hg⟩ := DataW.trod_array Tryd.underlying181 hd1
    simp only [Prod.mk.injEq, Rows.laid_throng_tiles_offsets, DataW.agg.injEq] at e
    match xs, hyl with
    | [y0, y1, y2, y3, y4, y5, y6, y7], _ =>
      simp at e
      obtain ⟨⟨e0, e1, e2, e3, e4, e5, e6, e7⟩, _⟩ := e
      simp only [c2] at hg
      intro i j hi hj
      have gi := hg i hi
      rw [World.var?_cell hg1 hv1 (i * 2 + j), ← Array.getElem?_toList]
      match i, hi, gi with
      | 0, _, gi => rw [one_atn hj (off_is gi e0.symm j hj)]; match j, hj with | 0, _ => rfl | 1, _ => rfl
      | 1, _, gi => rw [one_atn hj (off_is gi e1.symm j hj)]; match j, hj with | 0, _ => rfl | 1, _ => rfl
      | 2, _, gi => rw [one_atn hj (off_is gi e2.symm j hj)]; match j, hj with | 0, _ => rfl | 1, _ => rfl
      | 3, _, gi => rw [one_atn hj (off_is gi e3.symm j hj)]; match j, hj with | 0, _ => rfl | 1, _ => rfl
      | 4, _, gi => rw [one_atn hj (off_is gi e4.symm j hj)]; match j, hj with | 0, _ => rfl | 1, _ => rfl
      | 5, _, gi => rw [one_atn hj (off_is gi e5.symm j hj)]; match j, hj with | 0, _ => rfl | 1, _ => rfl
      | 6, _, gi => rw [one_atn hj (off_is gi e6.symm j hj)]; match j, hj with | 0, _ => rfl | 1, _ => rfl
      | 7, _, gi => rw [one_atn hj (off_is gi e7.symm j hj)]; match j, hj with | 0, _ => rfl | 1, _ => rfl
  have S : ∀ i j, i < 4 → j < 2 → W.cell? ⟨0, i * 2 + j, none⟩ = some (.int .i64 (sdL.getD (i * 2 + j) 0)) := by
    obtain ⟨xs, m, _, e, _, hyl, hg⟩ := DataW.trod_array Tryd.underlying154 hd2
    simp only [Prod.mk.injEq, Rows.laid_throng_step_sides, DataW.agg.injEq] at e
    match xs, hyl with
    | [y0, y1, y2, y3], _ =>
      simp at e
      obtain ⟨⟨e0, e1, e2, e3⟩, _⟩ := e
      simp only [c22] at hg
      intro i j hi hj
      have gi := hg i hi
      rw [World.var?_cell hg2 hv2 (i * 2 + j), ← Array.getElem?_toList]
      match i, hi, gi with
      | 0, _, gi => rw [cst_one_at hj (side_is gi e0.symm j hj)]; match j, hj with | 0, _ => rfl | 1, _ => rfl
      | 1, _, gi => rw [cst_one_at hj (side_is gi e1.symm j hj)]; match j, hj with | 0, _ => rfl | 1, _ => rfl
      | 2, _, gi => rw [cst_one_at hj (side_is gi e2.symm j hj)]; match j, hj with | 0, _ => rfl | 1, _ => rfl
      | 3, _, gi => rw [cst_one_at hj (side_is gi e3.symm j hj)]; match j, hj with | 0, _ => rfl | 1, _ => rfl
  exact ⟨⟨C, World.block_lt_of_cell? _ _ (C 0 0 (by omega) (by omega))⟩, ⟨K, World.block_lt_of_cell? _ _ (K 0 0 (by omega) (by omega))⟩, ⟨S, World.block_lt_of_cell? _ _ (S 0 0 (by omega) (by omega))⟩⟩
end Go.Proofs.YthabjihpjdlmoaaDoor
/- Worlds that differ in some blocks alone. -/
namespace Go.Proofs.YthabjihpjdlmoaaDoor
open Go.RowKit
set_option linter.unusedVariables false
/-- A block of bytes. -/
def U8 (w : World) (j : Nat) : Prop := ∃ cur fr, w.heap[j]? = some (.cells cur 5 fr)
theorem not_u8 (w : World) (cs : Array Value) (T : TypeId) (h : T ≠ 5) : ¬ U8 (w.alloc (.cells cs T)) w.heap.size := by
  rintro ⟨cur, fr, e⟩
  rw [Go.heap_alloc_new] at e
  injection e with e
  injection e with e1 e2
  exact h e2
theorem not_u8_of {w w' : World} {j : Nat} (h : ¬ U8 w j) (e : w'.heap[j]? = w.heap[j]?) : ¬ U8 w' j := fun ⟨cur, fr, x⟩ => h ⟨cur, fr, by rw [← e]; exact x⟩
/-- Old blocks but those of M are as they were. -/
structure Fr (M : Nat → Prop) (w w' : World) : Prop where
  os : w'.os = w.os
  tape : w'.tape = w.tape
  output : w'.output = w.output
  size : w.heap.size ≤ w'.heap.size
  block : ∀ k, k < w.heap.size → ¬ M k → w'.heap[k]? = w.heap[k]?
theorem Fr.refl (M : Nat → Prop) (w : World) : Fr M w w := ⟨rfl, rfl, rfl, Nat.le_refl _, fun _ _ _ => rfl⟩
theorem Fr.andThen {M N : Nat → Prop} {a b c : World} (h : Fr M a b) (k : Fr N b c) (hN : ∀ j, j < a.heap.size → N j → M j) : Fr M a c :=
  ⟨k.os.trans h.os, k.tape.trans h.tape, k.output.trans h.output, Nat.le_trans h.size k.size, fun j hj hm => (k.block j (Nat.lt_of_lt_of_le hj h.size) (fun n => hm (hN j hj n))).trans (h.block j hj hm)⟩
theorem Fr.trans {M : Nat → Prop} {a b c : World} (h : Fr M a b) (k : Fr M b c) : Fr M a c := h.andThen k fun _ _ x => x
theorem Fr.mono {M N : Nat → Prop} {a b : World} (h : Fr M a b) (hM : ∀ j, j < a.heap.size → M j → N j) : Fr N a b := (Fr.refl N a).andThen h hM
theorem Fr.of_below {B : Nat} {a b : World} (h : Below B a b) : Fr (fun k => B ≤ k) a b := ⟨h.os, h.tape, h.output, h.size, fun k _ hm => h.block k (by omega)⟩
theorem Fr.of_all {M : Nat → Prop} {a b : World} (h : Below a.heap.size a b) : Fr M a b := (Fr.of_below h).mono fun j hj h => by omega
theorem Fr.below {M : Nat → Prop} {B : Nat} {a b : World} (h : Fr M a b) (hB : B ≤ a.heap.size) (hM : ∀ j, j < a.heap.size → M j → B ≤ j) : Below B a b :=
  ⟨h.os, h.tape, h.output, h.size, fun k hk => h.block k (by omega) fun m => by have := hM k (by omega) m; omega⟩
theorem Fr.grown {M : Nat → Prop} {a b c : World} {row : Option Nat} (h : Fr M a b) (k : b.grownBy c row) (hM : ∀ j, j < a.heap.size → row = some j → M j) : Fr M a c :=
  h.andThen (N := fun j => row = some j) ⟨k.os, k.tape, k.output, k.size, fun j hj hm => k.block j hj fun e => hm e.symm⟩ hM
theorem Fr.setCell {M : Nat → Prop} {a b : World} (h : Fr M a b) {p : Addr} (hp : p.block < a.heap.size → M p.block) (u : Value) : Fr M a (b.setCell p u) :=
  h.andThen (N := fun j => j = p.block) ⟨rfl, rfl, rfl, by simp, fun j hj hm => Go.heap_setCell_other _ _ _ _ hm⟩ fun j hj e => by subst e; exact hp hj
theorem Fr.alloc {M : Nat → Prop} {a b : World} (h : Fr M a b) (o : Obj) : Fr M a (b.alloc o) :=
  h.andThen (Fr.of_all (M := M) ((Below.refl _ _).alloc (Nat.le_refl _) o)) fun _ _ x => x
theorem Fr.drewN {M : Nat → Prop} {a b : World} (h : Fr M a b) (n : Nat) : Fr M a (b.drewN n) := ⟨h.os, h.tape, h.output, h.size, h.block⟩
theorem Fr.drew {M : Nat → Prop} {a b : World} (h : Fr M a b) : Fr M a b.drew := ⟨h.os, h.tape, h.output, h.size, h.block⟩
theorem Fr.cell {M : Nat → Prop} {a b : World} (h : Fr M a b) {q o : Nat} (hq : q < a.heap.size) (hm : ¬ M q) : b.cell? ⟨q, o, none⟩ = a.cell? ⟨q, o, none⟩ := World.cell?_of_block (h.block q hq hm)
theorem Fr.frozen {M : Nat → Prop} {a b : World} (h : Fr M a b) {q o : Nat} (hq : q < a.heap.size) (hm : ¬ M q) : b.frozen? ⟨q, o, none⟩ = a.frozen? ⟨q, o, none⟩ := World.frozen?_of_block (h.block q hq hm)
theorem Fr.rd {M : Nat → Prop} {w w' : World} {B n : Nat} {a : Option Addr} {f : Nat → Value} (h : Rd w B a n f) (k : Fr M w w') (hB : B ≤ w.heap.size) (hm : ∀ b off, a = some ⟨b, off, none⟩ → b < w.heap.size → ¬ M b) : Rd w' B a n f := fun hn => by
  obtain ⟨b, off, e, hlt, hc⟩ := h hn
  exact ⟨b, off, e, hlt, fun j hj => (k.cell (by omega) (hm b off e (by omega))).trans (hc j hj)⟩
theorem Fr.by_ {M : Nat → Prop} {w w' : World} {B n : Nat} {a : Option Addr} {xs : List Int} (h : By w B a n xs) (k : Fr M w w') (hB : B ≤ w.heap.size) (hm : ∀ b off, a = some ⟨b, off, none⟩ → b < w.heap.size → ¬ M b) : By w' B a n xs := ⟨h.len, h.byt, k.rd h.rd hB hm⟩
theorem Fr.row {M : Nat → Prop} {w w' : World} {base size n : Nat} {e : TypeId} {v : Value} {xs : List Value} (h : w.ownsRow base e size v n xs) (k : Fr M w w') (hm : ∀ j, v.ownBlock = some j → ¬ M j) : w'.ownsRow base e size v n xs := by
  refine ⟨h.1, ?_⟩
  rcases h.2 with hn | ⟨g, cap, cur, rfl, hb, hgg, rest⟩
  · exact .inl hn
  · exact .inr ⟨g, cap, cur, rfl, hb, by rw [k.block g (Array.getElem?_eq_some_iff.1 hgg).1 (hm g rfl)]; exact hgg, rest⟩
theorem Fr.own {M : Nat → Prop} {w w' : World} {base n : Nat} {v : Value} {xs : List Int} (h : OwnB w base v n xs) (k : Fr M w w') (hm : ∀ j, v.ownBlock = some j → ¬ M j) : OwnB w' base v n xs := ⟨h.1, h.2.1, k.row h.2.2 hm⟩
end Go.Proofs.YthabjihpjdlmoaaDoor
/- A block that holds an array: what its cells are, whole. -/
namespace Go.Proofs.YthabjihpjdlmoaaDoor
open Go.RowKit
set_option linter.unusedVariables false
/-- Block g is n cells of type T; cell k holds f k. -/
structure Arr (w : World) (g n : Nat) (T : TypeId) (f : Nat → Value) : Prop where
  ex : ∃ cur : Array Value, w.heap[g]? = some (.cells cur T (0, 0)) ∧ cur.size = n ∧ ∀ k, k < n → cur[k]? = some (f k)
theorem Arr.lt {w : World} {g n : Nat} {T : TypeId} {f : Nat → Value} (h : Arr w g n T f) : g < w.heap.size := by
  obtain ⟨cur, e, _⟩ := h.ex
  exact (Array.getElem?_eq_some_iff.1 e).1
theorem Arr.cell {w : World} {g n : Nat} {T : TypeId} {f : Nat → Value} (h : Arr w g n T f) {k : Nat} (hk : k < n) : w.cell? ⟨g, k, none⟩ = some (f k) := by
  obtain ⟨cur, e, hs, hc⟩ := h.ex
  simp [World.cell?, e, hc k hk]
theorem Arr.frozen {w : World} {g n : Nat} {T : TypeId} {f : Nat → Value} (h : Arr w g n T f) (k : Nat) : w.frozen? ⟨g, k, none⟩ = false := by
  obtain ⟨cur, e, hs, hc⟩ := h.ex
  simp [World.frozen?, e]
theorem Arr.of_block {w w' : World} {g n : Nat} {T : TypeId} {f : Nat → Value} (h : Arr w g n T f) (e : w'.heap[g]? = w.heap[g]?) : Arr w' g n T f := by
  obtain ⟨cur, e', hs, hc⟩ := h.ex
  exact ⟨cur, by rw [e]; exact e', hs, hc⟩
theorem Arr.below {w w' : World} {B g n : Nat} {T : TypeId} {f : Nat → Value} (h : Arr w g n T f) (k : Below B w w') (hg : g < B) : Arr w' g n T f := h.of_block (k.block g hg)
theorem Arr.later {w w' : World} {g n : Nat} {T : TypeId} {f : Nat → Value} (h : Arr w g n T f) (k : Below w.heap.size w w') : Arr w' g n T f := h.below k h.lt
theorem Arr.fr {M : Nat → Prop} {w w' : World} {g n : Nat} {T : TypeId} {f : Nat → Value} (h : Arr w g n T f) (k : Fr M w w') (hm : ¬ M g) : Arr w' g n T f := h.of_block (k.block g h.lt hm)
theorem Arr.drewN {w : World} {g n : Nat} {T : TypeId} {f : Nat → Value} (h : Arr w g n T f) (m : Nat) : Arr (w.drewN m) g n T f := h.of_block rfl
theorem Arr.drew {w : World} {g n : Nat} {T : TypeId} {f : Nat → Value} (h : Arr w g n T f) : Arr w.drew g n T f := h.of_block rfl
theorem Arr.alloc {w : World} {g n : Nat} {T : TypeId} {f : Nat → Value} (h : Arr w g n T f) (o : Obj) : Arr (w.alloc o) g n T f := h.later ((Below.refl _ _).alloc (Nat.le_refl _) o)
theorem Arr.congr {w : World} {g n : Nat} {T : TypeId} {f f' : Nat → Value} (h : Arr w g n T f) (e : ∀ k, k < n → f' k = f k) : Arr w g n T f' := by
  obtain ⟨cur, e', hs, hc⟩ := h.ex
  exact ⟨cur, e', hs, fun k hk => by rw [e k hk]; exact hc k hk⟩
theorem Arr.far {w : World} {g n : Nat} {T : TypeId} {f : Nat → Value} (h : Arr w g n T f) (p : Addr) (v : Value) (hp : g ≠ p.block) : Arr (w.setCell p v) g n T f :=
  h.of_block (Go.heap_setCell_other _ _ _ _ hp)
theorem Arr.set {w : World} {g n : Nat} {T : TypeId} {f : Nat → Value} (h : Arr w g n T f) {k : Nat} (hk : k < n) (v : Value) : Arr (w.setCell ⟨g, k, none⟩ v) g n T (fun j => if j = k then v else f j) := by
  obtain ⟨cur, e, hs, hc⟩ := h.ex
  have hg := (Array.getElem?_eq_some_iff.1 e).1
  refine ⟨cur.setIfInBounds k v, ?_, by simp [hs], fun j hj => ?_⟩
  · have hge : w.heap[g] = .cells cur T (0, 0) := by simpa [hg] using e
    simp [World.setCell, hg, Array.getElem_modify, hge]
  · by_cases ej : j = k
    · subst ej; simp [hs, hj]
    · rw [Array.getElem?_setIfInBounds_ne (Ne.symm ej), if_neg ej]; exact hc j hj
theorem Arr.new (w : World) (cs : Array Value) (T : TypeId) (f : Nat → Value) (n : Nat) (hs : cs.size = n) (h : ∀ k, k < n → cs[k]? = some (f k)) : Arr (w.alloc (.cells cs T)) w.heap.size n T f :=
  ⟨cs, Go.heap_alloc_new _ _, hs, h⟩
theorem Arr.rd {w : World} {g n B : Nat} {T : TypeId} {f : Nat → Value} (h : Arr w g n T f) (hg : g < B) : Rd w B (some ⟨g, 0, none⟩) n f :=
  fun _ => ⟨g, 0, rfl, hg, fun k hk => by rw [Nat.zero_add]; exact h.cell hk⟩
theorem Arr.own {w : World} {base g n : Nat} {T : TypeId} {xs : List Value} (h : w.ownsRow base T 1 (.slice (some ⟨g, 0, none⟩) n n) n xs) (f : Nat → Value) (e : ∀ k, k < n → xs[k]? = some (f k)) : Arr w g n T f := by
  rcases h.2 with ⟨hv, _⟩ | ⟨g', cap, cur, hv, hb, hg, h1, h2, h3, h4⟩
  · simp at hv
  · simp at hv
    obtain ⟨rfl, rfl⟩ := hv
    refine ⟨cur, hg, by omega, fun k hk => ?_⟩
    have := e k hk
    rw [← h4, List.getElem?_take, if_pos (by omega)] at this
    simpa using this
theorem made_at (z : Value) (n k : Nat) (hk : k < n) : ((madeCells #[z] (n * 1)).toList)[k]? = some z := by
  unfold madeCells
  simp [hk]
  rw [Nat.mod_one]; rfl
theorem Arr.made {w : World} {base g n : Nat} {T : TypeId} {z : Value} (h : w.ownsRow base T 1 (.slice (some ⟨g, 0, none⟩) n n) n (madeCells z.cells (n * 1)).toList) (hz : z.cells = #[z]) : Arr w g n T (fun _ => z) :=
  Arr.own h _ fun k hk => by rw [hz]; exact made_at z n k hk
theorem below_grown {w w' : World} (h : w.grownBy w' none) : Below w.heap.size w w' := (Below.refl _ _).grown h (Nat.le_refl _) (fun _ h => by cases h)
end Go.Proofs.YthabjihpjdlmoaaDoor
