import Derived.Deep.QuietTactic
import Derived.BigQuiet
import Derived.Deep.RegionWith
import Derived.Deep.RegionHeld3
import Derived.Deep.DeepCutAuto
import Derived.Deep.DeepFit
import Derived.Outline
import Derived.Test.YtdpblimhfmfbnaaZtc
import Derived.OwnWalk
import Derived.Test.YtdpblimhfmfbnaaZtb
import Derived.Test.YtdpblimhfmfbnaaZta
import Derived.IntWalk
import Derived.Below
import Derived.BigGuardPart
/- How much commands, inputs are. -/
namespace Go.Proofs.Ytdpblimhfmfbnaa
open Go.ChangeShapes Go.WideShapes Go.ChangeAt Go.RowKit Go.Deep
set_option linter.unusedVariables false
set_option linter.unusedSimpArgs false
theorem wr27 {x : Int} (h : -9223372036854775808 ≤ x) (h' : x ≤ 9223372036854775807) : IntKind.i64.wrap x = x := by rw [IntKind.wrap_i64]; omega
theorem nx_ms {i n : Nat} (h : i < n) : n - (intOf (.int .i64 ((i : Int) + 1))).toNat < n - (intOf (.int .i64 (i : Int))).toNat := by simp [intOf]; omega
theorem nx_ms' {i n : Nat} (h : i < n) : n - (intOf (.int .i64 ((i + 1 : Nat) : Int))).toNat < n - (intOf (.int .i64 (i : Int))).toNat := by simp [intOf]; omega
theorem all_getC {l : List Cv} {P : Cv → Prop} (h : ∀ j, j < l.length → P (l.getD j default)) : ∀ x, x ∈ l → P x := fun x hx => by
  obtain ⟨j, hj, rfl⟩ := List.mem_iff_getElem.1 hx
  have := h j hj
  simpa [List.getD, hj] using this
theorem all_getI {l : List Iv} {P : Iv → Prop} (h : ∀ j, j < l.length → P (l.getD j default)) : ∀ x, x ∈ l → P x := fun x hx => by
  obtain ⟨j, hj, rfl⟩ := List.mem_iff_getElem.1 hx
  have := h j hj
  simpa [List.getD, hj] using this
theorem getD_memC {l : List Cv} {k : Nat} (h : k < l.length) : l.getD k default ∈ l := by simp [List.getD, h]
theorem getD_memI {l : List Iv} {k : Nat} (h : k < l.length) : l.getD k default ∈ l := by simp [List.getD, h]
/-- The same world. -/
def WSe (a b : World) : Prop := a = b
theorem lt20_no {r : Nat} (h : ¬ r < 1048576) : decide ((r : Int) < 1048576) = false := by
  rw [decide_eq_false_iff_not]
  omega
theorem lt20_yes {r : Nat} (h : r < 1048576) : decide ((r : Int) < 1048576) = true := by
  rw [decide_eq_true_iff]
  omega
/-- No command of these has more units. -/
def mxC (r : Nat) (l : List Cv) : Prop := l.length ≤ r ∧ ∀ x, x ∈ l → x.m ≤ r
structure CwR (r : Nat) (l : List Cv) : Prop where
  le : r ≤ 17592187092992
  mx : r < 1048576 → mxC r l
def mxI (r : Nat) (l : List Iv) : Prop := l.length ≤ r ∧ ∀ i, i ∈ l → mxC r i.l
theorem mxC.mono {r r' : Nat} {l : List Cv} (h : mxC r l) (hr : r ≤ r') : mxC r' l := ⟨Nat.le_trans h.1 hr, fun x hx => Nat.le_trans (h.2 x hx) hr⟩
/-- Bounds that memory sets. -/
structure BdI (l : List Iv) : Prop where
  n : ∀ i, i ∈ l → i.n ≤ 17592186044416
  m : ∀ i, i ∈ l → ∀ x, x ∈ i.l → x.m ≤ 17592186044416
structure IwR (r : Nat) (l : List Iv) : Prop where
  le : r ≤ 17592188141568
  mx : r < 1048576 → mxI r l
end Go.Proofs.Ytdpblimhfmfbnaa
/- A block that holds an array: what its cells are, whole. -/
namespace Go.Proofs.Ytdpblimhfmfbnaa
open Go.RowKit
set_option linter.unusedVariables false
/-- Block g is n cells of type T; cell k holds f k. -/
structure Arr (w : World) (g n : Nat) (T : TypeId) (f : Nat → Value) : Prop where
  ex : ∃ cur : Array Value, w.heap[g]? = some (.cells cur T (0, 0)) ∧ cur.size = n ∧ ∀ k, k < n → cur[k]? = some (f k)
theorem Arr.lt {w : World} {g n : Nat} {T : TypeId} {f : Nat → Value} (h : Arr w g n T f) : g < w.heap.size := by
  obtain ⟨cur, e, _⟩ := h.ex
  exact (Array.getElem?_eq_some_iff.1 e).1
theorem Arr.cell {w : World} {g n : Nat} {T : TypeId} {f : Nat → Value} (h : Arr w g n T f) {k : Nat} (hk : k < n) : w.cell? ⟨g, k, none⟩ = some (f k) := by
  obtain ⟨cur, e, hs, hc⟩ := h.ex
  simp [World.cell?, e, hc k hk]
theorem Arr.frozen {w : World} {g n : Nat} {T : TypeId} {f : Nat → Value} (h : Arr w g n T f) (k : Nat) : w.frozen? ⟨g, k, none⟩ = false := by
  obtain ⟨cur, e, hs, hc⟩ := h.ex
  simp [World.frozen?, e]
theorem Arr.of_block {w w' : World} {g n : Nat} {T : TypeId} {f : Nat → Value} (h : Arr w g n T f) (e : w'.heap[g]? = w.heap[g]?) : Arr w' g n T f := by
  obtain ⟨cur, e', hs, hc⟩ := h.ex
  exact ⟨cur, by rw [e]; exact e', hs, hc⟩
theorem Arr.below {w w' : World} {B g n : Nat} {T : TypeId} {f : Nat → Value} (h : Arr w g n T f) (k : Below B w w') (hg : g < B) : Arr w' g n T f := h.of_block (k.block g hg)
theorem Arr.later {w w' : World} {g n : Nat} {T : TypeId} {f : Nat → Value} (h : Arr w g n T f) (k : Below w.heap.size w w') : Arr w' g n T f := h.below k h.lt
theorem Arr.fr {M : Nat → Prop} {w w' : World} {g n : Nat} {T : TypeId} {f : Nat → Value} (h : Arr w g n T f) (k : Fr M w w') (hm : ¬ M g) : Arr w' g n T f := h.of_block (k.block g h.lt hm)
theorem Arr.drewN {w : World} {g n : Nat} {T : TypeId} {f : Nat → Value} (h : Arr w g n T f) (m : Nat) : Arr (w.drewN m) g n T f := h.of_block rfl
theorem Arr.drew {w : World} {g n : Nat} {T : TypeId} {f : Nat → Value} (h : Arr w g n T f) : Arr w.drew g n T f := h.of_block rfl
theorem Arr.alloc {w : World} {g n : Nat} {T : TypeId} {f : Nat → Value} (h : Arr w g n T f) (o : Obj) : Arr (w.alloc o) g n T f := h.later ((Below.refl _ _).alloc (Nat.le_refl _) o)
theorem Arr.congr {w : World} {g n : Nat} {T : TypeId} {f f' : Nat → Value} (h : Arr w g n T f) (e : ∀ k, k < n → f' k = f k) : Arr w g n T f' := by
  obtain ⟨cur, e', hs, hc⟩ := h.ex
  exact ⟨cur, e', hs, fun k hk => by rw [e k hk]; exact hc k hk⟩
theorem Arr.far {w : World} {g n : Nat} {T : TypeId} {f : Nat → Value} (h : Arr w g n T f) (p : Addr) (v : Value) (hp : g ≠ p.block) : Arr (w.setCell p v) g n T f :=
  h.of_block (Go.heap_setCell_other _ _ _ _ hp)
theorem Arr.set {w : World} {g n : Nat} {T : TypeId} {f : Nat → Value} (h : Arr w g n T f) {k : Nat} (hk : k < n) (v : Value) : Arr (w.setCell ⟨g, k, none⟩ v) g n T (fun j => if j = k then v else f j) := by
  obtain ⟨cur, e, hs, hc⟩ := h.ex
  have hg := (Array.getElem?_eq_some_iff.1 e).1
  refine ⟨cur.setIfInBounds k v, ?_, by simp [hs], fun j hj => ?_⟩
  · have hge : w.heap[g] = .cells cur T (0, 0) := by simpa [hg] using e
    simp [World.setCell, hg, Array.getElem_modify, hge]
  · by_cases ej : j = k
    · subst ej; simp [hs, hj]
    · rw [Array.getElem?_setIfInBounds_ne (Ne.symm ej), if_neg ej]; exact hc j hj
theorem Arr.new (w : World) (cs : Array Value) (T : TypeId) (f : Nat → Value) (n : Nat) (hs : cs.size = n) (h : ∀ k, k < n → cs[k]? = some (f k)) : Arr (w.alloc (.cells cs T)) w.heap.size n T f :=
  ⟨cs, Go.heap_alloc_new _ _, hs, h⟩
theorem Arr.rd {w : World} {g n B : Nat} {T : TypeId} {f : Nat → Value} (h : Arr w g n T f) (hg : g < B) : Rd w B (some ⟨g, 0, none⟩) n f :=
  fun _ => ⟨g, 0, rfl, hg, fun k hk => by rw [Nat.zero_add]; exact h.cell hk⟩
theorem Arr.own {w : World} {base g n : Nat} {T : TypeId} {xs : List Value} (h : w.ownsRow base T 1 (.slice (some ⟨g, 0, none⟩) n n) n xs) (f : Nat → Value) (e : ∀ k, k < n → xs[k]? = some (f k)) : Arr w g n T f := by
  rcases h.2 with ⟨hv, _⟩ | ⟨g', cap, cur, hv, hb, hg, h1, h2, h3, h4⟩
  · simp at hv
  · simp at hv
    obtain ⟨rfl, rfl⟩ := hv
    refine ⟨cur, hg, by omega, fun k hk => ?_⟩
    have := e k hk
    rw [← h4, List.getElem?_take, if_pos (by omega)] at this
    simpa using this
theorem made_at (z : Value) (n k : Nat) (hk : k < n) : ((madeCells #[z] (n * 1)).toList)[k]? = some z := by
  unfold madeCells
  simp [hk]
  rw [Nat.mod_one]; rfl
theorem Arr.made {w : World} {base g n : Nat} {T : TypeId} {z : Value} (h : w.ownsRow base T 1 (.slice (some ⟨g, 0, none⟩) n n) n (madeCells z.cells (n * 1)).toList) (hz : z.cells = #[z]) : Arr w g n T (fun _ => z) :=
  Arr.own h _ fun k hk => by rw [hz]; exact made_at z n k hk
theorem below_grown {w w' : World} (h : w.grownBy w' none) : Below w.heap.size w w' := (Below.refl _ _).grown h (Nat.le_refl _) (fun _ h => by cases h)
end Go.Proofs.Ytdpblimhfmfbnaa
/- Plain words of layer 6: grounds. -/
namespace Go.Proofs.Ytdpblimhfmfbnaa
/-- May this be a ground? -/
def gB (W H : Int) (n : Nat) (xs : List Int) : Bool := decide (1 ≤ W ∧ W ≤ 128 ∧ 1 ≤ H ∧ H ≤ 128 ∧ (n : Int) = W * H ∧ ∀ x ∈ xs, x ≤ 5)
def gE (W H : Int) (n : Nat) (xs : List Int) : Int := if gB W H n xs = true then 0 else 1
structure GOk (W H : Int) (n : Nat) (xs : List Int) : Prop where
  w1 : 1 ≤ W
  w2 : W ≤ 128
  h1 : 1 ≤ H
  h2 : H ≤ 128
  nn : (n : Int) = W * H
  ts : ∀ x ∈ xs, x ≤ 5
theorem gB_iff {W H : Int} {n : Nat} {xs : List Int} : gB W H n xs = true ↔ GOk W H n xs := by
  unfold gB
  rw [decide_eq_true_iff]
  exact ⟨fun ⟨a, b, c, d, e, f⟩ => ⟨a, b, c, d, e, f⟩, fun ⟨a, b, c, d, e, f⟩ => ⟨a, b, c, d, e, f⟩⟩
theorem gE_yes {W H : Int} {n : Nat} {xs : List Int} (h : GOk W H n xs) : gE W H n xs = 0 := by unfold gE; rw [if_pos (gB_iff.2 h)]
theorem gE_no {W H : Int} {n : Nat} {xs : List Int} (h : ¬ GOk W H n xs) : gE W H n xs = 1 := by unfold gE; rw [if_neg (fun g => h (gB_iff.1 g))]
theorem gB_yes {W H : Int} {n : Nat} {xs : List Int} (h : GOk W H n xs) : gB W H n xs = true := gB_iff.2 h
theorem gB_no {W H : Int} {n : Nat} {xs : List Int} (h : ¬ GOk W H n xs) : gB W H n xs = false := by
  cases e : gB W H n xs
  · rfl
  · exact absurd (gB_iff.1 e) h
theorem mul_bd {W H : Int} (w1 : 1 ≤ W) (w2 : W ≤ 128) (h1 : 1 ≤ H) (h2 : H ≤ 128) : 1 ≤ W * H ∧ W * H ≤ 16384 := by
  have a := Int.mul_le_mul w2 h2 (by omega) (by omega)
  have b := Int.mul_le_mul w1 h1 (by omega) (by omega)
  omega
/-- What stands of a ground before its tiles are looked at. -/
structure GHd (W H : Int) (n : Nat) : Prop where
  w1 : 1 ≤ W
  w2 : W ≤ 128
  h1 : 1 ≤ H
  h2 : H ≤ 128
  nn : (n : Int) = W * H
end Go.Proofs.Ytdpblimhfmfbnaa
/- Plain words of layer 8: buildings. -/
namespace Go.Proofs.Ytdpblimhfmfbnaa
open Go.RowKit
set_option linter.unusedVariables false
structure Bd where
  i : Int
  o : Int
  x : Int
  y : Int
  w : Int
  h : Int
instance : Inhabited Bd := ⟨⟨0, 0, 0, 0, 0, 0⟩⟩
def Bd.v (b : Bd) : Value := .agg #[.int .i64 b.i, .int .i64 b.o, .int .i64 b.x, .int .i64 b.y, .int .i64 b.w, .int .i64 b.h]
def Bd.c (b : Bd) : Nat → Int
  | 0 => b.i
  | 1 => b.o
  | 2 => b.x
  | 3 => b.y
  | 4 => b.w
  | _ => b.h
/-- An ID, an owner, sides that may be. -/
def fmB (b : Bd) : Bool := decide (1 ≤ b.i ∧ b.i ≤ 1099511627776 ∧ 1 ≤ b.o ∧ b.o ≤ 8 ∧ 1 ≤ b.w ∧ b.w ≤ 4 ∧ 1 ≤ b.h ∧ b.h ≤ 4)
structure FmOk (b : Bd) : Prop where
  i1 : 1 ≤ b.i
  i2 : b.i ≤ 1099511627776
  o1 : 1 ≤ b.o
  o2 : b.o ≤ 8
  w1 : 1 ≤ b.w
  w2 : b.w ≤ 4
  h1 : 1 ≤ b.h
  h2 : b.h ≤ 4
theorem fmB_iff {b : Bd} : fmB b = true ↔ FmOk b := by
  unfold fmB; rw [decide_eq_true_iff]
  exact ⟨fun ⟨a, b, c, d, e, f, g, h⟩ => ⟨a, b, c, d, e, f, g, h⟩, fun ⟨a, b, c, d, e, f, g, h⟩ => ⟨a, b, c, d, e, f, g, h⟩⟩
/-- All its tiles on the ground. -/
def inB (W H : Int) (b : Bd) : Bool := decide (0 ≤ b.x ∧ b.x ≤ W - b.w ∧ 0 ≤ b.y ∧ b.y ≤ H - b.h)
structure InOk (W H : Int) (b : Bd) : Prop where
  x1 : 0 ≤ b.x
  x2 : b.x ≤ W - b.w
  y1 : 0 ≤ b.y
  y2 : b.y ≤ H - b.h
theorem inB_iff {W H : Int} {b : Bd} : inB W H b = true ↔ InOk W H b := by
  unfold inB; rw [decide_eq_true_iff]
  exact ⟨fun ⟨a, b, c, d⟩ => ⟨a, b, c, d⟩, fun ⟨a, b, c, d⟩ => ⟨a, b, c, d⟩⟩
/-- A tile of it. -/
def hsB (W : Int) (b : Bd) (t : Int) : Bool := decide (b.x ≤ t % W ∧ t % W < b.x + b.w ∧ b.y ≤ t / W ∧ t / W < b.y + b.h)
theorem hsB_iff {W t : Int} {b : Bd} : hsB W b t = true ↔ (b.x ≤ t % W ∧ t % W < b.x + b.w ∧ b.y ≤ t / W ∧ t / W < b.y + b.h) := by unfold hsB; rw [decide_eq_true_iff]
/-- The k-th of its tiles. -/
def undAt (W : Int) (b : Bd) (k : Nat) : Int := b.x + ((k % b.w.toNat : Nat) : Int) + W * (b.y + ((k / b.w.toNat : Nat) : Int))
def undL (W : Int) (b : Bd) : List Int := (List.range (b.w.toNat * b.h.toNat)).map (undAt W b)
theorem undL_len (W : Int) (b : Bd) : (undL W b).length = b.w.toNat * b.h.toNat := by unfold undL; simp
theorem undL_getD (W : Int) (b : Bd) (k : Nat) (hk : k < b.w.toNat * b.h.toNat) : (undL W b).getD k 0 = undAt W b k := by unfold undL; simp [List.getD, hk]
theorem und_md {W H : Int} {b : Bd} (f : FmOk b) (i : InOk W H b) {k : Nat} (hk : k < b.w.toNat * b.h.toNat) :
    undAt W b k % W = b.x + ((k % b.w.toNat : Nat) : Int) ∧ undAt W b k / W = b.y + ((k / b.w.toNat : Nat) : Int) ∧ 0 ≤ undAt W b k ∧ undAt W b k < W * H ∧
    ((k % b.w.toNat : Nat) : Int) < b.w ∧ ((k / b.w.toNat : Nat) : Int) < b.h ∧ 0 ≤ ((k % b.w.toNat : Nat) : Int) ∧ 0 ≤ ((k / b.w.toNat : Nat) : Int) := by
  obtain ⟨_, _, _, _, w1, w2, h1, h2⟩ := f
  obtain ⟨x1, x2, y1, y2⟩ := i
  have m1 : k % b.w.toNat < b.w.toNat := Nat.mod_lt _ (by omega)
  have d1 : k / b.w.toNat < b.h.toNat := Nat.div_lt_of_lt_mul hk
  have e1 : ((k % b.w.toNat : Nat) : Int) < b.w := by omega
  have e2 : ((k / b.w.toNat : Nat) : Int) < b.h := by omega
  have a0 : 0 ≤ ((k % b.w.toNat : Nat) : Int) := Int.natCast_nonneg _
  have d0 : 0 ≤ ((k / b.w.toNat : Nat) : Int) := Int.natCast_nonneg _
  generalize hA : ((k % b.w.toNat : Nat) : Int) = A at *
  generalize hD : ((k / b.w.toNat : Nat) : Int) = D at *
  have em : (b.x + A + W * (b.y + D)) % W = b.x + A := by rw [Int.add_mul_emod_self_left]; exact Int.emod_eq_of_lt (by omega) (by omega)
  have ed : (b.x + A + W * (b.y + D)) / W = b.y + D := by rw [Int.add_mul_ediv_left _ _ (by omega), Int.ediv_eq_zero_of_lt (by omega) (by omega)]; omega
  have p0 : 0 ≤ W * (b.y + D) := Int.mul_nonneg (by omega) (by omega)
  have p1 : W * (b.y + D) ≤ W * (H - 1) := Int.mul_le_mul_of_nonneg_left (by omega) (by omega)
  have p2 : W * (H - 1) = W * H - W := by rw [Int.mul_sub, Int.mul_one]
  unfold undAt
  rw [hA, hD]
  exact ⟨em, ed, by omega, by omega, e1, e2, a0, d0⟩
theorem und_mem {W H : Int} {b : Bd} (f : FmOk b) (i : InOk W H b) {t : Int} (t0 : 0 ≤ t) : t ∈ undL W b ↔ hsB W b t = true := by
  rw [hsB_iff]
  constructor
  · intro h
    obtain ⟨k, hk, rfl⟩ := List.mem_map.1 h
    obtain ⟨h1, h2, _, _, h5, h6, h7, h8⟩ := und_md f i (List.mem_range.1 hk)
    omega
  · rintro ⟨h1, h2, h3, h4⟩
    have hw := f.w1
    have hh := f.h1
    obtain ⟨A, hA⟩ : ∃ A : Nat, t % W - b.x = A := ⟨(t % W - b.x).toNat, by omega⟩
    obtain ⟨D, hD⟩ : ∃ D : Nat, t / W - b.y = D := ⟨(t / W - b.y).toNat, by omega⟩
    have a1 : A < b.w.toNat := by omega
    have d1 : D < b.h.toNat := by omega
    have hk : b.w.toNat * D + A < b.w.toNat * b.h.toNat := by
      have := Nat.mul_le_mul_left b.w.toNat (show D + 1 ≤ b.h.toNat by omega)
      rw [Nat.mul_add, Nat.mul_one] at this
      omega
    refine List.mem_map.2 ⟨b.w.toNat * D + A, List.mem_range.2 hk, ?_⟩
    unfold undAt
    rw [Nat.mul_add_mod, Nat.mod_eq_of_lt a1, Nat.mul_add_div (by omega), Nat.div_eq_of_lt a1, Nat.add_zero]
    have := Int.emod_add_mul_ediv t W
    rw [← hA, ← hD, show b.x + (t % W - b.x) = t % W by omega, show b.y + (t / W - b.y) = t / W by omega]
    omega
theorem und_once {W H : Int} {b : Bd} (f : FmOk b) (i : InOk W H b) {k : Nat} (hk : k < b.w.toNat * b.h.toNat) : undAt W b k ∉ (undL W b).take k := by
  intro hm
  obtain ⟨j, hj, he⟩ := List.mem_iff_getElem.1 hm
  rw [List.length_take, undL_len] at hj
  rw [List.getElem_take] at he
  have hj' : j < b.w.toNat * b.h.toNat := by omega
  have he' : undAt W b j = undAt W b k := by rw [← he]; unfold undL; simp
  obtain ⟨a1, a2, _⟩ := und_md f i hk
  obtain ⟨c1, c2, _⟩ := und_md f i hj'
  rw [he'] at c1 c2
  have e1 : k % b.w.toNat = j % b.w.toNat := by omega
  have e2 : k / b.w.toNat = j / b.w.toNat := by omega
  have := Nat.mod_add_div k b.w.toNat
  have := Nat.mod_add_div j b.w.toNat
  rw [e1, e2] at *
  omega
/-- Plain tiles or roads alone under it. -/
def frB (W : Int) (xs : List Int) (b : Bd) : Bool := (undL W b).all fun t => decide (xs.getD t.toNat 0 ≤ 1)
/-- A tile of both. -/
def mtB (a b : Bd) : Bool := decide (a.x < b.x + b.w ∧ b.x < a.x + a.w ∧ a.y < b.y + b.h ∧ b.y < a.y + a.h)
theorem mtB_iff {a b : Bd} : mtB a b = true ↔ (a.x < b.x + b.w ∧ b.x < a.x + a.w ∧ a.y < b.y + b.h ∧ b.y < a.y + a.h) := by unfold mtB; rw [decide_eq_true_iff]
theorem mt_comm (a b : Bd) : mtB a b = mtB b a := by
  rw [Bool.eq_iff_iff, mtB_iff, mtB_iff]; omega
theorem mt_of {W t : Int} {a b : Bd} (ha : hsB W a t = true) (hb : hsB W b t = true) : mtB a b = true := by
  rw [hsB_iff] at ha hb; rw [mtB_iff]; omega
theorem mt_tile {W H : Int} {a b : Bd} (fa : FmOk a) (ia : InOk W H a) (fb : FmOk b) (ib : InOk W H b) (h : mtB a b = true) : ∃ k, k < b.w.toNat * b.h.toNat ∧ hsB W a (undAt W b k) = true := by
  rw [mtB_iff] at h
  obtain ⟨h1, h2, h3, h4⟩ := h
  have fa1 := fa.w1; have fa2 := fa.h1; have fb1 := fb.w1; have fb2 := fb.h1
  have ia1 := ia.x1; have ia2 := ia.x2; have ia3 := ia.y1; have ia4 := ia.y2
  have ib1 := ib.x1; have ib2 := ib.x2; have ib3 := ib.y1; have ib4 := ib.y2
  have hx : ∃ X, a.x ≤ X ∧ X < a.x + a.w ∧ b.x ≤ X ∧ X < b.x + b.w := ⟨max a.x b.x, by omega, by omega, by omega, by omega⟩
  have hy : ∃ Y, a.y ≤ Y ∧ Y < a.y + a.h ∧ b.y ≤ Y ∧ Y < b.y + b.h := ⟨max a.y b.y, by omega, by omega, by omega, by omega⟩
  obtain ⟨X, x1, x2, x3, x4⟩ := hx
  obtain ⟨Y, y1, y2, y3, y4⟩ := hy
  have em : (X + W * Y) % W = X := by rw [Int.add_mul_emod_self_left]; exact Int.emod_eq_of_lt (by omega) (by omega)
  have ed : (X + W * Y) / W = Y := by rw [Int.add_mul_ediv_left _ _ (by omega), Int.ediv_eq_zero_of_lt (by omega) (by omega)]; omega
  have t0 : 0 ≤ X + W * Y := by have := Int.mul_nonneg (show 0 ≤ W by omega) (show 0 ≤ Y by omega); omega
  have hb : hsB W b (X + W * Y) = true := hsB_iff.2 (by rw [em, ed]; omega)
  have ha : hsB W a (X + W * Y) = true := hsB_iff.2 (by rw [em, ed]; omega)
  obtain ⟨k, hk, e⟩ := List.mem_map.1 ((und_mem fb ib t0).2 hb)
  exact ⟨k, List.mem_range.1 hk, by rw [e]; exact ha⟩
/-- IDs rising. -/
def ascB (bs : List Bd) : Prop := ∀ k, k + 1 < bs.length → (bs.getD k default).i < (bs.getD (k + 1) default).i
/-- Does any of them cover the tile? -/
def cvB (W : Int) (bs : List Bd) (t : Int) : Bool := bs.any fun b => hsB W b t
/-- A ground and buildings on it that may be. -/
structure MOk (W H : Int) (n : Nat) (xs : List Int) (bs : List Bd) : Prop where
  g : GOk W H n xs
  len : bs.length ≤ 256
  asc : ascB bs
  fm : ∀ b ∈ bs, FmOk b
  ins : ∀ b ∈ bs, InOk W H b
  fr : ∀ b ∈ bs, frB W xs b = true
  ap : ∀ i j, j < i → i < bs.length → mtB (bs.getD i default) (bs.getD j default) = false
theorem getD_memB {bs : List Bd} {k : Nat} (h : k < bs.length) : bs.getD k default ∈ bs := by
  have : bs.getD k default = bs[k] := by simp [List.getD, List.getElem?_eq_getElem h]
  rw [this]; exact List.getElem_mem h
theorem mem_getDB {bs : List Bd} {b : Bd} (h : b ∈ bs) : ∃ k, k < bs.length ∧ bs.getD k default = b := by
  obtain ⟨k, hk, e⟩ := List.mem_iff_getElem.1 h
  exact ⟨k, hk, by rw [← e]; simp [List.getD, List.getElem?_eq_getElem hk]⟩
theorem take_succB {bs : List Bd} {k : Nat} (h : k < bs.length) : bs.take (k + 1) = bs.take k ++ [bs.getD k default] := by
  rw [List.take_succ_eq_append_getElem h]; simp [List.getD, List.getElem?_eq_getElem h]
theorem getD_takeB {bs : List Bd} {k j : Nat} (h : j < k) : (bs.take k).getD j default = bs.getD j default := by
  simp [List.getD, h]
theorem cvB_snoc (W : Int) (bs : List Bd) (b : Bd) (t : Int) : cvB W (bs ++ [b]) t = (cvB W bs t || hsB W b t) := by unfold cvB; simp
end Go.Proofs.Ytdpblimhfmfbnaa
/- The contracts of package ground: whether it may be; of the program and of the reference. -/
namespace Go.Proofs.Ytdpblimhfmfbnaa
open Go.RowKit
set_option linter.unusedVariables false
def I64' (x : Int) : Prop := -9223372036854775808 ≤ x ∧ x ≤ 9223372036854775807
theorem rbo {a b : Bool} (h : a = b) : Ending.returned (.bool a) = .returned (.bool b) := by rw [h]
end Go.Proofs.Ytdpblimhfmfbnaa
/- Layer 8: a building alone. -/
namespace Go.Proofs.Ytdpblimhfmfbnaa
open Go.RowKit
set_option linter.unusedVariables false
/-- An equation of two tests. -/
theorem beq_of {a b : Bool} (h : a = true ↔ b = true) : a = b := Bool.eq_iff_iff.2 h
end Go.Proofs.Ytdpblimhfmfbnaa
