import Derived.Deep.QuietTactic
import Derived.BigQuiet
import Derived.Deep.RegionWith
import Derived.Deep.RegionHeld3
import Derived.Deep.DeepCutAuto
import Derived.Deep.DeepFit
import Derived.Outline
import Derived.Test.YtdpblimhfmfbnaaGreatZvak
import Derived.Test.YtdpblimhfmfbnaaGreatZvad
import Derived.Test.YtdpblimhfmfbnaaGreatZvb
import Derived.SizedLaws
import Derived.Test.YtdpblimhfmfbnaaGreatZve
set_option linter.unusedVariables false
set_option linter.unusedSimpArgs false
namespace Go.Proofs.YtdpblimhfmfbnaaGreat
open Go.ChangeShapes Go.WideShapes Go.ChangeAt Go.RowKit Go.Deep
def RRd (w : World) (p : Pv) (e : Ending) (z : World) : Prop := ∃ a2 n2 c2 M, e = .returned (.tuple #[.slice a2 n2 c2, .bool true]) ∧ OwC z w.heap.size (.slice a2 n2 c2) n2 M ∧ abC M = flR (mergeN ((abI p.ll).filter (fun x => x.t == p.t))) ∧ Below w.heap.size w z
end Go.Proofs.YtdpblimhfmfbnaaGreat
namespace Go.Proofs.YtdpblimhfmfbnaaGreat
open Go.ChangeShapes Go.WideShapes Go.ChangeAt Go.RowKit Go.Deep
theorem vec22_of {H : Type} {enc : TypeId × Value → H} {w : World} {base : Nat} {spare : Nat → Bool} {held : Bool} {fuel : Nat} {x : DataW H × List MemPlace} {c0 c1 : Value}
  (hf : DataW.trod enc Tryz.prog w base spare held fuel 93 [c0, c1] = some x) : ∃ x y : Int, c0 = .int .i64 x ∧ c1 = .int .i64 y := by
 have h2 : Tryz.prog.cellsOf 2 = 1 := by kernel_rfl
 obtain ⟨ys, n', _, _, _, hyl, hg⟩ := DataW.trod_struct Tryz.underlying93 hf
 match ys, hyl with
 | [y0, y1], _ =>
  have g0 := hg 0 _ rfl
  have g1 := hg 1 _ rfl
  simp [h2] at g0 g1
  obtain ⟨x0, e0, _, w0⟩ := DataW.trod_int Tryz.underlying2 g0
  obtain ⟨x1, e1, _, w1⟩ := DataW.trod_int Tryz.underlying2 g1
  simp at e0 e1
  exact ⟨x0, x1, e0, e1⟩
def Asks22 (w : World) (a0 : Option Addr) (len cap : Nat) : Prop :=
 len ≤ cap ∧ cap ≤ 9223372036854775807 ∧ ∀ i, i < len → ∃ (b off : Nat) (p s k n : Int) (a : Option Addr) (m c : Nat) (u : List Int) (t wd h x y : Int) (ax : Option Addr) (nx cx : Nat) (ys : List Int), a0 = some ⟨b, off, none⟩ ∧ b < w.heap.size ∧ m ≤ 9223372036854775807 ∧ Nq w w.heap.size a m u ∧ (nx ≤ cx ∧ cx ≤ 9223372036854775807 ∧ (ax = none → cx = 0) ∧ By w w.heap.size ax nx ys) ∧
  w.cell? ⟨b, off + i * 11, none⟩ = some (.int .i64 p) ∧ w.cell? ⟨b, off + i * 11 + 1, none⟩ = some (.int .i64 s) ∧ w.cell? ⟨b, off + i * 11 + 2, none⟩ = some (.int .i64 k) ∧ w.cell? ⟨b, off + i * 11 + 3, none⟩ = some (.int .i64 n) ∧ w.cell? ⟨b, off + i * 11 + 4, none⟩ = some (.slice a m c) ∧ w.cell? ⟨b, off + i * 11 + 5, none⟩ = some (.int .i64 t) ∧ w.cell? ⟨b, off + i * 11 + 6, none⟩ = some (.int .i64 wd) ∧ w.cell? ⟨b, off + i * 11 + 7, none⟩ = some (.int .i64 h) ∧ w.cell? ⟨b, off + i * 11 + 8, none⟩ = some (.int .i64 x) ∧ w.cell? ⟨b, off + i * 11 + 9, none⟩ = some (.int .i64 y) ∧ w.cell? ⟨b, off + i * 11 + 10, none⟩ = some (.slice ax nx cx)
end Go.Proofs.YtdpblimhfmfbnaaGreat
namespace Go.Proofs.YtdpblimhfmfbnaaGreat
open Go.ChangeShapes Go.WideShapes Go.ChangeAt Go.RowKit Go.Deep
def Szd {H : Type} (t : TypeId) (d : DataW H) : Prop := ∀ n, n ∈ d.weights Tryz.prog t → n ≤ reachBytes
theorem weightsAll_in {H : Type} {P : Program} {e : TypeId} : ∀ {l : List (DataW H)} {d : DataW H}, d ∈ l → ∀ n ∈ d.weights P e, n ∈ DataW.weightsAll P e l
 | d' :: r, d, hd, n, hn => by
  simp only [DataW.weightsAll, List.mem_append]
  rcases List.mem_cons.1 hd with rfl | h
  ·exact Or.inl hn
  ·exact Or.inr (weightsAll_in h n hn)
theorem szd_slice {H : Type} {t e : TypeId} {elems spare : List (DataW H)} (h : Szd t (.slice elems spare)) (hu : Tryz.prog.underlying t = some (.slice e)) : (elems.length + spare.length) * Tryz.prog.bytesOf e ≤ reachBytes ∧ ∀ d, d ∈ elems → Szd e d := by
 have hw : (DataW.slice elems spare).weights Tryz.prog t = (elems.length + spare.length) * Tryz.prog.bytesOf e :: (DataW.weightsAll Tryz.prog e elems ++ DataW.weightsAll Tryz.prog e spare) := by simp only [DataW.weights, hu]
 unfold Szd at h
 rw [hw] at h
 exact ⟨h _ List.mem_cons_self, fun d hd n hn => h n (List.mem_cons_of_mem _ (List.mem_append_left _ (weightsAll_in hd n hn)))⟩
theorem szd_agg {H : Type} {t : TypeId} {fs : Array Field} {parts : List (DataW H)} (h : Szd t (.agg parts)) (hu : Tryz.prog.underlying t = some (.struct fs)) {i : Nat} {ty : TypeId} {d : DataW H} (hi : (fs.toList.map (·.type))[i]? = some ty) (hd : parts[i]? = some d) : Szd ty d := by
 have hw : (DataW.agg parts).weights Tryz.prog t = DataW.weightsEach Tryz.prog (fs.toList.map (·.type)) parts := by simp only [DataW.weights, hu]
 unfold Szd at h
 rw [hw] at h
 exact fun n hn => h n (DataW.weights_mem_each hi hd n hn)
theorem exists_list {α : Type} {P : Nat → α → Prop} : ∀ n, (∀ i, i < n → ∃ x, P i x) → ∃ l : List α, l.length = n ∧ ∀ i (h : i < l.length), P i l[i]
 | 0, _ => ⟨[], rfl, fun i h => absurd h (by simp)⟩
 | n + 1, h => by
  obtain ⟨l, hl, hp⟩ := exists_list n fun i hi => h i (by omega)
  obtain ⟨x, hx⟩ := h n (by omega)
  refine ⟨l ++ [x], by simp [hl], fun i hi => ?_⟩
  by_cases e : i < l.length
  ·rw [List.getElem_append_left e]; exact hp i e
  ·obtain rfl : i = l.length := by simp at hi; omega
   rw [List.getElem_append_right (Nat.le_refl _)]
   simp
   rw [hl]
   exact hx
section
variable {H : Type} {enc : TypeId × Value → H} {w : World} {base : Nat} {held : Bool} {fuel : Nat} {x : DataW H × List MemPlace}
theorem ints_sz {v : Value} (hf : DataW.trod enc Tryz.prog w base (fun _ => true) held fuel 23 [v] = some x) (hz : Szd 23 x.1) : ∃ a m c u, v = .slice a m c ∧ m ≤ 17592186044416 ∧ Nq w w.heap.size a m u := by
 obtain ⟨a, m, c, u, rfl, _, hq⟩ := nq_of hf
 refine ⟨a, m, c, u, rfl, ?_, hq⟩
 rcases open_slice Tryz.underlying23 hf with ⟨hcs, _⟩ | ⟨a', l, c', m', n', D, Pl, hcs, _, hl, hm, hmm, hx, hi⟩
 ·simp at hcs
  omega
 ·simp at hcs
  rw [hx] at hz
  have h8 : Tryz.prog.bytesOf 3 = 8 := by kernel_rfl
  have := (szd_slice hz Tryz.underlying23).1
  rw [h8] at this
  simp [reachBytes] at this
  omega
theorem com27_of {c0 c1 c2 c3 c4 c5 c6 c7 c8 c9 : Value}
  (hf : DataW.trod enc Tryz.prog w base (fun _ => true) held fuel 95 [c0, c1, c2, c3, c4, c5, c6, c7, c8, c9] = some x) (hz : Szd 95 x.1) : ∃ q : Cv, [c0, c1, c2, c3, c4, c5, c6, c7, c8, c9] = q.cs ∧ q.m ≤ 17592186044416 ∧ Nq w w.heap.size q.a q.m q.u := by
 have h1 : Tryz.prog.cellsOf 3 = 1 := by kernel_rfl
 have h3 : Tryz.prog.cellsOf 23 = 1 := by kernel_rfl
 have h4 : Tryz.prog.cellsOf 93 = 2 := by kernel_rfl
 obtain ⟨ys, n', _, hx, _, hyl, hg⟩ := DataW.trod_struct Tryz.underlying95 hf
 match ys, hyl with
 | [y0, y1, y2, y3, y4, y5, y6, y7, y8], _ =>
  have g0 := hg 0 _ rfl
  have g1 := hg 1 _ rfl
  have g2 := hg 2 _ rfl
  have g3 := hg 3 _ rfl
  have g4 := hg 4 _ rfl
  have g5 := hg 5 _ rfl
  have g6 := hg 6 _ rfl
  have g7 := hg 7 _ rfl
  have g8 := hg 8 _ rfl
  simp [h1, h3, h4] at g0 g1 g2 g3 g4 g5 g6 g7 g8
  rw [hx] at hz
  have hz4 := szd_agg hz Tryz.underlying95 (i := 4) (ty := 23) (d := y4.1) rfl rfl
  obtain ⟨x0, e0, _, w0⟩ := DataW.trod_int Tryz.underlying3 g0
  obtain ⟨x1, e1, _, w1⟩ := DataW.trod_int Tryz.underlying3 g1
  obtain ⟨x2, e2, _, w2⟩ := DataW.trod_int Tryz.underlying3 g2
  obtain ⟨x3, e3, _, w3⟩ := DataW.trod_int Tryz.underlying3 g3
  obtain ⟨x5, e5, _, w5⟩ := DataW.trod_int Tryz.underlying3 g5
  obtain ⟨x6, e6, _, w6⟩ := DataW.trod_int Tryz.underlying3 g6
  obtain ⟨x7, e7, _, w7⟩ := DataW.trod_int Tryz.underlying3 g7
  obtain ⟨a, m, c, u, rfl, hm, hq⟩ := ints_sz g4 hz4
  obtain ⟨x8, x9, rfl, rfl⟩ := vec22_of g8
  simp at e0 e1 e2 e3 e5 e6 e7
  subst e0 e1 e2 e3 e5 e6 e7
  exact ⟨⟨x0, x1, x2, x3, a, m, c, x5, x6, x7, x8, x9, u⟩, rfl, hm, hq⟩
theorem spot_of {a : Addr} {u : Value} (h : w.cell? (a.add 0) = some u) : a.spot = none := by
 simpa [Addr.add] using World.cell?_spot h
theorem add_add27 (a : Addr) (m k : Nat) : (a.add m).add k = a.add (m + k) := by
 obtain ⟨b, off, spot⟩ := a
 unfold Addr.add
 by_cases e1 : m = 0
 ·subst e1; simp
 ·by_cases e2 : k = 0
  ·subst e2; simp
  ·have : ¬ m + k = 0 := by omega
   simp [e1, e2, this]
   try omega
theorem cms27_of {v : Value} (hf : DataW.trod enc Tryz.prog w base (fun _ => true) held fuel 38 [v] = some x) (hz : Szd 38 x.1) : ∃ a n c l, v = .slice a n c ∧ n ≤ 17592186044416 ∧ CmD w w.heap.size a n l ∧ ∀ y, y ∈ l → y.m ≤ 17592186044416 := by
 rcases open_slice Tryz.underlying38 hf with ⟨hcs, _⟩ | ⟨a', n, c', m', n', D, Pl, hcs, _, hl, hm, hmm, hx, hi⟩
 ·simp at hcs
  subst hcs
  exact ⟨none, 0, 0, [], rfl, by omega, CmD.nil _ _ _, fun y hy => by cases hy⟩
 ·simp at hcs
  subst hcs
  rw [hx] at hz
  have hC : Tryz.prog.cellsOf 95 = 10 := by kernel_rfl
  have h8 : Tryz.prog.bytesOf 95 = 96 := by kernel_rfl
  obtain ⟨hb, hel⟩ := szd_slice hz Tryz.underlying38
  rw [h8] at hb
  simp [reachBytes] at hb
  have key : ∀ i, i < n → ∃ q : Cv, (∀ j, j < 10 → w.cell? (a'.add (i * 10 + j)) = q.cs[j]?) ∧ q.m ≤ 17592186044416 ∧ Nq w w.heap.size q.a q.m q.u := fun i hlt => by
   obtain ⟨cs', hc, ht⟩ := hi i (by rw [hmm]; simp; omega)
   rw [hC] at hc
   obtain ⟨_, hcl, hat⟩ := World.cells?_some hc
   match cs', hcl with
   | [c0, c1, c2, c3, c4, c5, c6, c7, c8, c9], _ =>
    obtain ⟨q, hq, h1, h2⟩ := com27_of ht (hel _ (List.mem_map.2 ⟨i, List.mem_range.2 hlt, rfl⟩))
    refine ⟨q, fun j hj => ?_, h1, h2⟩
    rw [← hq, ← hat j hj]
    rw [add_add27]
  obtain ⟨l, hll, hlp⟩ := exists_list n key
  refine ⟨some a', n, c', l, rfl, by omega, ⟨⟨hll, fun hn => ?_⟩, fun y hy => ?_⟩, fun y hy => ?_⟩
  ·have hs : a'.spot = none := by
    have := (hlp 0 (by omega)).1 0 (by omega)
    exact spot_of this
   obtain ⟨b, off, spot⟩ := a'
   simp only at hs
   subst hs
   refine ⟨b, off, rfl, ?_, fun k hk j hj => ?_⟩
   ·have := (hlp 0 (by omega)).1 0 (by omega)
    rw [aq_plus] at this
    exact World.block_lt_of_cell? _ _ this
   ·have := (hlp k hk).1 j hj
    rw [aq_plus] at this
    rw [show off + k * shC.z + j = off + (k * 10 + j) by show off + k * 10 + j = _; omega, this]
    rfl
  ·obtain ⟨i, hi', rfl⟩ := List.mem_iff_getElem.1 hy
   exact (hlp i hi').2.2
  ·obtain ⟨i, hi', rfl⟩ := List.mem_iff_getElem.1 hy
   exact (hlp i hi').2.1
theorem inp27_of {c0 c1 c2 : Value} (hf : DataW.trod enc Tryz.prog w base (fun _ => true) held fuel 40 [c0, c1, c2] = some x) (hz : Szd 40 x.1) : ∃ q : Iv, [c0, c1, c2] = q.cs ∧ q.n ≤ 17592186044416 ∧ CmD w w.heap.size q.a q.n q.l ∧ ∀ y, y ∈ q.l → y.m ≤ 17592186044416 := by
 have h1 : Tryz.prog.cellsOf 3 = 1 := by kernel_rfl
 have h3 : Tryz.prog.cellsOf 38 = 1 := by kernel_rfl
 obtain ⟨ys, n', _, hx, _, hyl, hg⟩ := DataW.trod_struct Tryz.underlying40 hf
 match ys, hyl with
 | [y0, y1, y2], _ =>
  have g0 := hg 0 _ rfl
  have g1 := hg 1 _ rfl
  have g2 := hg 2 _ rfl
  simp [h1, h3] at g0 g1 g2
  rw [hx] at hz
  have hz2 := szd_agg hz Tryz.underlying40 (i := 2) (ty := 38) (d := y2.1) rfl rfl
  obtain ⟨x0, e0, _, w0⟩ := DataW.trod_int Tryz.underlying3 g0
  obtain ⟨x1, e1, _, w1⟩ := DataW.trod_int Tryz.underlying3 g1
  obtain ⟨a, n, c, l, rfl, hn, hq, hm⟩ := cms27_of g2 hz2
  simp at e0 e1
  subst e0 e1
  exact ⟨⟨x0, x1, a, n, c, l⟩, rfl, hn, hq, hm⟩
theorem ins27_of {v : Value} (hf : DataW.trod enc Tryz.prog w base (fun _ => true) held fuel 22 [v] = some x) (hz : Szd 22 x.1) : ∃ a n c l, v = .slice a n c ∧ n ≤ 17592186044416 ∧ InD w w.heap.size a n l ∧ BdI l := by
 rcases open_slice Tryz.underlying22 hf with ⟨hcs, _⟩ | ⟨a', n, c', m', n', D, Pl, hcs, _, hl, hm, hmm, hx, hi⟩
 ·simp at hcs
  subst hcs
  exact ⟨none, 0, 0, [], rfl, by omega, InD.nil _ _ _, ⟨fun y hy => (by cases hy), fun y hy => (by cases hy)⟩⟩
 ·simp at hcs
  subst hcs
  rw [hx] at hz
  have hC : Tryz.prog.cellsOf 40 = 3 := by kernel_rfl
  have h8 : Tryz.prog.bytesOf 40 = 40 := by kernel_rfl
  obtain ⟨hb, hel⟩ := szd_slice hz Tryz.underlying22
  rw [h8] at hb
  simp [reachBytes] at hb
  have key : ∀ i, i < n → ∃ q : Iv, (∀ j, j < 3 → w.cell? (a'.add (i * 3 + j)) = q.cs[j]?) ∧ q.n ≤ 17592186044416 ∧ CmD w w.heap.size q.a q.n q.l ∧ ∀ y, y ∈ q.l → y.m ≤ 17592186044416 := fun i hlt => by
   obtain ⟨cs', hc, ht⟩ := hi i (by rw [hmm]; simp; omega)
   rw [hC] at hc
   obtain ⟨_, hcl, hat⟩ := World.cells?_some hc
   match cs', hcl with
   | [c0, c1, c2], _ =>
    obtain ⟨q, hq, h1, h2⟩ := inp27_of ht (hel _ (List.mem_map.2 ⟨i, List.mem_range.2 hlt, rfl⟩))
    refine ⟨q, fun j hj => ?_, h1, h2⟩
    rw [← hq, ← hat j hj]
    rw [add_add27]
  obtain ⟨l, hll, hlp⟩ := exists_list n key
  refine ⟨some a', n, c', l, rfl, by omega, ⟨⟨hll, fun hn => ?_⟩, fun y hy => ?_⟩, ⟨fun y hy => ?_, fun y hy => ?_⟩⟩
  ·have hs : a'.spot = none := by
    have := (hlp 0 (by omega)).1 0 (by omega)
    exact spot_of this
   obtain ⟨b, off, spot⟩ := a'
   simp only at hs
   subst hs
   refine ⟨b, off, rfl, ?_, fun k hk j hj => ?_⟩
   ·have := (hlp 0 (by omega)).1 0 (by omega)
    rw [aq_plus] at this
    exact World.block_lt_of_cell? _ _ this
   ·have := (hlp k hk).1 j hj
    rw [aq_plus] at this
    rw [show off + k * shI.z + j = off + (k * 3 + j) by show off + k * 3 + j = _; omega, this]
    rfl
  ·obtain ⟨i, hi', rfl⟩ := List.mem_iff_getElem.1 hy
   exact (hlp i hi').2.2.1
  ·obtain ⟨i, hi', rfl⟩ := List.mem_iff_getElem.1 hy
   exact (hlp i hi').2.1
  ·obtain ⟨i, hi', rfl⟩ := List.mem_iff_getElem.1 hy
   exact (hlp i hi').2.2.2
end
def Asks27 (w : World) (v : Value) : Prop := ∃ (la : Option Addr) (ln lc : Nat) (l : List Iv) (ma : Option Addr) (mn mc : Nat) (m : List Iv) (ta : Option Addr) (tn tc : Nat) (ts : List Int),
 v = .agg #[.slice la ln lc, .slice ma mn mc, .slice ta tn tc] ∧ (ln ≤ 17592186044416 ∧ InD w w.heap.size la ln l ∧ BdI l) ∧ (mn ≤ 17592186044416 ∧ InD w w.heap.size ma mn m ∧ BdI m) ∧ (tn ≤ 17592186044416 ∧ Nq w w.heap.size ta tn ts)
end Go.Proofs.YtdpblimhfmfbnaaGreat
namespace Go.Proofs.YtdpblimhfmfbnaaGreat
open Go.ChangeShapes Go.WideShapes Go.ChangeAt Go.RowKit Go.Deep
section
variable {H : Type} {enc : TypeId × Value → H} {w : World} {base : Nat} {held : Bool} {fuel : Nat} {x : DataW H × List MemPlace}
theorem u64s_sz {v : Value} (hf : DataW.trod enc Tryz.prog w base (fun _ => true) held fuel 24 [v] = some x) (hz : Szd 24 x.1) : ∃ a m c u, v = .slice a m c ∧ m ≤ 17592186044416 ∧ Qv shU w w.heap.size a m u := by
 have hsz : ∀ a' n c', [v] = [Value.slice (some a') n c'] → n ≤ 17592186044416 := fun a0 n0 c0 hv => by
  rcases open_slice Tryz.underlying24 hf with ⟨hcs, _⟩ | ⟨a', m, c', m', n', D, Pl, hcs, _, hl, hm, hmm, hx, hi⟩
  ·rw [hcs] at hv
   simp at hv
  ·rw [hcs] at hv
   simp at hv
   rw [hx] at hz
   have h8 : Tryz.prog.bytesOf 41 = 8 := by kernel_rfl
   have := (szd_slice hz Tryz.underlying24).1
   rw [h8] at this
   simp [reachBytes] at this
   omega
 rcases open_ints Tryz.underlying24 Tryz.underlying41 (by kernel_rfl) hf with ⟨hcs, _⟩ | ⟨a, l, c, zs, hcs, _, hl, hm, hzl, _, hc, hwf⟩
 ·simp at hcs; subst hcs
  exact ⟨none, 0, 0, [], rfl, by omega, ⟨rfl, fun h => absurd h (by omega)⟩⟩
 ·have hn := hsz a l c hcs
  simp at hcs; subst hcs
  have hz2 : l ≤ zs.length := by rw [hzl]; split <;> omega
  refine ⟨_, _, _, zs.take l, rfl, hn, by simp; omega, fun hn => ?_⟩
  obtain ⟨b, off, spot⟩ := a
  have hs : spot = none := by
   have h0 := World.cell?_spot (hc 0 (by omega))
   simpa [Addr.add] using h0
  subst hs
  refine ⟨b, off, rfl, ?_, fun k hk j hj => ?_⟩
  ·have := hc 0 (by omega); rw [aq_plus] at this; exact World.block_lt_of_cell? _ _ this
  ·obtain rfl : j = 0 := by
    have : shU.z = 1 := rfl
    omega
   have hk2 : k < l := by simp at hk; omega
   have := hc k (by omega)
   rw [aq_plus] at this
   rw [show off + k * shU.z + 0 = off + k by show off + k * 1 + 0 = _; omega, this]
   show _ = some (Value.int .u64 _)
   congr 2
   rw [List.getD_eq_getElem?_getD, List.getElem?_eq_getElem (by omega)]
   simp
structure BdP (p : Pv) : Prop where
 m : p.mn ≤ 17592186044416
 l : p.ln ≤ 17592186044416
 h : p.hn ≤ 17592186044416
 a : p.an ≤ 17592186044416
 x : p.xn ≤ 17592186044416
 mb : BdI p.ml
 lb : BdI p.ll
set_option maxHeartbeats 1600000 in
theorem peer28_of {c0 c1 c2 c3 c4 c5 c6 c7 c8 c9 c10 : Value}
  (hf : DataW.trod enc Tryz.prog w base (fun _ => true) held fuel 26 [c0, c1, c2, c3, c4, c5, c6, c7, c8, c9, c10] = some x) (hz : Szd 26 x.1) : ∃ p : Pv, [c0, c1, c2, c3, c4, c5, c6, c7, c8, c9, c10] = [.int .i64 p.i, .int .i64 p.n, .int .i64 p.d, .int .i64 p.t, .int .i64 p.s, .slice p.ma p.mn p.mc, .slice p.la p.ln p.lc, .slice p.ha p.hn p.hc, .slice p.aa p.an p.ac, .slice p.xa p.xn p.xc, .bool p.b] ∧ PvD w w.heap.size p ∧ BdP p := by
 have h1 : Tryz.prog.cellsOf 3 = 1 := by kernel_rfl
 have h2 : Tryz.prog.cellsOf 22 = 1 := by kernel_rfl
 have h3 : Tryz.prog.cellsOf 23 = 1 := by kernel_rfl
 have h4 : Tryz.prog.cellsOf 24 = 1 := by kernel_rfl
 have h5 : Tryz.prog.cellsOf 4 = 1 := by kernel_rfl
 obtain ⟨ys, n', _, hx, _, hyl, hg⟩ := DataW.trod_struct Tryz.underlying26 hf
 match ys, hyl with
 | [y0, y1, y2, y3, y4, y5, y6, y7, y8, y9, y10], _ =>
  have g0 := hg 0 _ rfl
  have g1 := hg 1 _ rfl
  have g2 := hg 2 _ rfl
  have g3 := hg 3 _ rfl
  have g4 := hg 4 _ rfl
  have g5 := hg 5 _ rfl
  have g6 := hg 6 _ rfl
  have g7 := hg 7 _ rfl
  have g8 := hg 8 _ rfl
  have g9 := hg 9 _ rfl
  have g10 := hg 10 _ rfl
  simp [h1, h2, h3, h4, h5] at g0 g1 g2 g3 g4 g5 g6 g7 g8 g9 g10
  rw [hx] at hz
  have z5 := szd_agg hz Tryz.underlying26 (i := 5) (ty := 22) (d := y5.1) rfl rfl
  have z6 := szd_agg hz Tryz.underlying26 (i := 6) (ty := 22) (d := y6.1) rfl rfl
  have z7 := szd_agg hz Tryz.underlying26 (i := 7) (ty := 23) (d := y7.1) rfl rfl
  have z8 := szd_agg hz Tryz.underlying26 (i := 8) (ty := 23) (d := y8.1) rfl rfl
  have z9 := szd_agg hz Tryz.underlying26 (i := 9) (ty := 24) (d := y9.1) rfl rfl
  obtain ⟨x0, e0, _, _⟩ := DataW.trod_int Tryz.underlying3 g0
  obtain ⟨x1, e1, _, _⟩ := DataW.trod_int Tryz.underlying3 g1
  obtain ⟨x2, e2, _, _⟩ := DataW.trod_int Tryz.underlying3 g2
  obtain ⟨x3, e3, _, _⟩ := DataW.trod_int Tryz.underlying3 g3
  obtain ⟨x4, e4, _, _⟩ := DataW.trod_int Tryz.underlying3 g4
  obtain ⟨b, e10, _⟩ := DataW.trod_bool Tryz.underlying4 g10
  obtain ⟨ma, mn, mc, ml, rfl, m1, m2, m3⟩ := ins27_of g5 z5
  obtain ⟨la, ln, lc, ll, rfl, l1, l2, l3⟩ := ins27_of g6 z6
  obtain ⟨ha, hn, hc, hl, rfl, k1, k2⟩ := ints_sz g7 z7
  obtain ⟨aa, an, ac, al, rfl, a1, a2⟩ := ints_sz g8 z8
  obtain ⟨xa, xn, xc, xl, rfl, u1, u2⟩ := u64s_sz g9 z9
  simp at e0 e1 e2 e3 e4 e10
  subst e0 e1 e2 e3 e4 e10
  exact ⟨⟨x0, x1, x2, x3, x4, ma, mn, mc, ml, la, ln, lc, ll, ha, hn, hc, hl, aa, an, ac, al, xa, xn, xc, xl, b⟩, rfl, ⟨m2, l2, k2, a2, u2⟩, ⟨m1, l1, k1, a1, u1, m3, l3⟩⟩
end
end Go.Proofs.YtdpblimhfmfbnaaGreat
namespace Go.Proofs.YtdpblimhfmfbnaaGreat
open Go.ChangeShapes Go.WideShapes Go.ChangeAt Go.RowKit Go.Deep
structure Nv where
 f : Int
 t : Int
 q : Iv
 d : Int
 h : Int
 v : Int
deriving Inhabited
def Nv.cs (e : Nv) : List Value := [.int .i64 e.f, .int .i64 e.t, .int .i64 e.q.t, .int .i64 e.q.p, .slice e.q.a e.q.n e.q.c, .int .i64 e.d, .int .u64 e.h, .int .i64 e.v]
structure Av where
 o : Int
 la : Option Addr
 ln : Nat
 lc : Nat
 ll : List Cv
 e : Nv
 b : Bool
 h : Int
deriving Inhabited
abbrev jjQ (q : Av) : Array Value := #[.int .i64 q.o, .slice q.la q.ln q.lc, .int .i64 q.e.f, .int .i64 q.e.t, .int .i64 q.e.q.t, .int .i64 q.e.q.p, .slice q.e.q.a q.e.q.n q.e.q.c, .int .i64 q.e.d, .int .u64 q.e.h, .int .i64 q.e.v, .bool q.b, .int .u64 q.h]
def Av.cs (x : Av) : List Value := [.int .i64 x.o, .slice x.la x.ln x.lc, .int .i64 x.e.f, .int .i64 x.e.t, .int .i64 x.e.q.t, .int .i64 x.e.q.p, .slice x.e.q.a x.e.q.n x.e.q.c, .int .i64 x.e.d, .int .u64 x.e.h, .int .i64 x.e.v, .bool x.b, .int .u64 x.h]
def shA : Sh Av := ⟨Av.cs, 12, fun _ => rfl, fun x u hu => by
 simp [Av.cs] at hu
 rcases hu with rfl | rfl | rfl | rfl | rfl | rfl | rfl | rfl | rfl | rfl | rfl | rfl <;> rfl⟩
structure AvD (w : World) (B : Nat) (x : Av) : Prop where
 l : CmD w B x.la x.ln x.ll
 n : CmD w B x.e.q.a x.e.q.n x.e.q.l
 l1 : x.ln ≤ 17592186044416
 l2 : ∀ y, y ∈ x.ll → y.m ≤ 17592186044416
 n1 : x.e.q.n ≤ 17592186044416
 n2 : ∀ y, y ∈ x.e.q.l → y.m ≤ 17592186044416
structure AsD (w : World) (B : Nat) (a : Option Addr) (n : Nat) (l : List Av) : Prop where
 q : Qv shA w B a n l
 u : ∀ x, x ∈ l → AvD w B x
section
variable {H : Type} {enc : TypeId × Value → H} {w : World} {base : Nat} {held : Bool} {fuel : Nat} {x : DataW H × List MemPlace}
set_option maxHeartbeats 1600000 in
theorem note28_of {c0 c1 c2 c3 c4 c5 c6 c7 : Value}
  (hf : DataW.trod enc Tryz.prog w base (fun _ => true) held fuel 43 [c0, c1, c2, c3, c4, c5, c6, c7] = some x) (hz : Szd 43 x.1) : ∃ e : Nv, [c0, c1, c2, c3, c4, c5, c6, c7] = e.cs ∧ CmD w w.heap.size e.q.a e.q.n e.q.l ∧ e.q.n ≤ 17592186044416 ∧ ∀ y, y ∈ e.q.l → y.m ≤ 17592186044416 := by
 have h1 : Tryz.prog.cellsOf 3 = 1 := by kernel_rfl
 have h2 : Tryz.prog.cellsOf 40 = 3 := by kernel_rfl
 have h4 : Tryz.prog.cellsOf 41 = 1 := by kernel_rfl
 obtain ⟨ys, n', _, hx, _, hyl, hg⟩ := DataW.trod_struct Tryz.underlying43 hf
 match ys, hyl with
 | [y0, y1, y2, y3, y4, y5], _ =>
  have g0 := hg 0 _ rfl
  have g1 := hg 1 _ rfl
  have g2 := hg 2 _ rfl
  have g3 := hg 3 _ rfl
  have g4 := hg 4 _ rfl
  have g5 := hg 5 _ rfl
  simp [h1, h2, h4] at g0 g1 g2 g3 g4 g5
  rw [hx] at hz
  have z2 := szd_agg hz Tryz.underlying43 (i := 2) (ty := 40) (d := y2.1) rfl rfl
  obtain ⟨x0, e0, _, _⟩ := DataW.trod_int Tryz.underlying3 g0
  obtain ⟨x1, e1, _, _⟩ := DataW.trod_int Tryz.underlying3 g1
  obtain ⟨q, hq, q1, q2, q3⟩ := inp27_of g2 z2
  obtain ⟨x3, e3, _, _⟩ := DataW.trod_int Tryz.underlying3 g3
  obtain ⟨x4, e4, _, _⟩ := DataW.trod_int Tryz.underlying41 g4
  obtain ⟨x5, e5, _, _⟩ := DataW.trod_int Tryz.underlying3 g5
  simp at e0 e1 e3 e4 e5
  simp [Iv.cs] at hq
  obtain ⟨rfl, rfl, rfl⟩ := hq
  subst e0 e1 e3 e4 e5
  exact ⟨⟨x0, x1, q, x3, x4, x5⟩, rfl, q2, q1, q3⟩
set_option maxHeartbeats 1600000 in
theorem act28_of {c0 c1 c2 c3 c4 c5 c6 c7 c8 c9 c10 c11 : Value}
  (hf : DataW.trod enc Tryz.prog w base (fun _ => true) held fuel 45 [c0, c1, c2, c3, c4, c5, c6, c7, c8, c9, c10, c11] = some x) (hz : Szd 45 x.1) : ∃ v : Av, [c0, c1, c2, c3, c4, c5, c6, c7, c8, c9, c10, c11] = v.cs ∧ AvD w w.heap.size v := by
 have h1 : Tryz.prog.cellsOf 3 = 1 := by kernel_rfl
 have h2 : Tryz.prog.cellsOf 38 = 1 := by kernel_rfl
 have h3 : Tryz.prog.cellsOf 43 = 8 := by kernel_rfl
 have h4 : Tryz.prog.cellsOf 41 = 1 := by kernel_rfl
 have h5 : Tryz.prog.cellsOf 4 = 1 := by kernel_rfl
 obtain ⟨ys, n', _, hx, _, hyl, hg⟩ := DataW.trod_struct Tryz.underlying45 hf
 match ys, hyl with
 | [y0, y1, y2, y3, y4], _ =>
  have g0 := hg 0 _ rfl
  have g1 := hg 1 _ rfl
  have g2 := hg 2 _ rfl
  have g3 := hg 3 _ rfl
  have g4 := hg 4 _ rfl
  simp [h1, h2, h3, h4, h5] at g0 g1 g2 g3 g4
  rw [hx] at hz
  have z1 := szd_agg hz Tryz.underlying45 (i := 1) (ty := 38) (d := y1.1) rfl rfl
  have z2 := szd_agg hz Tryz.underlying45 (i := 2) (ty := 43) (d := y2.1) rfl rfl
  obtain ⟨x0, e0, _, _⟩ := DataW.trod_int Tryz.underlying3 g0
  obtain ⟨la, ln, lc, ll, rfl, l1, l2, l3⟩ := cms27_of g1 z1
  obtain ⟨e, he, n1, n2, n3⟩ := note28_of g2 z2
  obtain ⟨b, e3, _⟩ := DataW.trod_bool Tryz.underlying4 g3
  obtain ⟨x4, e4, _, _⟩ := DataW.trod_int Tryz.underlying41 g4
  simp at e0 e3 e4
  simp [Nv.cs] at he
  obtain ⟨rfl, rfl, rfl, rfl, rfl, rfl, rfl, rfl⟩ := he
  subst e0 e3 e4
  exact ⟨⟨x0, la, ln, lc, ll, e, b, x4⟩, rfl, ⟨l2, n1, l1, l3, n2, n3⟩⟩
set_option maxRecDepth 100000 in
theorem acts28_of {v : Value} (hf : DataW.trod enc Tryz.prog w base (fun _ => true) held fuel 27 [v] = some x) (hz : Szd 27 x.1) : ∃ a n c l, v = .slice a n c ∧ n ≤ 17592186044416 ∧ AsD w w.heap.size a n l := by
 rcases open_slice Tryz.underlying27 hf with ⟨hcs, _⟩ | ⟨a', n, c', m', n', D, Pl, hcs, _, hl, hm, hmm, hx, hi⟩
 ·simp at hcs
  subst hcs
  exact ⟨none, 0, 0, [], rfl, by omega, ⟨⟨rfl, fun h => absurd h (by omega)⟩, fun y hy => by cases hy⟩⟩
 ·simp at hcs
  subst hcs
  rw [hx] at hz
  have hC : Tryz.prog.cellsOf 45 = 12 := by kernel_rfl
  have h8 : 8 ≤ Tryz.prog.bytesOf 45 := by decide +kernel
  obtain ⟨hb, hel⟩ := szd_slice hz Tryz.underlying27
  simp [reachBytes] at hb
  have key : ∀ i, i < n → ∃ q : Av, (∀ j, j < 12 → w.cell? (a'.add (i * 12 + j)) = q.cs[j]?) ∧ AvD w w.heap.size q := fun i hlt => by
   obtain ⟨cs', hc, ht⟩ := hi i (by rw [hmm]; simp; omega)
   rw [hC] at hc
   obtain ⟨_, hcl, hat⟩ := World.cells?_some hc
   match cs', hcl with
   | [c0, c1, c2, c3, c4, c5, c6, c7, c8, c9, c10, c11], _ =>
    obtain ⟨q, hq, h1⟩ := act28_of ht (hel _ (List.mem_map.2 ⟨i, List.mem_range.2 hlt, rfl⟩))
    refine ⟨q, fun j hj => ?_, h1⟩
    rw [← hq, ← hat j hj]
    rw [add_add27]
  obtain ⟨l, hll, hlp⟩ := exists_list n key
  have hn17 : n ≤ 17592186044416 := by
   have h9 := Nat.mul_le_mul_left n h8
   have h10 : n * Tryz.prog.bytesOf 45 ≤ (n + (m' - n)) * Tryz.prog.bytesOf 45 := Nat.mul_le_mul_right _ (Nat.le_add_right _ _)
   have h12 := Nat.le_trans h9 (Nat.le_trans h10 hb)
   clear h9 h10 hb
   omega
  refine ⟨some a', n, c', l, rfl, hn17, ⟨⟨hll, fun hn => ?_⟩, fun y hy => ?_⟩⟩
  ·have hs : a'.spot = none := by
    have := (hlp 0 (by omega)).1 0 (by omega)
    exact spot_of this
   obtain ⟨b, off, spot⟩ := a'
   simp only at hs
   subst hs
   refine ⟨b, off, rfl, ?_, fun k hk j hj => ?_⟩
   ·have := (hlp 0 (by omega)).1 0 (by omega)
    rw [aq_plus] at this
    exact World.block_lt_of_cell? _ _ this
   ·have := (hlp k hk).1 j hj
    rw [aq_plus] at this
    rw [show off + k * shA.z + j = off + (k * 12 + j) by show off + k * 12 + j = _; omega, this]
    rfl
  ·obtain ⟨i, hi', rfl⟩ := List.mem_iff_getElem.1 hy
   exact (hlp i hi').2
end
def Asks28z (w : World) (v : Value) : Prop := ∃ (p : Pv) (la : Option Addr) (ln lc : Nat) (l : List Av),
 v = .agg #[.int .i64 p.i, .int .i64 p.n, .int .i64 p.d, .int .i64 p.t, .int .i64 p.s, .slice p.ma p.mn p.mc, .slice p.la p.ln p.lc, .slice p.ha p.hn p.hc, .slice p.aa p.an p.ac, .slice p.xa p.xn p.xc, .bool p.b, .slice la ln lc] ∧ (PvD w w.heap.size p ∧ BdP p) ∧ ln ≤ 17592186044416 ∧ AsD w w.heap.size la ln l
theorem asks28z_of {H : Type} {enc : TypeId × Value → H} {w : World} {base : Nat} {held : Bool} {fuel : Nat} {x : DataW H × List MemPlace} {cs : Array Value}
  (hcs : cs.size = Tryz.prog.cellsOf 29) (hf : DataW.trod enc Tryz.prog w base (fun _ => true) held fuel 29 cs.toList = some x) (hz : Szd 29 x.1) : Asks28z w (.agg cs) := by
 have h1 : Tryz.prog.cellsOf 26 = 11 := by kernel_rfl
 have h3 : Tryz.prog.cellsOf 27 = 1 := by kernel_rfl
 have hC : Tryz.prog.cellsOf 29 = 12 := by kernel_rfl
 have hl := hcs
 rw [hC] at hl
 clear hcs hC
 obtain ⟨⟨cl⟩, rfl⟩ : ∃ c : Array Value, cs = c := ⟨cs, rfl⟩
 simp only [List.size_toArray] at hl
 simp only at hf
 match cl, hl with
 | [c0, c1, c2, c3, c4, c5, c6, c7, c8, c9, c10, c11], _ =>
 obtain ⟨ys, n', _, hx, _, hyl, hg⟩ := DataW.trod_struct Tryz.underlying29 hf
 match ys, hyl with
 | [y0, y1], _ =>
  have g0 := hg 0 _ rfl
  have g1 := hg 1 _ rfl
  simp [h1, h3] at g0 g1
  rw [hx] at hz
  have z0 := szd_agg hz Tryz.underlying29 (i := 0) (ty := 26) (d := y0.1) rfl rfl
  have z1 := szd_agg hz Tryz.underlying29 (i := 1) (ty := 27) (d := y1.1) rfl rfl
  obtain ⟨p, hp, p1, p2⟩ := peer28_of g0 z0
  obtain ⟨la, ln, lc, l, rfl, a1, a2⟩ := acts28_of g1 z1
  simp at hp
  obtain ⟨rfl, rfl, rfl, rfl, rfl, rfl, rfl, rfl, rfl, rfl, rfl⟩ := hp
  exact ⟨p, la, ln, lc, l, rfl, ⟨p1, p2⟩, a1, a2⟩
end Go.Proofs.YtdpblimhfmfbnaaGreat
namespace Go.Proofs.YtdpblimhfmfbnaaGreat
open Go.ChangeShapes Go.WideShapes Go.ChangeAt Go.RowKit Go.Deep
theorem mxC_sm28 {r : Nat} {l : List Cv} (h : mxC r l) (hr : r ≤ 1048576) : SmC l := ⟨Nat.le_trans h.1 hr, fun x hx => Nat.le_trans (h.2 x hx) hr⟩
theorem mxI_sm28 {r : Nat} {l : List Iv} (h : mxI r l) (hr : r ≤ 1048576) : SmI l := ⟨Nat.le_trans h.1 hr, fun x hx => mxC_sm28 (h.2 x hx) hr⟩
theorem below_eqz {w z : World} (h : z = w) : Below w.heap.size w z := by
 subst h
 exact Below.refl _ _
theorem AvD.later {w w' : World} {x : Av} (h : AvD w w.heap.size x) (hb : Below w.heap.size w w') : AvD w' w'.heap.size x := ⟨(h.l.below hb (Nat.le_refl _)).mono hb.size, (h.n.below hb (Nat.le_refl _)).mono hb.size, h.l1, h.l2, h.n1, h.n2⟩
theorem AsD.later {w w' : World} {a : Option Addr} {n : Nat} {l : List Av} (h : AsD w w.heap.size a n l) (hb : Below w.heap.size w w') : AsD w' w'.heap.size a n l := ⟨(h.q.below hb (Nat.le_refl _)).mono hb.size, fun x hx => (h.u x hx).later hb⟩
theorem AsD.at_ {w : World} {B : Nat} {a : Option Addr} {n : Nat} {l : List Av} (h : AsD w B a n l) {k : Nat} (hk : k < n) : ∃ b off, a = some ⟨b, off, none⟩ ∧ b < B ∧ w.cell? ⟨b, off + k * 12 + 1, none⟩ = some (.slice (l.getD k default).la (l.getD k default).ln (l.getD k default).lc) ∧ w.cell? ⟨b, off + k * 12 + 6, none⟩ = some (.slice (l.getD k default).e.q.a (l.getD k default).e.q.n (l.getD k default).e.q.c) ∧ AvD w B (l.getD k default) := by
 obtain ⟨b, off, e, hlt, hc⟩ := h.q.rd (by omega)
 have hk' : k < l.length := by rw [h.q.len]; exact hk
 have hg : l.getD k default = l[k] := by simp [List.getD, hk']
 have c := hc k hk'
 rw [hg]
 exact ⟨b, off, e, hlt, c 1 (by decide), c 6 (by decide), h.u _ (List.getElem_mem hk')⟩
theorem d20y {r : Nat} (h : r < 1048576) : decide ((r : Int) < 1048576) = true := by rw [decide_eq_true_iff]; omega
theorem d20n {r : Nat} (h : ¬ r < 1048576) : decide ((r : Int) < 1048576) = false := by rw [decide_eq_false_iff_not]; omega
def HvyZ (p : Pv) (l : List Av) (w : World) (e : Ending) (w' : World) : Prop := ∃ r, e = .returned (.bool r) ∧ Below w.heap.size w w' ∧ Hk (r = false → PvS p ∧ p.xn ≤ 2000 ∧ l.length ≤ 60 ∧ ∀ x, x ∈ l → SmC x.ll ∧ SmC x.e.q.l)
end Go.Proofs.YtdpblimhfmfbnaaGreat
