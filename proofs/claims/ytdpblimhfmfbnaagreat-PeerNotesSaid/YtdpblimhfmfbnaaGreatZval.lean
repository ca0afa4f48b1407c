import Derived.Deep.QuietTactic
import Derived.BigQuiet
import Derived.Deep.RegionWith
import Derived.Deep.RegionHeld3
import Derived.Deep.DeepCutAuto
import Derived.Deep.DeepFit
import Derived.Outline
import Derived.Test.YtdpblimhfmfbnaaGreatZvak
import Derived.Test.YtdpblimhfmfbnaaGreatZvad
import Derived.Test.YtdpblimhfmfbnaaGreatZva
import Derived.Test.YtdpblimhfmfbnaaGreatZvb
import Derived.SizedLaws
import Derived.Test.YtdpblimhfmfbnaaGreatZve
set_option linter.unusedVariables false
set_option linter.unusedSimpArgs false
namespace Go.Proofs.YtdpblimhfmfbnaaGreat
open List renaming getElem_toArray → jjA, getElem_cons_succ → jjB, getElem_cons_zero → jjC, setIfInBounds_toArray → jjD, set_cons_zero → jjE, set_cons_succ → jjF
open Go.ChangeShapes Go.WideShapes Go.ChangeAt Go.RowKit Go.Deep
set_option maxRecDepth 100000 in
set_option maxHeartbeats 3200000 in
theorem rready_no (p : Pv) (w : World) (h : PvD w w.heap.size p) (hs : PvS p) (h0 : 0 < p.hn) (E : ¬ (p.t < 1099511627776 ∧ p.t ≤ minL p.hl)) :
  Calls Tryz.prog 46 #[.agg #[.int .i64 p.i, .int .i64 p.n, .int .i64 p.d, .int .i64 p.t, .int .i64 p.s, .slice p.ma p.mn p.mc, .slice p.la p.ln p.lc, .slice p.ha p.hn p.hc, .slice p.aa p.an p.ac, .slice p.xa p.xn p.xc, .bool p.b]] w fun e w' => e = .returned (.tuple #[.slice none 0 0, .bool false]) ∧ Below w.heap.size w w' := by
 have HN : Hk (0 < p.hn ∧ p.hn ≤ 1048576) := ⟨h0, hs.h⟩
 obtain ⟨lo, hlo⟩ : ∃ lo, minL p.hl = lo := ⟨_, rfl⟩
 rw [hlo] at E
 have HLOW := Hk.mk hlo
 have HSL := Hk.mk hs.l
 have HWB : Hk (Below w.heap.size w (w.alloc (.cells #[.int .i64 p.i, .int .i64 p.n, .int .i64 p.d, .int .i64 p.t, .int .i64 p.s, .slice p.ma p.mn p.mc, .slice p.la p.ln p.lc, .slice p.ha p.hn p.hc, .slice p.aa p.an p.ac, .slice p.xa p.xn p.xc, .bool p.b] 26))) := ⟨(Below.refl _ _).alloc (Nat.le_refl _) _⟩
 have hNW : (w.heap.size + 1) ≤ (w.alloc (.cells #[.int .i64 p.i, .int .i64 p.n, .int .i64 p.d, .int .i64 p.t, .int .i64 p.s, .slice p.ma p.mn p.mc, .slice p.la p.ln p.lc, .slice p.ha p.hn p.hc, .slice p.aa p.an p.ac, .slice p.xa p.xn p.xc, .bool p.b] 26)).heap.size := by simp
 have HB : Hk (Below (w.heap.size + 1) (w.alloc (.cells #[.int .i64 p.i, .int .i64 p.n, .int .i64 p.d, .int .i64 p.t, .int .i64 p.s, .slice p.ma p.mn p.mc, .slice p.la p.ln p.lc, .slice p.ha p.hn p.hc, .slice p.aa p.an p.ac, .slice p.xa p.xn p.xc, .bool p.b] 26)) (w.alloc (.cells #[.int .i64 p.i, .int .i64 p.n, .int .i64 p.d, .int .i64 p.t, .int .i64 p.s, .slice p.ma p.mn p.mc, .slice p.la p.ln p.lc, .slice p.ha p.hn p.hc, .slice p.aa p.an p.ac, .slice p.xa p.xn p.xc, .bool p.b] 26))) := ⟨Below.refl _ _⟩
 have HTR : Hk (∀ X, Below (w.heap.size + 1) (w.alloc (.cells #[.int .i64 p.i, .int .i64 p.n, .int .i64 p.d, .int .i64 p.t, .int .i64 p.s, .slice p.ma p.mn p.mc, .slice p.la p.ln p.lc, .slice p.ha p.hn p.hc, .slice p.aa p.an p.ac, .slice p.xa p.xn p.xc, .bool p.b] 26)) X → Below w.heap.size w X) := ⟨fun X hX => HWB.out.trans (hX.mono (by omega))⟩
 have HPB : Hk (Bk (w.alloc (.cells #[.int .i64 p.i, .int .i64 p.n, .int .i64 p.d, .int .i64 p.t, .int .i64 p.s, .slice p.ma p.mn p.mc, .slice p.la p.ln p.lc, .slice p.ha p.hn p.hc, .slice p.aa p.an p.ac, .slice p.xa p.xn p.xc, .bool p.b] 26)) w.heap.size #[.int .i64 p.i, .int .i64 p.n, .int .i64 p.d, .int .i64 p.t, .int .i64 p.s, .slice p.ma p.mn p.mc, .slice p.la p.ln p.lc, .slice p.ha p.hn p.hc, .slice p.aa p.an p.ac, .slice p.xa p.xn p.xc, .bool p.b]) := ⟨Bk.new w #[.int .i64 p.i, .int .i64 p.n, .int .i64 p.d, .int .i64 p.t, .int .i64 p.s, .slice p.ma p.mn p.mc, .slice p.la p.ln p.lc, .slice p.ha p.hn p.hc, .slice p.aa p.an p.ac, .slice p.xa p.xn p.xc, .bool p.b] 26⟩
 have HPD : Hk (∀ X, Below (w.alloc (.cells #[.int .i64 p.i, .int .i64 p.n, .int .i64 p.d, .int .i64 p.t, .int .i64 p.s, .slice p.ma p.mn p.mc, .slice p.la p.ln p.lc, .slice p.ha p.hn p.hc, .slice p.aa p.an p.ac, .slice p.xa p.xn p.xc, .bool p.b] 26)).heap.size (w.alloc (.cells #[.int .i64 p.i, .int .i64 p.n, .int .i64 p.d, .int .i64 p.t, .int .i64 p.s, .slice p.ma p.mn p.mc, .slice p.la p.ln p.lc, .slice p.ha p.hn p.hc, .slice p.aa p.an p.ac, .slice p.xa p.xn p.xc, .bool p.b] 26)) X → PvD X X.heap.size p) := ⟨fun X hX => h.later (HWB.out.trans (hX.mono HWB.out.size))⟩
 have HAA : Hk (∀ X, Below (w.alloc (.cells #[.int .i64 p.i, .int .i64 p.n, .int .i64 p.d, .int .i64 p.t, .int .i64 p.s, .slice p.ma p.mn p.mc, .slice p.la p.ln p.lc, .slice p.ha p.hn p.hc, .slice p.aa p.an p.ac, .slice p.xa p.xn p.xc, .bool p.b] 26)).heap.size (w.alloc (.cells #[.int .i64 p.i, .int .i64 p.n, .int .i64 p.d, .int .i64 p.t, .int .i64 p.s, .slice p.ma p.mn p.mc, .slice p.la p.ln p.lc, .slice p.ha p.hn p.hc, .slice p.aa p.an p.ac, .slice p.xa p.xn p.xc, .bool p.b] 26)) X → Nq X X.heap.size p.ha p.hn p.hl) := ⟨fun X hX => (HPD.out X hX).h⟩
 have HLL : Hk (∀ X, Below (w.alloc (.cells #[.int .i64 p.i, .int .i64 p.n, .int .i64 p.d, .int .i64 p.t, .int .i64 p.s, .slice p.ma p.mn p.mc, .slice p.la p.ln p.lc, .slice p.ha p.hn p.hc, .slice p.aa p.an p.ac, .slice p.xa p.xn p.xc, .bool p.b] 26)).heap.size (w.alloc (.cells #[.int .i64 p.i, .int .i64 p.n, .int .i64 p.d, .int .i64 p.t, .int .i64 p.s, .slice p.ma p.mn p.mc, .slice p.la p.ln p.lc, .slice p.ha p.hn p.hc, .slice p.aa p.an p.ac, .slice p.xa p.xn p.xc, .bool p.b] 26)) X → InD X X.heap.size p.la p.ln p.ll) := ⟨fun X hX => (HPD.out X hX).l⟩
 clear h hs h0 hlo HPD
 go_enter Tryz.func46, Tryz.ntmps46
 go_upto_region 1 with fail
 generalize (w.alloc (.cells #[.int .i64 p.i, .int .i64 p.n, .int .i64 p.d, .int .i64 p.t, .int .i64 p.s, .slice p.ma p.mn p.mc, .slice p.la p.ln p.lc, .slice p.ha p.hn p.hc, .slice p.aa p.an p.ac, .slice p.xa p.xn p.xc, .bool p.b] 26)) = V at *
 have HV : Hk (Below V.heap.size V V) := ⟨Below.refl _ _⟩
 have c3 : V.cell? ⟨w.heap.size, 3, none⟩ = some (.int .i64 p.t) := HPB.out.c 3
 have c7 : V.cell? ⟨w.heap.size, 7, none⟩ = some (.slice p.ha p.hn p.hc) := HPB.out.c 7
 have c6 : V.cell? ⟨w.heap.size, 6, none⟩ = some (.slice p.la p.ln p.lc) := HPB.out.c 6
 have hl := HPB.out.lt
 have HPC := Hk.mk (show (∀ X, Below V.heap.size V X → X.cell? ⟨w.heap.size, 3, none⟩ = some (.int .i64 p.t) ∧ X.cell? ⟨w.heap.size, 6, none⟩ = some (.slice p.la p.ln p.lc) ∧ w.heap.size < X.heap.size) from fun X hX => ⟨(hX.cell (p := ⟨w.heap.size, 3, none⟩) hl).trans c3, (hX.cell (p := ⟨w.heap.size, 6, none⟩) hl).trans c6, Nat.lt_of_lt_of_le hl hX.size⟩)
 clear HB hNW HTR HPB
 by_cases h1 : p.t < 1099511627776
 ·have h2 : lo < p.t := by
   apply Classical.byContradiction
   intro h2
   exact E ⟨h1, by omega⟩
  have f1 : decide (1099511627776 ≤ p.t) = false := by rw [decide_eq_false_iff_not]; omega
  have f2 : decide (lo < p.t) = true := by rw [decide_eq_true_iff]; exact h2
  clear h1 h2 E c6
  refine wp_region_held_drew (S := (fun X => (∀ b o, b < V.heap.size → X.cell? ⟨b, o, none⟩ = V.cell? ⟨b, o, none⟩) ∧ Below V.heap.size V X)) (by kernel_rfl) ?_ (fun hHeld => ?_)
  ·exact kw_S (kw_drew HV.out)
  have HI : Ix [0, 1, 2, 3, 4, 5, 7, 8] := trivial
  iterate 8 (refine tkA HI (v := ?_) rfl (by kernel_rfl) (fun _ _ _ h => h) (.inl ⟨by rfl, fun wX hSw => ?_⟩) hHeld (fun HJ => ?_); rotate_left; (focus ((try dsimp only at hSw); go_simp; try with_reducible rfl)); clear HI; have HI := HJ; clear HJ; try simp only [Act.put, jjA, jjB, jjC, jjD, jjE, jjF])
  clear HI
  refine wpAnyH_ready (rs := [6]) (by kernel_rfl) (by simp) ?_
  refine AllReadyH.cons rfl (fun K hK => ?_) (AllReadyH.nil)
  go_simp
  ((go_at_call 32; (with_reducible refine (least_any p.ha p.hn p.hc p.hl _ (by first | exact HAA.out _ HV.out | exact HAA.out _ HV.out.drew) HN.out.1 HN.out.2).mono ?_); rintro e z ⟨rfl, hz⟩; rw [HLOW.out]; have hb := below_m hz; clear hz; have hB2 : Hk (Below V.heap.size V z) := ⟨by first | exact kw_step HV.out (Nat.le_refl _) hb | exact kw_step HV.out.drew (Nat.le_refl _) hb⟩; clear hb; replace HV := hB2; clear hB2))
  refine hK.out _ _ ?_ (fun hHeld => ?_)
  ·exact kw_S HV.out
  clear hK K
  (try simp only [Act.put, jjA, jjB, jjC, jjD, jjE, jjF])
  have HI : Ix [9, 10] := trivial
  iterate 2 (refine tkA HI (v := ?_) rfl (by kernel_rfl) (fun _ _ _ h => h) (.inl ⟨by rfl, fun wX hSw => ?_⟩) hHeld (fun HJ => ?_); rotate_left; (focus ((try dsimp only at hSw); go_simp; try with_reducible rfl)); clear HI; have HI := HJ; clear HJ; try simp only [Act.put, jjA, jjB, jjC, jjD, jjE, jjF])
  clear HI
  refine wpAnyH_done (by kernel_rfl) ?_ _
  go_wp2
  go_ret2
  exact ⟨rfl, HWB.out.trans (HV.out.mono HWB.out.size)⟩
 ·have f1 : decide (1099511627776 ≤ p.t) = true := by rw [decide_eq_true_iff]; omega
  clear h1 E c6
  refine wp_region_held_drew (S := (fun X => (∀ b o, b < V.heap.size → X.cell? ⟨b, o, none⟩ = V.cell? ⟨b, o, none⟩) ∧ Below V.heap.size V X)) (by kernel_rfl) ?_ (fun hHeld => ?_)
  ·exact kw_S (kw_drew HV.out)
  have HI : Ix [0, 1, 2, 3] := trivial
  iterate 4 (refine tkA HI (v := ?_) rfl (by kernel_rfl) (fun _ _ _ h => h) (.inl ⟨by rfl, fun wX hSw => ?_⟩) hHeld (fun HJ => ?_); rotate_left; (focus ((try dsimp only at hSw); go_simp; try with_reducible rfl)); clear HI; have HI := HJ; clear HJ; try simp only [Act.put, jjA, jjB, jjC, jjD, jjE, jjF])
  clear HI
  have HI : Ix [4, 5, 6, 7, 8, 9] := trivial
  iterate 6 (refine tkA HI (v := undef) rfl (by kernel_rfl) (fun _ _ _ h => h) (.inr ⟨by rfl, rfl⟩) hHeld (fun HJ => ?_); clear HI; have HI := HJ; clear HJ; try simp only [Act.put, jjA, jjB, jjC, jjD, jjE, jjF])
  clear HI
  have HI : Ix [10] := trivial
  (refine tkA HI (v := ?_) rfl (by kernel_rfl) (fun _ _ _ h => h) (.inl ⟨by rfl, fun wX hSw => ?_⟩) hHeld (fun HJ => ?_); rotate_left; (focus ((try dsimp only at hSw); go_simp; try with_reducible rfl)); clear HI; have HI := HJ; clear HJ; try simp only [Act.put, jjA, jjB, jjC, jjD, jjE, jjF])
  clear HI
  refine wpAnyH_done (by kernel_rfl) ?_ _
  go_wp2
  go_ret2
  exact ⟨rfl, HWB.out.trans (HV.out.drew.mono HWB.out.size)⟩
def RRd (w : World) (p : Pv) (e : Ending) (z : World) : Prop := ∃ a2 n2 c2 M, e = .returned (.tuple #[.slice a2 n2 c2, .bool true]) ∧ OwC z w.heap.size (.slice a2 n2 c2) n2 M ∧ abC M = flR (mergeN ((abI p.ll).filter (fun x => x.t == p.t))) ∧ Below w.heap.size w z
set_option maxRecDepth 100000 in
set_option maxHeartbeats 3200000 in
theorem rready_yes (p : Pv) (w : World) (h : PvD w w.heap.size p) (hs : PvS p) (h0 : 0 < p.hn) (E : p.t < 1099511627776 ∧ p.t ≤ minL p.hl) :
  Calls Tryz.prog 46 #[.agg #[.int .i64 p.i, .int .i64 p.n, .int .i64 p.d, .int .i64 p.t, .int .i64 p.s, .slice p.ma p.mn p.mc, .slice p.la p.ln p.lc, .slice p.ha p.hn p.hc, .slice p.aa p.an p.ac, .slice p.xa p.xn p.xc, .bool p.b]] w (RRd w p) := by
 have HN : Hk (0 < p.hn ∧ p.hn ≤ 1048576) := ⟨h0, hs.h⟩
 obtain ⟨lo, hlo⟩ : ∃ lo, minL p.hl = lo := ⟨_, rfl⟩
 rw [hlo] at E
 have HLOW := Hk.mk hlo
 have HSL := Hk.mk hs.l
 have HWB : Hk (Below w.heap.size w (w.alloc (.cells #[.int .i64 p.i, .int .i64 p.n, .int .i64 p.d, .int .i64 p.t, .int .i64 p.s, .slice p.ma p.mn p.mc, .slice p.la p.ln p.lc, .slice p.ha p.hn p.hc, .slice p.aa p.an p.ac, .slice p.xa p.xn p.xc, .bool p.b] 26))) := ⟨(Below.refl _ _).alloc (Nat.le_refl _) _⟩
 have hNW : (w.heap.size + 1) ≤ (w.alloc (.cells #[.int .i64 p.i, .int .i64 p.n, .int .i64 p.d, .int .i64 p.t, .int .i64 p.s, .slice p.ma p.mn p.mc, .slice p.la p.ln p.lc, .slice p.ha p.hn p.hc, .slice p.aa p.an p.ac, .slice p.xa p.xn p.xc, .bool p.b] 26)).heap.size := by simp
 have HB : Hk (Below (w.heap.size + 1) (w.alloc (.cells #[.int .i64 p.i, .int .i64 p.n, .int .i64 p.d, .int .i64 p.t, .int .i64 p.s, .slice p.ma p.mn p.mc, .slice p.la p.ln p.lc, .slice p.ha p.hn p.hc, .slice p.aa p.an p.ac, .slice p.xa p.xn p.xc, .bool p.b] 26)) (w.alloc (.cells #[.int .i64 p.i, .int .i64 p.n, .int .i64 p.d, .int .i64 p.t, .int .i64 p.s, .slice p.ma p.mn p.mc, .slice p.la p.ln p.lc, .slice p.ha p.hn p.hc, .slice p.aa p.an p.ac, .slice p.xa p.xn p.xc, .bool p.b] 26))) := ⟨Below.refl _ _⟩
 have HTR : Hk (∀ X, Below (w.heap.size + 1) (w.alloc (.cells #[.int .i64 p.i, .int .i64 p.n, .int .i64 p.d, .int .i64 p.t, .int .i64 p.s, .slice p.ma p.mn p.mc, .slice p.la p.ln p.lc, .slice p.ha p.hn p.hc, .slice p.aa p.an p.ac, .slice p.xa p.xn p.xc, .bool p.b] 26)) X → Below w.heap.size w X) := ⟨fun X hX => HWB.out.trans (hX.mono (by omega))⟩
 have HPB : Hk (Bk (w.alloc (.cells #[.int .i64 p.i, .int .i64 p.n, .int .i64 p.d, .int .i64 p.t, .int .i64 p.s, .slice p.ma p.mn p.mc, .slice p.la p.ln p.lc, .slice p.ha p.hn p.hc, .slice p.aa p.an p.ac, .slice p.xa p.xn p.xc, .bool p.b] 26)) w.heap.size #[.int .i64 p.i, .int .i64 p.n, .int .i64 p.d, .int .i64 p.t, .int .i64 p.s, .slice p.ma p.mn p.mc, .slice p.la p.ln p.lc, .slice p.ha p.hn p.hc, .slice p.aa p.an p.ac, .slice p.xa p.xn p.xc, .bool p.b]) := ⟨Bk.new w #[.int .i64 p.i, .int .i64 p.n, .int .i64 p.d, .int .i64 p.t, .int .i64 p.s, .slice p.ma p.mn p.mc, .slice p.la p.ln p.lc, .slice p.ha p.hn p.hc, .slice p.aa p.an p.ac, .slice p.xa p.xn p.xc, .bool p.b] 26⟩
 have HPD : Hk (∀ X, Below (w.alloc (.cells #[.int .i64 p.i, .int .i64 p.n, .int .i64 p.d, .int .i64 p.t, .int .i64 p.s, .slice p.ma p.mn p.mc, .slice p.la p.ln p.lc, .slice p.ha p.hn p.hc, .slice p.aa p.an p.ac, .slice p.xa p.xn p.xc, .bool p.b] 26)).heap.size (w.alloc (.cells #[.int .i64 p.i, .int .i64 p.n, .int .i64 p.d, .int .i64 p.t, .int .i64 p.s, .slice p.ma p.mn p.mc, .slice p.la p.ln p.lc, .slice p.ha p.hn p.hc, .slice p.aa p.an p.ac, .slice p.xa p.xn p.xc, .bool p.b] 26)) X → PvD X X.heap.size p) := ⟨fun X hX => h.later (HWB.out.trans (hX.mono HWB.out.size))⟩
 have HAA : Hk (∀ X, Below (w.alloc (.cells #[.int .i64 p.i, .int .i64 p.n, .int .i64 p.d, .int .i64 p.t, .int .i64 p.s, .slice p.ma p.mn p.mc, .slice p.la p.ln p.lc, .slice p.ha p.hn p.hc, .slice p.aa p.an p.ac, .slice p.xa p.xn p.xc, .bool p.b] 26)).heap.size (w.alloc (.cells #[.int .i64 p.i, .int .i64 p.n, .int .i64 p.d, .int .i64 p.t, .int .i64 p.s, .slice p.ma p.mn p.mc, .slice p.la p.ln p.lc, .slice p.ha p.hn p.hc, .slice p.aa p.an p.ac, .slice p.xa p.xn p.xc, .bool p.b] 26)) X → Nq X X.heap.size p.ha p.hn p.hl) := ⟨fun X hX => (HPD.out X hX).h⟩
 have HLL : Hk (∀ X, Below (w.alloc (.cells #[.int .i64 p.i, .int .i64 p.n, .int .i64 p.d, .int .i64 p.t, .int .i64 p.s, .slice p.ma p.mn p.mc, .slice p.la p.ln p.lc, .slice p.ha p.hn p.hc, .slice p.aa p.an p.ac, .slice p.xa p.xn p.xc, .bool p.b] 26)).heap.size (w.alloc (.cells #[.int .i64 p.i, .int .i64 p.n, .int .i64 p.d, .int .i64 p.t, .int .i64 p.s, .slice p.ma p.mn p.mc, .slice p.la p.ln p.lc, .slice p.ha p.hn p.hc, .slice p.aa p.an p.ac, .slice p.xa p.xn p.xc, .bool p.b] 26)) X → InD X X.heap.size p.la p.ln p.ll) := ⟨fun X hX => (HPD.out X hX).l⟩
 clear h hs h0 hlo HPD
 go_enter Tryz.func46, Tryz.ntmps46
 go_upto_region 1 with fail
 generalize (w.alloc (.cells #[.int .i64 p.i, .int .i64 p.n, .int .i64 p.d, .int .i64 p.t, .int .i64 p.s, .slice p.ma p.mn p.mc, .slice p.la p.ln p.lc, .slice p.ha p.hn p.hc, .slice p.aa p.an p.ac, .slice p.xa p.xn p.xc, .bool p.b] 26)) = V at *
 have HV : Hk (Below V.heap.size V V) := ⟨Below.refl _ _⟩
 have c3 : V.cell? ⟨w.heap.size, 3, none⟩ = some (.int .i64 p.t) := HPB.out.c 3
 have c7 : V.cell? ⟨w.heap.size, 7, none⟩ = some (.slice p.ha p.hn p.hc) := HPB.out.c 7
 have c6 : V.cell? ⟨w.heap.size, 6, none⟩ = some (.slice p.la p.ln p.lc) := HPB.out.c 6
 have hl := HPB.out.lt
 have HPC := Hk.mk (show (∀ X, Below V.heap.size V X → X.cell? ⟨w.heap.size, 3, none⟩ = some (.int .i64 p.t) ∧ X.cell? ⟨w.heap.size, 6, none⟩ = some (.slice p.la p.ln p.lc) ∧ w.heap.size < X.heap.size) from fun X hX => ⟨(hX.cell (p := ⟨w.heap.size, 3, none⟩) hl).trans c3, (hX.cell (p := ⟨w.heap.size, 6, none⟩) hl).trans c6, Nat.lt_of_lt_of_le hl hX.size⟩)
 clear HB hNW HTR HPB
 obtain ⟨h1, h2⟩ := E
 have f1 : decide (1099511627776 ≤ p.t) = false := by rw [decide_eq_false_iff_not]; omega
 have f2 : decide (lo < p.t) = false := by rw [decide_eq_false_iff_not]; omega
 clear h1 h2 c6
 refine wp_region_held_drew (S := (fun X => (∀ b o, b < V.heap.size → X.cell? ⟨b, o, none⟩ = V.cell? ⟨b, o, none⟩) ∧ Below V.heap.size V X)) (by kernel_rfl) ?_ (fun hHeld => ?_)
 ·exact kw_S (kw_drew HV.out)
 have HI : Ix [0, 1, 2, 3, 4, 5, 7, 8] := trivial
 iterate 8 (refine tkA HI (v := ?_) rfl (by kernel_rfl) (fun _ _ _ h => h) (.inl ⟨by rfl, fun wX hSw => ?_⟩) hHeld (fun HJ => ?_); rotate_left; (focus ((try dsimp only at hSw); go_simp; try with_reducible rfl)); clear HI; have HI := HJ; clear HJ; try simp only [Act.put, jjA, jjB, jjC, jjD, jjE, jjF])
 clear HI
 refine wpAnyH_ready (rs := [6]) (by kernel_rfl) (by simp) ?_
 refine AllReadyH.cons rfl (fun K hK => ?_) (AllReadyH.nil)
 go_simp
 ((go_at_call 32; (with_reducible refine (least_any p.ha p.hn p.hc p.hl _ (by first | exact HAA.out _ HV.out | exact HAA.out _ HV.out.drew) HN.out.1 HN.out.2).mono ?_); rintro e z ⟨rfl, hz⟩; rw [HLOW.out]; have hb := below_m hz; clear hz; have hB2 : Hk (Below V.heap.size V z) := ⟨by first | exact kw_step HV.out (Nat.le_refl _) hb | exact kw_step HV.out.drew (Nat.le_refl _) hb⟩; clear hb; replace HV := hB2; clear hB2))
 refine hK.out _ _ ?_ (fun hHeld => ?_)
 ·exact kw_S HV.out
 clear hK K
 (try simp only [Act.put, jjA, jjB, jjC, jjD, jjE, jjF])
 have HI : Ix [9, 10] := trivial
 iterate 2 (refine tkA HI (v := ?_) rfl (by kernel_rfl) (fun _ _ _ h => h) (.inl ⟨by rfl, fun wX hSw => ?_⟩) hHeld (fun HJ => ?_); rotate_left; (focus ((try dsimp only at hSw); go_simp; try with_reducible rfl)); clear HI; have HI := HJ; clear HJ; try simp only [Act.put, jjA, jjB, jjC, jjD, jjE, jjF])
 clear HI
 refine wpAnyH_done (by kernel_rfl) ?_ _
 clear c3 hHeld
 obtain ⟨c3, c6, hl⟩ := HPC.out _ HV.out
 go_upto_region 4 with (go_at_call 75; (with_reducible refine (rtake_any p.t p.la p.ln p.lc p.ll _ (HLL.out _ HV.out) HSL.out).mono ?_); rintro e z ⟨s1, n1, e1, s2, n2, e2, M1, M2, rfl, htk, ha1, ha2, hb⟩; have HTK := Hk.mk (htk.a.weak (base' := V.heap.size) HV.out.size); have HA1 := Hk.mk ha1; have HD1 := Hk.mk (smI_of htk.a.d (HLL.out _ HV.out) HSL.out (fun x hx => by rw [ha1] at hx; exact (List.mem_filter.1 hx).1) (by have h1 := congrArg List.length ha1; have h2 := List.length_filter_le (fun x : In => x.t == p.t) (abI p.ll); rw [abI_len] at h1; rw [abI_len] at h2; omega)); clear htk ha1 ha2; have hB2 : Hk (Below V.heap.size V z) := ⟨by first | exact kw_step HV.out (Nat.le_refl _) hb | exact kw_step HV.out.drew (Nat.le_refl _) hb⟩; clear hb; replace HV := hB2; clear hB2)
 go_wp2_with (go_at_call 76; ((with_reducible refine (rmerge_u _ s1 n1 e1 M1 _ HTK.out.d HD1.out ⟨rfl⟩).mono ?_); rintro e z ⟨a2, n2', c2, M, rfl, hoc, hab, hb⟩; have HOC := Hk.mk (hoc.weak (base' := V.heap.size) HV.out.size); have HAB := Hk.mk hab; clear hoc hab; have hB2 : Hk (Below V.heap.size V z) := ⟨by first | exact kw_step HV.out (Nat.le_refl _) hb | exact kw_step HV.out.drew (Nat.le_refl _) hb⟩; clear hb; replace HV := hB2; clear hB2))
 go_ret2
 exact ⟨a2, n2', c2, M, rfl, HOC.out.weak HWB.out.size, by rw [HAB.out, HA1.out], HWB.out.trans (HV.out.mono HWB.out.size)⟩
end Go.Proofs.YtdpblimhfmfbnaaGreat
namespace Go.Proofs.YtdpblimhfmfbnaaGreat
open Go.ChangeShapes Go.WideShapes Go.ChangeAt Go.RowKit Go.Deep
theorem vec22_of {H : Type} {enc : TypeId × Value → H} {w : World} {base : Nat} {spare : Nat → Bool} {held : Bool} {fuel : Nat} {x : DataW H × List MemPlace} {c0 c1 : Value}
  (hf : DataW.trod enc Tryz.prog w base spare held fuel 93 [c0, c1] = some x) : ∃ x y : Int, c0 = .int .i64 x ∧ c1 = .int .i64 y := by
 have h2 : Tryz.prog.cellsOf 2 = 1 := by kernel_rfl
 obtain ⟨ys, n', _, _, _, hyl, hg⟩ := DataW.trod_struct Tryz.underlying93 hf
 match ys, hyl with
 | [y0, y1], _ =>
  have g0 := hg 0 _ rfl
  have g1 := hg 1 _ rfl
  simp [h2] at g0 g1
  obtain ⟨x0, e0, _, w0⟩ := DataW.trod_int Tryz.underlying2 g0
  obtain ⟨x1, e1, _, w1⟩ := DataW.trod_int Tryz.underlying2 g1
  simp at e0 e1
  exact ⟨x0, x1, e0, e1⟩
def Asks22 (w : World) (a0 : Option Addr) (len cap : Nat) : Prop :=
 len ≤ cap ∧ cap ≤ 9223372036854775807 ∧ ∀ i, i < len → ∃ (b off : Nat) (p s k n : Int) (a : Option Addr) (m c : Nat) (u : List Int) (t wd h x y : Int) (ax : Option Addr) (nx cx : Nat) (ys : List Int), a0 = some ⟨b, off, none⟩ ∧ b < w.heap.size ∧ m ≤ 9223372036854775807 ∧ Nq w w.heap.size a m u ∧ (nx ≤ cx ∧ cx ≤ 9223372036854775807 ∧ (ax = none → cx = 0) ∧ By w w.heap.size ax nx ys) ∧
  w.cell? ⟨b, off + i * 11, none⟩ = some (.int .i64 p) ∧ w.cell? ⟨b, off + i * 11 + 1, none⟩ = some (.int .i64 s) ∧ w.cell? ⟨b, off + i * 11 + 2, none⟩ = some (.int .i64 k) ∧ w.cell? ⟨b, off + i * 11 + 3, none⟩ = some (.int .i64 n) ∧ w.cell? ⟨b, off + i * 11 + 4, none⟩ = some (.slice a m c) ∧ w.cell? ⟨b, off + i * 11 + 5, none⟩ = some (.int .i64 t) ∧ w.cell? ⟨b, off + i * 11 + 6, none⟩ = some (.int .i64 wd) ∧ w.cell? ⟨b, off + i * 11 + 7, none⟩ = some (.int .i64 h) ∧ w.cell? ⟨b, off + i * 11 + 8, none⟩ = some (.int .i64 x) ∧ w.cell? ⟨b, off + i * 11 + 9, none⟩ = some (.int .i64 y) ∧ w.cell? ⟨b, off + i * 11 + 10, none⟩ = some (.slice ax nx cx)
end Go.Proofs.YtdpblimhfmfbnaaGreat
namespace Go.Proofs.YtdpblimhfmfbnaaGreat
open Go.ChangeShapes Go.WideShapes Go.ChangeAt Go.RowKit Go.Deep
def Szd {H : Type} (t : TypeId) (d : DataW H) : Prop := ∀ n, n ∈ d.weights Tryz.prog t → n ≤ reachBytes
theorem weightsAll_in {H : Type} {P : Program} {e : TypeId} : ∀ {l : List (DataW H)} {d : DataW H}, d ∈ l → ∀ n ∈ d.weights P e, n ∈ DataW.weightsAll P e l
 | d' :: r, d, hd, n, hn => by
  simp only [DataW.weightsAll, List.mem_append]
  rcases List.mem_cons.1 hd with rfl | h
  ·exact Or.inl hn
  ·exact Or.inr (weightsAll_in h n hn)
theorem szd_slice {H : Type} {t e : TypeId} {elems spare : List (DataW H)} (h : Szd t (.slice elems spare)) (hu : Tryz.prog.underlying t = some (.slice e)) : (elems.length + spare.length) * Tryz.prog.bytesOf e ≤ reachBytes ∧ ∀ d, d ∈ elems → Szd e d := by
 have hw : (DataW.slice elems spare).weights Tryz.prog t = (elems.length + spare.length) * Tryz.prog.bytesOf e :: (DataW.weightsAll Tryz.prog e elems ++ DataW.weightsAll Tryz.prog e spare) := by simp only [DataW.weights, hu]
 unfold Szd at h
 rw [hw] at h
 exact ⟨h _ List.mem_cons_self, fun d hd n hn => h n (List.mem_cons_of_mem _ (List.mem_append_left _ (weightsAll_in hd n hn)))⟩
theorem szd_agg {H : Type} {t : TypeId} {fs : Array Field} {parts : List (DataW H)} (h : Szd t (.agg parts)) (hu : Tryz.prog.underlying t = some (.struct fs)) {i : Nat} {ty : TypeId} {d : DataW H} (hi : (fs.toList.map (·.type))[i]? = some ty) (hd : parts[i]? = some d) : Szd ty d := by
 have hw : (DataW.agg parts).weights Tryz.prog t = DataW.weightsEach Tryz.prog (fs.toList.map (·.type)) parts := by simp only [DataW.weights, hu]
 unfold Szd at h
 rw [hw] at h
 exact fun n hn => h n (DataW.weights_mem_each hi hd n hn)
theorem exists_list {α : Type} {P : Nat → α → Prop} : ∀ n, (∀ i, i < n → ∃ x, P i x) → ∃ l : List α, l.length = n ∧ ∀ i (h : i < l.length), P i l[i]
 | 0, _ => ⟨[], rfl, fun i h => absurd h (by simp)⟩
 | n + 1, h => by
  obtain ⟨l, hl, hp⟩ := exists_list n fun i hi => h i (by omega)
  obtain ⟨x, hx⟩ := h n (by omega)
  refine ⟨l ++ [x], by simp [hl], fun i hi => ?_⟩
  by_cases e : i < l.length
  ·rw [List.getElem_append_left e]; exact hp i e
  ·obtain rfl : i = l.length := by simp at hi; omega
   rw [List.getElem_append_right (Nat.le_refl _)]
   simp
   rw [hl]
   exact hx
section
variable {H : Type} {enc : TypeId × Value → H} {w : World} {base : Nat} {held : Bool} {fuel : Nat} {x : DataW H × List MemPlace}
theorem ints_sz {v : Value} (hf : DataW.trod enc Tryz.prog w base (fun _ => true) held fuel 23 [v] = some x) (hz : Szd 23 x.1) : ∃ a m c u, v = .slice a m c ∧ m ≤ 17592186044416 ∧ Nq w w.heap.size a m u := by
 obtain ⟨a, m, c, u, rfl, _, hq⟩ := nq_of hf
 refine ⟨a, m, c, u, rfl, ?_, hq⟩
 rcases open_slice Tryz.underlying23 hf with ⟨hcs, _⟩ | ⟨a', l, c', m', n', D, Pl, hcs, _, hl, hm, hmm, hx, hi⟩
 ·simp at hcs
  omega
 ·simp at hcs
  rw [hx] at hz
  have h8 : Tryz.prog.bytesOf 3 = 8 := by kernel_rfl
  have := (szd_slice hz Tryz.underlying23).1
  rw [h8] at this
  simp [reachBytes] at this
  omega
theorem com27_of {c0 c1 c2 c3 c4 c5 c6 c7 c8 c9 : Value}
  (hf : DataW.trod enc Tryz.prog w base (fun _ => true) held fuel 95 [c0, c1, c2, c3, c4, c5, c6, c7, c8, c9] = some x) (hz : Szd 95 x.1) : ∃ q : Cv, [c0, c1, c2, c3, c4, c5, c6, c7, c8, c9] = q.cs ∧ q.m ≤ 17592186044416 ∧ Nq w w.heap.size q.a q.m q.u := by
 have h1 : Tryz.prog.cellsOf 3 = 1 := by kernel_rfl
 have h3 : Tryz.prog.cellsOf 23 = 1 := by kernel_rfl
 have h4 : Tryz.prog.cellsOf 93 = 2 := by kernel_rfl
 obtain ⟨ys, n', _, hx, _, hyl, hg⟩ := DataW.trod_struct Tryz.underlying95 hf
 match ys, hyl with
 | [y0, y1, y2, y3, y4, y5, y6, y7, y8], _ =>
  have g0 := hg 0 _ rfl
  have g1 := hg 1 _ rfl
  have g2 := hg 2 _ rfl
  have g3 := hg 3 _ rfl
  have g4 := hg 4 _ rfl
  have g5 := hg 5 _ rfl
  have g6 := hg 6 _ rfl
  have g7 := hg 7 _ rfl
  have g8 := hg 8 _ rfl
  simp [h1, h3, h4] at g0 g1 g2 g3 g4 g5 g6 g7 g8
  rw [hx] at hz
  have hz4 := szd_agg hz Tryz.underlying95 (i := 4) (ty := 23) (d := y4.1) rfl rfl
  obtain ⟨x0, e0, _, w0⟩ := DataW.trod_int Tryz.underlying3 g0
  obtain ⟨x1, e1, _, w1⟩ := DataW.trod_int Tryz.underlying3 g1
  obtain ⟨x2, e2, _, w2⟩ := DataW.trod_int Tryz.underlying3 g2
  obtain ⟨x3, e3, _, w3⟩ := DataW.trod_int Tryz.underlying3 g3
  obtain ⟨x5, e5, _, w5⟩ := DataW.trod_int Tryz.underlying3 g5
  obtain ⟨x6, e6, _, w6⟩ := DataW.trod_int Tryz.underlying3 g6
  obtain ⟨x7, e7, _, w7⟩ := DataW.trod_int Tryz.underlying3 g7
  obtain ⟨a, m, c, u, rfl, hm, hq⟩ := ints_sz g4 hz4
  obtain ⟨x8, x9, rfl, rfl⟩ := vec22_of g8
  simp at e0 e1 e2 e3 e5 e6 e7
  subst e0 e1 e2 e3 e5 e6 e7
  exact ⟨⟨x0, x1, x2, x3, a, m, c, x5, x6, x7, x8, x9, u⟩, rfl, hm, hq⟩
theorem spot_of {a : Addr} {u : Value} (h : w.cell? (a.add 0) = some u) : a.spot = none := by
 simpa [Addr.add] using World.cell?_spot h
theorem add_add27 (a : Addr) (m k : Nat) : (a.add m).add k = a.add (m + k) := by
 obtain ⟨b, off, spot⟩ := a
 unfold Addr.add
 by_cases e1 : m = 0
 ·subst e1; simp
 ·by_cases e2 : k = 0
  ·subst e2; simp
  ·have : ¬ m + k = 0 := by omega
   simp [e1, e2, this]
   try omega
theorem cms27_of {v : Value} (hf : DataW.trod enc Tryz.prog w base (fun _ => true) held fuel 38 [v] = some x) (hz : Szd 38 x.1) : ∃ a n c l, v = .slice a n c ∧ n ≤ 17592186044416 ∧ CmD w w.heap.size a n l ∧ ∀ y, y ∈ l → y.m ≤ 17592186044416 := by
 rcases open_slice Tryz.underlying38 hf with ⟨hcs, _⟩ | ⟨a', n, c', m', n', D, Pl, hcs, _, hl, hm, hmm, hx, hi⟩
 ·simp at hcs
  subst hcs
  exact ⟨none, 0, 0, [], rfl, by omega, CmD.nil _ _ _, fun y hy => by cases hy⟩
 ·simp at hcs
  subst hcs
  rw [hx] at hz
  have hC : Tryz.prog.cellsOf 95 = 10 := by kernel_rfl
  have h8 : Tryz.prog.bytesOf 95 = 96 := by kernel_rfl
  obtain ⟨hb, hel⟩ := szd_slice hz Tryz.underlying38
  rw [h8] at hb
  simp [reachBytes] at hb
  have key : ∀ i, i < n → ∃ q : Cv, (∀ j, j < 10 → w.cell? (a'.add (i * 10 + j)) = q.cs[j]?) ∧ q.m ≤ 17592186044416 ∧ Nq w w.heap.size q.a q.m q.u := fun i hlt => by
   obtain ⟨cs', hc, ht⟩ := hi i (by rw [hmm]; simp; omega)
   rw [hC] at hc
   obtain ⟨_, hcl, hat⟩ := World.cells?_some hc
   match cs', hcl with
   | [c0, c1, c2, c3, c4, c5, c6, c7, c8, c9], _ =>
    obtain ⟨q, hq, h1, h2⟩ := com27_of ht (hel _ (List.mem_map.2 ⟨i, List.mem_range.2 hlt, rfl⟩))
    refine ⟨q, fun j hj => ?_, h1, h2⟩
    rw [← hq, ← hat j hj]
    rw [add_add27]
  obtain ⟨l, hll, hlp⟩ := exists_list n key
  refine ⟨some a', n, c', l, rfl, by omega, ⟨⟨hll, fun hn => ?_⟩, fun y hy => ?_⟩, fun y hy => ?_⟩
  ·have hs : a'.spot = none := by
    have := (hlp 0 (by omega)).1 0 (by omega)
    exact spot_of this
   obtain ⟨b, off, spot⟩ := a'
   simp only at hs
   subst hs
   refine ⟨b, off, rfl, ?_, fun k hk j hj => ?_⟩
   ·have := (hlp 0 (by omega)).1 0 (by omega)
    rw [aq_plus] at this
    exact World.block_lt_of_cell? _ _ this
   ·have := (hlp k hk).1 j hj
    rw [aq_plus] at this
    rw [show off + k * shC.z + j = off + (k * 10 + j) by show off + k * 10 + j = _; omega, this]
    rfl
  ·obtain ⟨i, hi', rfl⟩ := List.mem_iff_getElem.1 hy
   exact (hlp i hi').2.2
  ·obtain ⟨i, hi', rfl⟩ := List.mem_iff_getElem.1 hy
   exact (hlp i hi').2.1
theorem inp27_of {c0 c1 c2 : Value} (hf : DataW.trod enc Tryz.prog w base (fun _ => true) held fuel 40 [c0, c1, c2] = some x) (hz : Szd 40 x.1) : ∃ q : Iv, [c0, c1, c2] = q.cs ∧ q.n ≤ 17592186044416 ∧ CmD w w.heap.size q.a q.n q.l ∧ ∀ y, y ∈ q.l → y.m ≤ 17592186044416 := by
 have h1 : Tryz.prog.cellsOf 3 = 1 := by kernel_rfl
 have h3 : Tryz.prog.cellsOf 38 = 1 := by kernel_rfl
 obtain ⟨ys, n', _, hx, _, hyl, hg⟩ := DataW.trod_struct Tryz.underlying40 hf
 match ys, hyl with
 | [y0, y1, y2], _ =>
  have g0 := hg 0 _ rfl
  have g1 := hg 1 _ rfl
  have g2 := hg 2 _ rfl
  simp [h1, h3] at g0 g1 g2
  rw [hx] at hz
  have hz2 := szd_agg hz Tryz.underlying40 (i := 2) (ty := 38) (d := y2.1) rfl rfl
  obtain ⟨x0, e0, _, w0⟩ := DataW.trod_int Tryz.underlying3 g0
  obtain ⟨x1, e1, _, w1⟩ := DataW.trod_int Tryz.underlying3 g1
  obtain ⟨a, n, c, l, rfl, hn, hq, hm⟩ := cms27_of g2 hz2
  simp at e0 e1
  subst e0 e1
  exact ⟨⟨x0, x1, a, n, c, l⟩, rfl, hn, hq, hm⟩
theorem ins27_of {v : Value} (hf : DataW.trod enc Tryz.prog w base (fun _ => true) held fuel 22 [v] = some x) (hz : Szd 22 x.1) : ∃ a n c l, v = .slice a n c ∧ n ≤ 17592186044416 ∧ InD w w.heap.size a n l ∧ BdI l := by
 rcases open_slice Tryz.underlying22 hf with ⟨hcs, _⟩ | ⟨a', n, c', m', n', D, Pl, hcs, _, hl, hm, hmm, hx, hi⟩
 ·simp at hcs
  subst hcs
  exact ⟨none, 0, 0, [], rfl, by omega, InD.nil _ _ _, ⟨fun y hy => (by cases hy), fun y hy => (by cases hy)⟩⟩
 ·simp at hcs
  subst hcs
  rw [hx] at hz
  have hC : Tryz.prog.cellsOf 40 = 3 := by kernel_rfl
  have h8 : Tryz.prog.bytesOf 40 = 40 := by kernel_rfl
  obtain ⟨hb, hel⟩ := szd_slice hz Tryz.underlying22
  rw [h8] at hb
  simp [reachBytes] at hb
  have key : ∀ i, i < n → ∃ q : Iv, (∀ j, j < 3 → w.cell? (a'.add (i * 3 + j)) = q.cs[j]?) ∧ q.n ≤ 17592186044416 ∧ CmD w w.heap.size q.a q.n q.l ∧ ∀ y, y ∈ q.l → y.m ≤ 17592186044416 := fun i hlt => by
   obtain ⟨cs', hc, ht⟩ := hi i (by rw [hmm]; simp; omega)
   rw [hC] at hc
   obtain ⟨_, hcl, hat⟩ := World.cells?_some hc
   match cs', hcl with
   | [c0, c1, c2], _ =>
    obtain ⟨q, hq, h1, h2⟩ := inp27_of ht (hel _ (List.mem_map.2 ⟨i, List.mem_range.2 hlt, rfl⟩))
    refine ⟨q, fun j hj => ?_, h1, h2⟩
    rw [← hq, ← hat j hj]
    rw [add_add27]
  obtain ⟨l, hll, hlp⟩ := exists_list n key
  refine ⟨some a', n, c', l, rfl, by omega, ⟨⟨hll, fun hn => ?_⟩, fun y hy => ?_⟩, ⟨fun y hy => ?_, fun y hy => ?_⟩⟩
  ·have hs : a'.spot = none := by
    have := (hlp 0 (by omega)).1 0 (by omega)
    exact spot_of this
   obtain ⟨b, off, spot⟩ := a'
   simp only at hs
   subst hs
   refine ⟨b, off, rfl, ?_, fun k hk j hj => ?_⟩
   ·have := (hlp 0 (by omega)).1 0 (by omega)
    rw [aq_plus] at this
    exact World.block_lt_of_cell? _ _ this
   ·have := (hlp k hk).1 j hj
    rw [aq_plus] at this
    rw [show off + k * shI.z + j = off + (k * 3 + j) by show off + k * 3 + j = _; omega, this]
    rfl
  ·obtain ⟨i, hi', rfl⟩ := List.mem_iff_getElem.1 hy
   exact (hlp i hi').2.2.1
  ·obtain ⟨i, hi', rfl⟩ := List.mem_iff_getElem.1 hy
   exact (hlp i hi').2.1
  ·obtain ⟨i, hi', rfl⟩ := List.mem_iff_getElem.1 hy
   exact (hlp i hi').2.2.2
end
def Asks27 (w : World) (v : Value) : Prop := ∃ (la : Option Addr) (ln lc : Nat) (l : List Iv) (ma : Option Addr) (mn mc : Nat) (m : List Iv) (ta : Option Addr) (tn tc : Nat) (ts : List Int),
 v = .agg #[.slice la ln lc, .slice ma mn mc, .slice ta tn tc] ∧ (ln ≤ 17592186044416 ∧ InD w w.heap.size la ln l ∧ BdI l) ∧ (mn ≤ 17592186044416 ∧ InD w w.heap.size ma mn m ∧ BdI m) ∧ (tn ≤ 17592186044416 ∧ Nq w w.heap.size ta tn ts)
end Go.Proofs.YtdpblimhfmfbnaaGreat
namespace Go.Proofs.YtdpblimhfmfbnaaGreat
open Go.ChangeShapes Go.WideShapes Go.ChangeAt Go.RowKit Go.Deep
section
variable {H : Type} {enc : TypeId × Value → H} {w : World} {base : Nat} {held : Bool} {fuel : Nat} {x : DataW H × List MemPlace}
theorem u64s_sz {v : Value} (hf : DataW.trod enc Tryz.prog w base (fun _ => true) held fuel 24 [v] = some x) (hz : Szd 24 x.1) : ∃ a m c u, v = .slice a m c ∧ m ≤ 17592186044416 ∧ Qv shU w w.heap.size a m u := by
 have hsz : ∀ a' n c', [v] = [Value.slice (some a') n c'] → n ≤ 17592186044416 := fun a0 n0 c0 hv => by
  rcases open_slice Tryz.underlying24 hf with ⟨hcs, _⟩ | ⟨a', m, c', m', n', D, Pl, hcs, _, hl, hm, hmm, hx, hi⟩
  ·rw [hcs] at hv
   simp at hv
  ·rw [hcs] at hv
   simp at hv
   rw [hx] at hz
   have h8 : Tryz.prog.bytesOf 41 = 8 := by kernel_rfl
   have := (szd_slice hz Tryz.underlying24).1
   rw [h8] at this
   simp [reachBytes] at this
   omega
 rcases open_ints Tryz.underlying24 Tryz.underlying41 (by kernel_rfl) hf with ⟨hcs, _⟩ | ⟨a, l, c, zs, hcs, _, hl, hm, hzl, _, hc, hwf⟩
 ·simp at hcs; subst hcs
  exact ⟨none, 0, 0, [], rfl, by omega, ⟨rfl, fun h => absurd h (by omega)⟩⟩
 ·have hn := hsz a l c hcs
  simp at hcs; subst hcs
  have hz2 : l ≤ zs.length := by rw [hzl]; split <;> omega
  refine ⟨_, _, _, zs.take l, rfl, hn, by simp; omega, fun hn => ?_⟩
  obtain ⟨b, off, spot⟩ := a
  have hs : spot = none := by
   have h0 := World.cell?_spot (hc 0 (by omega))
   simpa [Addr.add] using h0
  subst hs
  refine ⟨b, off, rfl, ?_, fun k hk j hj => ?_⟩
  ·have := hc 0 (by omega); rw [aq_plus] at this; exact World.block_lt_of_cell? _ _ this
  ·obtain rfl : j = 0 := by
    have : shU.z = 1 := rfl
    omega
   have hk2 : k < l := by simp at hk; omega
   have := hc k (by omega)
   rw [aq_plus] at this
   rw [show off + k * shU.z + 0 = off + k by show off + k * 1 + 0 = _; omega, this]
   show _ = some (Value.int .u64 _)
   congr 2
   rw [List.getD_eq_getElem?_getD, List.getElem?_eq_getElem (by omega)]
   simp
structure BdP (p : Pv) : Prop where
 m : p.mn ≤ 17592186044416
 l : p.ln ≤ 17592186044416
 h : p.hn ≤ 17592186044416
 a : p.an ≤ 17592186044416
 x : p.xn ≤ 17592186044416
 mb : BdI p.ml
 lb : BdI p.ll
set_option maxHeartbeats 1600000 in
theorem peer28_of {c0 c1 c2 c3 c4 c5 c6 c7 c8 c9 c10 : Value}
  (hf : DataW.trod enc Tryz.prog w base (fun _ => true) held fuel 26 [c0, c1, c2, c3, c4, c5, c6, c7, c8, c9, c10] = some x) (hz : Szd 26 x.1) : ∃ p : Pv, [c0, c1, c2, c3, c4, c5, c6, c7, c8, c9, c10] = [.int .i64 p.i, .int .i64 p.n, .int .i64 p.d, .int .i64 p.t, .int .i64 p.s, .slice p.ma p.mn p.mc, .slice p.la p.ln p.lc, .slice p.ha p.hn p.hc, .slice p.aa p.an p.ac, .slice p.xa p.xn p.xc, .bool p.b] ∧ PvD w w.heap.size p ∧ BdP p := by
 have h1 : Tryz.prog.cellsOf 3 = 1 := by kernel_rfl
 have h2 : Tryz.prog.cellsOf 22 = 1 := by kernel_rfl
 have h3 : Tryz.prog.cellsOf 23 = 1 := by kernel_rfl
 have h4 : Tryz.prog.cellsOf 24 = 1 := by kernel_rfl
 have h5 : Tryz.prog.cellsOf 4 = 1 := by kernel_rfl
 obtain ⟨ys, n', _, hx, _, hyl, hg⟩ := DataW.trod_struct Tryz.underlying26 hf
 match ys, hyl with
 | [y0, y1, y2, y3, y4, y5, y6, y7, y8, y9, y10], _ =>
  have g0 := hg 0 _ rfl
  have g1 := hg 1 _ rfl
  have g2 := hg 2 _ rfl
  have g3 := hg 3 _ rfl
  have g4 := hg 4 _ rfl
  have g5 := hg 5 _ rfl
  have g6 := hg 6 _ rfl
  have g7 := hg 7 _ rfl
  have g8 := hg 8 _ rfl
  have g9 := hg 9 _ rfl
  have g10 := hg 10 _ rfl
  simp [h1, h2, h3, h4, h5] at g0 g1 g2 g3 g4 g5 g6 g7 g8 g9 g10
  rw [hx] at hz
  have z5 := szd_agg hz Tryz.underlying26 (i := 5) (ty := 22) (d := y5.1) rfl rfl
  have z6 := szd_agg hz Tryz.underlying26 (i := 6) (ty := 22) (d := y6.1) rfl rfl
  have z7 := szd_agg hz Tryz.underlying26 (i := 7) (ty := 23) (d := y7.1) rfl rfl
  have z8 := szd_agg hz Tryz.underlying26 (i := 8) (ty := 23) (d := y8.1) rfl rfl
  have z9 := szd_agg hz Tryz.underlying26 (i := 9) (ty := 24) (d := y9.1) rfl rfl
  obtain ⟨x0, e0, _, _⟩ := DataW.trod_int Tryz.underlying3 g0
  obtain ⟨x1, e1, _, _⟩ := DataW.trod_int Tryz.underlying3 g1
  obtain ⟨x2, e2, _, _⟩ := DataW.trod_int Tryz.underlying3 g2
  obtain ⟨x3, e3, _, _⟩ := DataW.trod_int Tryz.underlying3 g3
  obtain ⟨x4, e4, _, _⟩ := DataW.trod_int Tryz.underlying3 g4
  obtain ⟨b, e10, _⟩ := DataW.trod_bool Tryz.underlying4 g10
  obtain ⟨ma, mn, mc, ml, rfl, m1, m2, m3⟩ := ins27_of g5 z5
  obtain ⟨la, ln, lc, ll, rfl, l1, l2, l3⟩ := ins27_of g6 z6
  obtain ⟨ha, hn, hc, hl, rfl, k1, k2⟩ := ints_sz g7 z7
  obtain ⟨aa, an, ac, al, rfl, a1, a2⟩ := ints_sz g8 z8
  obtain ⟨xa, xn, xc, xl, rfl, u1, u2⟩ := u64s_sz g9 z9
  simp at e0 e1 e2 e3 e4 e10
  subst e0 e1 e2 e3 e4 e10
  exact ⟨⟨x0, x1, x2, x3, x4, ma, mn, mc, ml, la, ln, lc, ll, ha, hn, hc, hl, aa, an, ac, al, xa, xn, xc, xl, b⟩, rfl, ⟨m2, l2, k2, a2, u2⟩, ⟨m1, l1, k1, a1, u1, m3, l3⟩⟩
end
end Go.Proofs.YtdpblimhfmfbnaaGreat
namespace Go.Proofs.YtdpblimhfmfbnaaGreat
open Go.ChangeShapes Go.WideShapes Go.ChangeAt Go.RowKit Go.Deep
structure Nv where
 f : Int
 t : Int
 q : Iv
 d : Int
 h : Int
 v : Int
deriving Inhabited
def Nv.cs (e : Nv) : List Value := [.int .i64 e.f, .int .i64 e.t, .int .i64 e.q.t, .int .i64 e.q.p, .slice e.q.a e.q.n e.q.c, .int .i64 e.d, .int .u64 e.h, .int .i64 e.v]
structure Av where
 o : Int
 la : Option Addr
 ln : Nat
 lc : Nat
 ll : List Cv
 e : Nv
 b : Bool
 h : Int
deriving Inhabited
def Av.cs (x : Av) : List Value := [.int .i64 x.o, .slice x.la x.ln x.lc, .int .i64 x.e.f, .int .i64 x.e.t, .int .i64 x.e.q.t, .int .i64 x.e.q.p, .slice x.e.q.a x.e.q.n x.e.q.c, .int .i64 x.e.d, .int .u64 x.e.h, .int .i64 x.e.v, .bool x.b, .int .u64 x.h]
def shA : Sh Av := ⟨Av.cs, 12, fun _ => rfl, fun x u hu => by
 simp [Av.cs] at hu
 rcases hu with rfl | rfl | rfl | rfl | rfl | rfl | rfl | rfl | rfl | rfl | rfl | rfl <;> rfl⟩
structure AvD (w : World) (B : Nat) (x : Av) : Prop where
 l : CmD w B x.la x.ln x.ll
 n : CmD w B x.e.q.a x.e.q.n x.e.q.l
 l1 : x.ln ≤ 17592186044416
 l2 : ∀ y, y ∈ x.ll → y.m ≤ 17592186044416
 n1 : x.e.q.n ≤ 17592186044416
 n2 : ∀ y, y ∈ x.e.q.l → y.m ≤ 17592186044416
structure AsD (w : World) (B : Nat) (a : Option Addr) (n : Nat) (l : List Av) : Prop where
 q : Qv shA w B a n l
 u : ∀ x, x ∈ l → AvD w B x
section
variable {H : Type} {enc : TypeId × Value → H} {w : World} {base : Nat} {held : Bool} {fuel : Nat} {x : DataW H × List MemPlace}
set_option maxHeartbeats 1600000 in
theorem note28_of {c0 c1 c2 c3 c4 c5 c6 c7 : Value}
  (hf : DataW.trod enc Tryz.prog w base (fun _ => true) held fuel 43 [c0, c1, c2, c3, c4, c5, c6, c7] = some x) (hz : Szd 43 x.1) : ∃ e : Nv, [c0, c1, c2, c3, c4, c5, c6, c7] = e.cs ∧ CmD w w.heap.size e.q.a e.q.n e.q.l ∧ e.q.n ≤ 17592186044416 ∧ ∀ y, y ∈ e.q.l → y.m ≤ 17592186044416 := by
 have h1 : Tryz.prog.cellsOf 3 = 1 := by kernel_rfl
 have h2 : Tryz.prog.cellsOf 40 = 3 := by kernel_rfl
 have h4 : Tryz.prog.cellsOf 41 = 1 := by kernel_rfl
 obtain ⟨ys, n', _, hx, _, hyl, hg⟩ := DataW.trod_struct Tryz.underlying43 hf
 match ys, hyl with
 | [y0, y1, y2, y3, y4, y5], _ =>
  have g0 := hg 0 _ rfl
  have g1 := hg 1 _ rfl
  have g2 := hg 2 _ rfl
  have g3 := hg 3 _ rfl
  have g4 := hg 4 _ rfl
  have g5 := hg 5 _ rfl
  simp [h1, h2, h4] at g0 g1 g2 g3 g4 g5
  rw [hx] at hz
  have z2 := szd_agg hz Tryz.underlying43 (i := 2) (ty := 40) (d := y2.1) rfl rfl
  obtain ⟨x0, e0, _, _⟩ := DataW.trod_int Tryz.underlying3 g0
  obtain ⟨x1, e1, _, _⟩ := DataW.trod_int Tryz.underlying3 g1
  obtain ⟨q, hq, q1, q2, q3⟩ := inp27_of g2 z2
  obtain ⟨x3, e3, _, _⟩ := DataW.trod_int Tryz.underlying3 g3
  obtain ⟨x4, e4, _, _⟩ := DataW.trod_int Tryz.underlying41 g4
  obtain ⟨x5, e5, _, _⟩ := DataW.trod_int Tryz.underlying3 g5
  simp at e0 e1 e3 e4 e5
  simp [Iv.cs] at hq
  obtain ⟨rfl, rfl, rfl⟩ := hq
  subst e0 e1 e3 e4 e5
  exact ⟨⟨x0, x1, q, x3, x4, x5⟩, rfl, q2, q1, q3⟩
set_option maxHeartbeats 1600000 in
theorem act28_of {c0 c1 c2 c3 c4 c5 c6 c7 c8 c9 c10 c11 : Value}
  (hf : DataW.trod enc Tryz.prog w base (fun _ => true) held fuel 45 [c0, c1, c2, c3, c4, c5, c6, c7, c8, c9, c10, c11] = some x) (hz : Szd 45 x.1) : ∃ v : Av, [c0, c1, c2, c3, c4, c5, c6, c7, c8, c9, c10, c11] = v.cs ∧ AvD w w.heap.size v := by
 have h1 : Tryz.prog.cellsOf 3 = 1 := by kernel_rfl
 have h2 : Tryz.prog.cellsOf 38 = 1 := by kernel_rfl
 have h3 : Tryz.prog.cellsOf 43 = 8 := by kernel_rfl
 have h4 : Tryz.prog.cellsOf 41 = 1 := by kernel_rfl
 have h5 : Tryz.prog.cellsOf 4 = 1 := by kernel_rfl
 obtain ⟨ys, n', _, hx, _, hyl, hg⟩ := DataW.trod_struct Tryz.underlying45 hf
 match ys, hyl with
 | [y0, y1, y2, y3, y4], _ =>
  have g0 := hg 0 _ rfl
  have g1 := hg 1 _ rfl
  have g2 := hg 2 _ rfl
  have g3 := hg 3 _ rfl
  have g4 := hg 4 _ rfl
  simp [h1, h2, h3, h4, h5] at g0 g1 g2 g3 g4
  rw [hx] at hz
  have z1 := szd_agg hz Tryz.underlying45 (i := 1) (ty := 38) (d := y1.1) rfl rfl
  have z2 := szd_agg hz Tryz.underlying45 (i := 2) (ty := 43) (d := y2.1) rfl rfl
  obtain ⟨x0, e0, _, _⟩ := DataW.trod_int Tryz.underlying3 g0
  obtain ⟨la, ln, lc, ll, rfl, l1, l2, l3⟩ := cms27_of g1 z1
  obtain ⟨e, he, n1, n2, n3⟩ := note28_of g2 z2
  obtain ⟨b, e3, _⟩ := DataW.trod_bool Tryz.underlying4 g3
  obtain ⟨x4, e4, _, _⟩ := DataW.trod_int Tryz.underlying41 g4
  simp at e0 e3 e4
  simp [Nv.cs] at he
  obtain ⟨rfl, rfl, rfl, rfl, rfl, rfl, rfl, rfl⟩ := he
  subst e0 e3 e4
  exact ⟨⟨x0, la, ln, lc, ll, e, b, x4⟩, rfl, ⟨l2, n1, l1, l3, n2, n3⟩⟩
set_option maxRecDepth 100000 in
theorem acts28_of {v : Value} (hf : DataW.trod enc Tryz.prog w base (fun _ => true) held fuel 27 [v] = some x) (hz : Szd 27 x.1) : ∃ a n c l, v = .slice a n c ∧ n ≤ 17592186044416 ∧ AsD w w.heap.size a n l := by
 rcases open_slice Tryz.underlying27 hf with ⟨hcs, _⟩ | ⟨a', n, c', m', n', D, Pl, hcs, _, hl, hm, hmm, hx, hi⟩
 ·simp at hcs
  subst hcs
  exact ⟨none, 0, 0, [], rfl, by omega, ⟨⟨rfl, fun h => absurd h (by omega)⟩, fun y hy => by cases hy⟩⟩
 ·simp at hcs
  subst hcs
  rw [hx] at hz
  have hC : Tryz.prog.cellsOf 45 = 12 := by kernel_rfl
  have h8 : 8 ≤ Tryz.prog.bytesOf 45 := by decide +kernel
  obtain ⟨hb, hel⟩ := szd_slice hz Tryz.underlying27
  simp [reachBytes] at hb
  have key : ∀ i, i < n → ∃ q : Av, (∀ j, j < 12 → w.cell? (a'.add (i * 12 + j)) = q.cs[j]?) ∧ AvD w w.heap.size q := fun i hlt => by
   obtain ⟨cs', hc, ht⟩ := hi i (by rw [hmm]; simp; omega)
   rw [hC] at hc
   obtain ⟨_, hcl, hat⟩ := World.cells?_some hc
   match cs', hcl with
   | [c0, c1, c2, c3, c4, c5, c6, c7, c8, c9, c10, c11], _ =>
    obtain ⟨q, hq, h1⟩ := act28_of ht (hel _ (List.mem_map.2 ⟨i, List.mem_range.2 hlt, rfl⟩))
    refine ⟨q, fun j hj => ?_, h1⟩
    rw [← hq, ← hat j hj]
    rw [add_add27]
  obtain ⟨l, hll, hlp⟩ := exists_list n key
  have hn17 : n ≤ 17592186044416 := by
   have h9 := Nat.mul_le_mul_left n h8
   have h10 : n * Tryz.prog.bytesOf 45 ≤ (n + (m' - n)) * Tryz.prog.bytesOf 45 := Nat.mul_le_mul_right _ (Nat.le_add_right _ _)
   have h12 := Nat.le_trans h9 (Nat.le_trans h10 hb)
   clear h9 h10 hb
   omega
  refine ⟨some a', n, c', l, rfl, hn17, ⟨⟨hll, fun hn => ?_⟩, fun y hy => ?_⟩⟩
  ·have hs : a'.spot = none := by
    have := (hlp 0 (by omega)).1 0 (by omega)
    exact spot_of this
   obtain ⟨b, off, spot⟩ := a'
   simp only at hs
   subst hs
   refine ⟨b, off, rfl, ?_, fun k hk j hj => ?_⟩
   ·have := (hlp 0 (by omega)).1 0 (by omega)
    rw [aq_plus] at this
    exact World.block_lt_of_cell? _ _ this
   ·have := (hlp k hk).1 j hj
    rw [aq_plus] at this
    rw [show off + k * shA.z + j = off + (k * 12 + j) by show off + k * 12 + j = _; omega, this]
    rfl
  ·obtain ⟨i, hi', rfl⟩ := List.mem_iff_getElem.1 hy
   exact (hlp i hi').2
end
def Asks28z (w : World) (v : Value) : Prop := ∃ (p : Pv) (la : Option Addr) (ln lc : Nat) (l : List Av),
 v = .agg #[.int .i64 p.i, .int .i64 p.n, .int .i64 p.d, .int .i64 p.t, .int .i64 p.s, .slice p.ma p.mn p.mc, .slice p.la p.ln p.lc, .slice p.ha p.hn p.hc, .slice p.aa p.an p.ac, .slice p.xa p.xn p.xc, .bool p.b, .slice la ln lc] ∧ (PvD w w.heap.size p ∧ BdP p) ∧ ln ≤ 17592186044416 ∧ AsD w w.heap.size la ln l
theorem asks28z_of {H : Type} {enc : TypeId × Value → H} {w : World} {base : Nat} {held : Bool} {fuel : Nat} {x : DataW H × List MemPlace} {cs : Array Value}
  (hcs : cs.size = Tryz.prog.cellsOf 29) (hf : DataW.trod enc Tryz.prog w base (fun _ => true) held fuel 29 cs.toList = some x) (hz : Szd 29 x.1) : Asks28z w (.agg cs) := by
 have h1 : Tryz.prog.cellsOf 26 = 11 := by kernel_rfl
 have h3 : Tryz.prog.cellsOf 27 = 1 := by kernel_rfl
 have hC : Tryz.prog.cellsOf 29 = 12 := by kernel_rfl
 have hl := hcs
 rw [hC] at hl
 clear hcs hC
 obtain ⟨⟨cl⟩, rfl⟩ : ∃ c : Array Value, cs = c := ⟨cs, rfl⟩
 simp only [List.size_toArray] at hl
 simp only at hf
 match cl, hl with
 | [c0, c1, c2, c3, c4, c5, c6, c7, c8, c9, c10, c11], _ =>
 obtain ⟨ys, n', _, hx, _, hyl, hg⟩ := DataW.trod_struct Tryz.underlying29 hf
 match ys, hyl with
 | [y0, y1], _ =>
  have g0 := hg 0 _ rfl
  have g1 := hg 1 _ rfl
  simp [h1, h3] at g0 g1
  rw [hx] at hz
  have z0 := szd_agg hz Tryz.underlying29 (i := 0) (ty := 26) (d := y0.1) rfl rfl
  have z1 := szd_agg hz Tryz.underlying29 (i := 1) (ty := 27) (d := y1.1) rfl rfl
  obtain ⟨p, hp, p1, p2⟩ := peer28_of g0 z0
  obtain ⟨la, ln, lc, l, rfl, a1, a2⟩ := acts28_of g1 z1
  simp at hp
  obtain ⟨rfl, rfl, rfl, rfl, rfl, rfl, rfl, rfl, rfl, rfl, rfl⟩ := hp
  exact ⟨p, la, ln, lc, l, rfl, ⟨p1, p2⟩, a1, a2⟩
end Go.Proofs.YtdpblimhfmfbnaaGreat
namespace Go.Proofs.YtdpblimhfmfbnaaGreat
open List renaming getElem_toArray → jjA, getElem_cons_succ → jjB, getElem_cons_zero → jjC, setIfInBounds_toArray → jjD, set_cons_zero → jjE, set_cons_succ → jjF
open Go.ChangeShapes Go.WideShapes Go.ChangeAt Go.RowKit Go.Deep
theorem mxC_sm28 {r : Nat} {l : List Cv} (h : mxC r l) (hr : r ≤ 1048576) : SmC l := ⟨Nat.le_trans h.1 hr, fun x hx => Nat.le_trans (h.2 x hx) hr⟩
theorem mxI_sm28 {r : Nat} {l : List Iv} (h : mxI r l) (hr : r ≤ 1048576) : SmI l := ⟨Nat.le_trans h.1 hr, fun x hx => mxC_sm28 (h.2 x hx) hr⟩
theorem below_eqz {w z : World} (h : z = w) : Below w.heap.size w z := by
 subst h
 exact Below.refl _ _
theorem AvD.later {w w' : World} {x : Av} (h : AvD w w.heap.size x) (hb : Below w.heap.size w w') : AvD w' w'.heap.size x := ⟨(h.l.below hb (Nat.le_refl _)).mono hb.size, (h.n.below hb (Nat.le_refl _)).mono hb.size, h.l1, h.l2, h.n1, h.n2⟩
theorem AsD.later {w w' : World} {a : Option Addr} {n : Nat} {l : List Av} (h : AsD w w.heap.size a n l) (hb : Below w.heap.size w w') : AsD w' w'.heap.size a n l := ⟨(h.q.below hb (Nat.le_refl _)).mono hb.size, fun x hx => (h.u x hx).later hb⟩
theorem AsD.at_ {w : World} {B : Nat} {a : Option Addr} {n : Nat} {l : List Av} (h : AsD w B a n l) {k : Nat} (hk : k < n) : ∃ b off, a = some ⟨b, off, none⟩ ∧ b < B ∧ w.cell? ⟨b, off + k * 12 + 1, none⟩ = some (.slice (l.getD k default).la (l.getD k default).ln (l.getD k default).lc) ∧ w.cell? ⟨b, off + k * 12 + 6, none⟩ = some (.slice (l.getD k default).e.q.a (l.getD k default).e.q.n (l.getD k default).e.q.c) ∧ AvD w B (l.getD k default) := by
 obtain ⟨b, off, e, hlt, hc⟩ := h.q.rd (by omega)
 have hk' : k < l.length := by rw [h.q.len]; exact hk
 have hg : l.getD k default = l[k] := by simp [List.getD, hk']
 have c := hc k hk'
 rw [hg]
 exact ⟨b, off, e, hlt, c 1 (by decide), c 6 (by decide), h.u _ (List.getElem_mem hk')⟩
theorem d20y {r : Nat} (h : r < 1048576) : decide ((r : Int) < 1048576) = true := by rw [decide_eq_true_iff]; omega
theorem d20n {r : Nat} (h : ¬ r < 1048576) : decide ((r : Int) < 1048576) = false := by rw [decide_eq_false_iff_not]; omega
def HvyZ (p : Pv) (l : List Av) (w : World) (e : Ending) (w' : World) : Prop := ∃ r, e = .returned (.bool r) ∧ Below w.heap.size w w' ∧ Hk (r = false → PvS p ∧ p.xn ≤ 2000 ∧ l.length ≤ 60 ∧ ∀ x, x ∈ l → SmC x.ll ∧ SmC x.e.q.l)
set_option maxRecDepth 100000 in
set_option maxHeartbeats 3200000 in
theorem heavy28_any (p : Pv) (la : Option Addr) (ln lc : Nat) (l : List Av) (w : World) (h : PvD w w.heap.size p) (hp : BdP p) (hl : ln ≤ 17592186044416) (ha : AsD w w.heap.size la ln l) :
  Calls Tryz.prog 10 #[.agg #[.int .i64 p.i, .int .i64 p.n, .int .i64 p.d, .int .i64 p.t, .int .i64 p.s, .slice p.ma p.mn p.mc, .slice p.la p.ln p.lc, .slice p.ha p.hn p.hc, .slice p.aa p.an p.ac, .slice p.xa p.xn p.xc, .bool p.b, .slice la ln lc]] w (HvyZ p l w) := by
 have HBW : Hk (Below w.heap.size w (w.alloc (.cells #[.int .i64 p.i, .int .i64 p.n, .int .i64 p.d, .int .i64 p.t, .int .i64 p.s, .slice p.ma p.mn p.mc, .slice p.la p.ln p.lc, .slice p.ha p.hn p.hc, .slice p.aa p.an p.ac, .slice p.xa p.xn p.xc, .bool p.b, .slice la ln lc] 29))) := ⟨(Below.refl _ _).alloc (Nat.le_refl _) _⟩
 have HPX := Hk.mk (Bk.new w #[.int .i64 p.i, .int .i64 p.n, .int .i64 p.d, .int .i64 p.t, .int .i64 p.s, .slice p.ma p.mn p.mc, .slice p.la p.ln p.lc, .slice p.ha p.hn p.hc, .slice p.aa p.an p.ac, .slice p.xa p.xn p.xc, .bool p.b, .slice la ln lc] 29)
 have HDD : Hk (∀ X, Below (w.alloc (.cells #[.int .i64 p.i, .int .i64 p.n, .int .i64 p.d, .int .i64 p.t, .int .i64 p.s, .slice p.ma p.mn p.mc, .slice p.la p.ln p.lc, .slice p.ha p.hn p.hc, .slice p.aa p.an p.ac, .slice p.xa p.xn p.xc, .bool p.b, .slice la ln lc] 29)).heap.size (w.alloc (.cells #[.int .i64 p.i, .int .i64 p.n, .int .i64 p.d, .int .i64 p.t, .int .i64 p.s, .slice p.ma p.mn p.mc, .slice p.la p.ln p.lc, .slice p.ha p.hn p.hc, .slice p.aa p.an p.ac, .slice p.xa p.xn p.xc, .bool p.b, .slice la ln lc] 29)) X → PvD X X.heap.size p) := ⟨fun X hX => h.later (HBW.out.trans (hX.mono HBW.out.size))⟩
 have HP := Hk.mk hp
 have p1 := hp.h
 have p2 := hp.a
 have p3 := hp.x
 clear h hp
 go_enter Tryz.func10, Tryz.ntmps10
 go_upto_region 1 with fail
 generalize hV : (w.alloc (.cells #[.int .i64 p.i, .int .i64 p.n, .int .i64 p.d, .int .i64 p.t, .int .i64 p.s, .slice p.ma p.mn p.mc, .slice p.la p.ln p.lc, .slice p.ha p.hn p.hc, .slice p.aa p.an p.ac, .slice p.xa p.xn p.xc, .bool p.b, .slice la ln lc] 29)) = V at *
 have c5 : V.cell? ⟨w.heap.size, 5, none⟩ = some (.slice p.ma p.mn p.mc) := HPX.out.c 5
 have c6 : V.cell? ⟨w.heap.size, 6, none⟩ = some (.slice p.la p.ln p.lc) := HPX.out.c 6
 have c7 : V.cell? ⟨w.heap.size, 7, none⟩ = some (.slice p.ha p.hn p.hc) := HPX.out.c 7
 have c8 : V.cell? ⟨w.heap.size, 8, none⟩ = some (.slice p.aa p.an p.ac) := HPX.out.c 8
 have c9 : V.cell? ⟨w.heap.size, 9, none⟩ = some (.slice p.xa p.xn p.xc) := HPX.out.c 9
 have c11 : V.cell? ⟨w.heap.size, 11, none⟩ = some (.slice la ln lc) := HPX.out.c 11
 have HV : Hk (Below V.heap.size V V) := ⟨Below.refl _ _⟩
 have bl : w.heap.size < V.heap.size := HPX.out.lt
 refine wp_region_held_drew (S := (fun X => (∀ b o, b < V.heap.size → X.cell? ⟨b, o, none⟩ = V.cell? ⟨b, o, none⟩) ∧ Below V.heap.size V X)) (by kernel_rfl) ?_ (fun hHeld => ?_)
 ·exact kw_S (kw_drew HV.out)
 have HI : Ix [0, 1, 2, 4, 5, 6, 9, 10, 11, 12, 14, 15, 16, 17, 19, 20, 21, 22] := trivial
 iterate 18 (refine tkA HI (v := ?_) rfl (by kernel_rfl) (fun _ _ _ h => h) (.inl ⟨by rfl, fun wX hSw => ?_⟩) hHeld (fun HJ => ?_); rotate_left; (focus ((try dsimp only at hSw); go_simp; try with_reducible rfl)); clear HI; have HI := HJ; clear HJ; try simp only [Act.put, jjA, jjB, jjC, jjD, jjE, jjF])
 clear HI
 refine wpAnyH_ready (rs := [3]) (by kernel_rfl) (by simp) ?_
 refine AllReadyH.cons rfl (fun K hK => ?_) (AllReadyH.nil)
 go_simp
 (first | (go_at_call 24; (with_reducible refine (iw_any p.ma p.mn p.mc p.ml _ (by first | exact (HDD.out _ HV.out).m | exact (HDD.out _ HV.out.drew).m) HP.out.m HP.out.mb).mono ?_); rintro e z ⟨⟨r1, rfl, hr⟩, hz⟩; have H1 := Hk.mk hr; have hb := below_eqz hz; clear hr hz; have hB2 : Hk (Below V.heap.size V z) := ⟨by first | exact kw_step HV.out (Nat.le_refl _) hb | exact kw_step HV.out.drew (Nat.le_refl _) hb⟩; clear hb; replace HV := hB2; clear hB2) | (go_at_call 24; (with_reducible refine (iw_any p.la p.ln p.lc p.ll _ (by first | exact (HDD.out _ HV.out).l | exact (HDD.out _ HV.out.drew).l) HP.out.l HP.out.lb).mono ?_); rintro e z ⟨⟨r2, rfl, hr⟩, hz⟩; have H2 := Hk.mk hr; have hb := below_eqz hz; clear hr hz; have hB2 : Hk (Below V.heap.size V z) := ⟨by first | exact kw_step HV.out (Nat.le_refl _) hb | exact kw_step HV.out.drew (Nat.le_refl _) hb⟩; clear hb; replace HV := hB2; clear hB2))
 refine hK.out _ _ ?_ (fun hHeld => ?_)
 ·exact kw_S HV.out
 clear hK K
 (try simp only [Act.put, jjA, jjB, jjC, jjD, jjE, jjF])
 refine wpAnyH_ready (rs := [7]) (by kernel_rfl) (by simp) ?_
 refine AllReadyH.cons rfl (fun K hK => ?_) (AllReadyH.nil)
 go_simp
 (first | (go_at_call 24; (with_reducible refine (iw_any p.ma p.mn p.mc p.ml _ (by first | exact (HDD.out _ HV.out).m | exact (HDD.out _ HV.out.drew).m) HP.out.m HP.out.mb).mono ?_); rintro e z ⟨⟨r1, rfl, hr⟩, hz⟩; have H1 := Hk.mk hr; have hb := below_eqz hz; clear hr hz; have hB2 : Hk (Below V.heap.size V z) := ⟨by first | exact kw_step HV.out (Nat.le_refl _) hb | exact kw_step HV.out.drew (Nat.le_refl _) hb⟩; clear hb; replace HV := hB2; clear hB2) | (go_at_call 24; (with_reducible refine (iw_any p.la p.ln p.lc p.ll _ (by first | exact (HDD.out _ HV.out).l | exact (HDD.out _ HV.out.drew).l) HP.out.l HP.out.lb).mono ?_); rintro e z ⟨⟨r2, rfl, hr⟩, hz⟩; have H2 := Hk.mk hr; have hb := below_eqz hz; clear hr hz; have hB2 : Hk (Below V.heap.size V z) := ⟨by first | exact kw_step HV.out (Nat.le_refl _) hb | exact kw_step HV.out.drew (Nat.le_refl _) hb⟩; clear hb; replace HV := hB2; clear hB2))
 refine hK.out _ _ ?_ (fun hHeld => ?_)
 ·exact kw_S HV.out
 clear hK K
 (try simp only [Act.put, jjA, jjB, jjC, jjD, jjE, jjF])
 have HI : Ix [8, 13, 18, 23, 24] := trivial
 iterate 5 (refine tkA HI (v := ?_) rfl (by kernel_rfl) (fun _ _ _ h => h) (.inl ⟨by rfl, fun wX hSw => ?_⟩) hHeld (fun HJ => ?_); rotate_left; (focus ((try dsimp only at hSw); go_simp; try with_reducible rfl)); clear HI; have HI := HJ; clear HJ; try simp only [Act.put, jjA, jjB, jjC, jjD, jjE, jjF])
 clear HI
 refine wpAnyH_done (by kernel_rfl) ?_ _
 have b1 := H1.out.le
 have b2 := H2.out.le
 have g1 : IntKind.i64.wrap ((r1 : Int) + (r2 : Int)) = ((r1 + r2 : Nat) : Int) := by push_cast; exact wr27 (by omega) (by omega)
 have g2 : IntKind.i64.wrap (((r1 + r2 : Nat) : Int) + (p.hn : Int)) = ((r1 + r2 + p.hn : Nat) : Int) := by push_cast; exact wr27 (by omega) (by omega)
 have g3 : IntKind.i64.wrap (((r1 + r2 + p.hn : Nat) : Int) + (p.an : Int)) = ((r1 + r2 + p.hn + p.an : Nat) : Int) := by push_cast; exact wr27 (by omega) (by omega)
 have g4 : IntKind.i64.wrap (((r1 + r2 + p.hn + p.an : Nat) : Int) + (p.xn : Int)) = ((r1 + r2 + p.hn + p.an + p.xn : Nat) : Int) := by push_cast; exact wr27 (by omega) (by omega)
 rw [g1, g2, g3, g4]
 obtain ⟨r0, hr0⟩ : ∃ r0, r1 + r2 + p.hn + p.an + p.xn = r0 := ⟨_, rfl⟩
 rw [hr0]
 generalize ((r1 + r2 : Nat) : Int) = v1
 generalize ((r1 + r2 + p.hn : Nat) : Int) = v2
 generalize ((r1 + r2 + p.hn + p.an : Nat) : Int) = v3
 have HPS : Hk (r0 < 1048576 → mxI r0 p.ml ∧ mxI r0 p.ll ∧ p.hn ≤ r0 ∧ p.an ≤ r0 ∧ p.xn ≤ r0) := ⟨fun hlt => ⟨⟨Nat.le_trans (H1.out.mx (by omega)).1 (by omega), fun i hi => ((H1.out.mx (by omega)).2 i hi).mono (by omega)⟩, ⟨Nat.le_trans (H2.out.mx (by omega)).1 (by omega), fun i hi => ((H2.out.mx (by omega)).2 i hi).mono (by omega)⟩, by omega, by omega, by omega⟩⟩
 have hrb : r0 ≤ 87960942985216 := by omega
 have HLE := Hk.mk ha.q.len
 have HAD : Hk (∀ X, Below V.heap.size V X → AsD X X.heap.size la ln l) := ⟨fun X hX => ha.later (HBW.out.trans (hX.mono HBW.out.size))⟩
 have HC11 := Hk.mk c11
 clear hHeld g1 g2 g3 g4 b1 b2 p1 p2 p3 H1 H2 c5 c6 c7 c8 c9 c11 HP HDD ha HPX hV hr0
 have HLP := Hk.mk bl
 clear bl
 go_wp2
 go_loopw [3, 4] (fun s x wr => ∃ j r : Nat, s = .int .i64 (r : Nat) ∧ x = .int .i64 (j : Nat) ∧ j ≤ ln ∧ r0 ≤ r ∧ r ≤ 87960942985216 ∧ Hk (r < 1048576 → ∀ k, k < j → mxC r (l.getD k default).ll ∧ mxC r (l.getD k default).e.q.l) ∧ Hk (Below V.heap.size V wr)) (fun _ x _ => ln - (intOf x).toNat)
 case atStart => exact ⟨0, r0, rfl, rfl, Nat.zero_le _, Nat.le_refl _, hrb, ⟨fun _ k hk => absurd hk (by omega)⟩, HV⟩
 case round =>
  clear HV
  obtain ⟨j, r, rfl, rfl, hj, hr1, hr2, HR, HV⟩ := hrel
  have c11 : wr.cell? ⟨w.heap.size, 11, none⟩ = some (.slice la ln lc) := (HV.out.cell (p := ⟨w.heap.size, 11, none⟩) HLP.out).trans HC11.out
  have bl : w.heap.size < wr.heap.size := Nat.lt_of_lt_of_le HLP.out HV.out.size
  by_cases hlt : j < ln
  ·have t1 : (j : Int) < (ln : Int) := by omega
   by_cases hr : r < 1048576
   ·have d1 := d20y hr
    have t0 : (0 : Int) ≤ (j : Int) := by omega
    obtain ⟨b, off, rfl, hb, k1, k6, hd⟩ := (HAD.out wr HV.out).at_ hlt
    generalize hq : l.getD j default = q at *
    have HDD : Hk (∀ X, Below wr.heap.size wr X → AvD X X.heap.size q) := ⟨fun X hX => hd.later hX⟩
    have gj : IntKind.i64.wrap ((j : Int) + 1) = ((j + 1 : Nat) : Int) := by push_cast; exact wr27 (by omega) (by omega)
    have HRT : Hk (r < 1048576) := ⟨hr⟩
    have HW : Hk (Below wr.heap.size wr wr) := ⟨Below.refl _ _⟩
    clear hd hr
    go_upto_region 5 with fail
    refine wp_region_held_drew (S := (fun X => (∀ b o, b < wr.heap.size → X.cell? ⟨b, o, none⟩ = wr.cell? ⟨b, o, none⟩) ∧ Below wr.heap.size wr X)) (by kernel_rfl) ?_ (fun hHeld => ?_)
    ·exact kw_S (kw_drew HW.out)
    have HI : Ix [0, 1, 2, 3, 4, 5, 6, 9, 10, 11, 12, 13, 14, 15, 16] := trivial
    iterate 15 (refine tkA HI (v := ?_) rfl (by kernel_rfl) (fun _ _ _ h => h) (.inl ⟨by rfl, fun wX hSw => ?_⟩) hHeld (fun HJ => ?_); rotate_left; (focus ((try dsimp only at hSw); go_simp; try with_reducible rfl)); clear HI; have HI := HJ; clear HJ; try simp only [Act.put, jjA, jjB, jjC, jjD, jjE, jjF])
    clear HI
    refine wpAnyH_ready (rs := [7]) (by kernel_rfl) (by simp) ?_
    refine AllReadyH.cons rfl (fun K hK => ?_) (AllReadyH.nil)
    go_simp
    (first | (go_at_call 25; (with_reducible refine (cw_any q.la q.ln q.lc q.ll _ (by first | exact (HDD.out _ HW.out).l | exact (HDD.out _ HW.out.drew).l) (HDD.out _ HW.out).l1 (HDD.out _ HW.out).l2).mono ?_); rintro e z ⟨⟨s1, rfl, hr⟩, hz⟩; have H3 := Hk.mk hr; have hb := below_eqz hz; clear hr hz; have hB2 : Hk (Below wr.heap.size wr z) := ⟨by first | exact kw_step HW.out (Nat.le_refl _) hb | exact kw_step HW.out.drew (Nat.le_refl _) hb⟩; clear hb; replace HW := hB2; clear hB2) | (go_at_call 25; (with_reducible refine (cw_any q.e.q.a q.e.q.n q.e.q.c q.e.q.l _ (by first | exact (HDD.out _ HW.out).n | exact (HDD.out _ HW.out.drew).n) (HDD.out _ HW.out).n1 (HDD.out _ HW.out).n2).mono ?_); rintro e z ⟨⟨s2, rfl, hr⟩, hz⟩; have H4 := Hk.mk hr; have hb := below_eqz hz; clear hr hz; have hB2 : Hk (Below wr.heap.size wr z) := ⟨by first | exact kw_step HW.out (Nat.le_refl _) hb | exact kw_step HW.out.drew (Nat.le_refl _) hb⟩; clear hb; replace HW := hB2; clear hB2))
    refine hK.out _ _ ?_ (fun hHeld => ?_)
    ·exact kw_S HW.out
    clear hK K
    (try simp only [Act.put, jjA, jjB, jjC, jjD, jjE, jjF])
    have HI : Ix [8] := trivial
    (refine tkA HI (v := ?_) rfl (by kernel_rfl) (fun _ _ _ h => h) (.inl ⟨by rfl, fun wX hSw => ?_⟩) hHeld (fun HJ => ?_); rotate_left; (focus ((try dsimp only at hSw); go_simp; try with_reducible rfl)); clear HI; have HI := HJ; clear HJ; try simp only [Act.put, jjA, jjB, jjC, jjD, jjE, jjF])
    clear HI
    refine wpAnyH_ready (rs := [17]) (by kernel_rfl) (by simp) ?_
    refine AllReadyH.cons rfl (fun K hK => ?_) (AllReadyH.nil)
    go_simp
    (first | (go_at_call 25; (with_reducible refine (cw_any q.la q.ln q.lc q.ll _ (by first | exact (HDD.out _ HW.out).l | exact (HDD.out _ HW.out.drew).l) (HDD.out _ HW.out).l1 (HDD.out _ HW.out).l2).mono ?_); rintro e z ⟨⟨s1, rfl, hr⟩, hz⟩; have H3 := Hk.mk hr; have hb := below_eqz hz; clear hr hz; have hB2 : Hk (Below wr.heap.size wr z) := ⟨by first | exact kw_step HW.out (Nat.le_refl _) hb | exact kw_step HW.out.drew (Nat.le_refl _) hb⟩; clear hb; replace HW := hB2; clear hB2) | (go_at_call 25; (with_reducible refine (cw_any q.e.q.a q.e.q.n q.e.q.c q.e.q.l _ (by first | exact (HDD.out _ HW.out).n | exact (HDD.out _ HW.out.drew).n) (HDD.out _ HW.out).n1 (HDD.out _ HW.out).n2).mono ?_); rintro e z ⟨⟨s2, rfl, hr⟩, hz⟩; have H4 := Hk.mk hr; have hb := below_eqz hz; clear hr hz; have hB2 : Hk (Below wr.heap.size wr z) := ⟨by first | exact kw_step HW.out (Nat.le_refl _) hb | exact kw_step HW.out.drew (Nat.le_refl _) hb⟩; clear hb; replace HW := hB2; clear hB2))
    refine hK.out _ _ ?_ (fun hHeld => ?_)
    ·exact kw_S HW.out
    clear hK K
    (try simp only [Act.put, jjA, jjB, jjC, jjD, jjE, jjF])
    have HI : Ix [18, 19] := trivial
    iterate 2 (refine tkA HI (v := ?_) rfl (by kernel_rfl) (fun _ _ _ h => h) (.inl ⟨by rfl, fun wX hSw => ?_⟩) hHeld (fun HJ => ?_); rotate_left; (focus ((try dsimp only at hSw); go_simp; try with_reducible rfl)); clear HI; have HI := HJ; clear HJ; try simp only [Act.put, jjA, jjB, jjC, jjD, jjE, jjF])
    clear HI
    refine wpAnyH_done (by kernel_rfl) ?_ _
    have b3 := H3.out.le
    have b4 := H4.out.le
    have hr := HRT.out
    have g1 : IntKind.i64.wrap ((r : Int) + (s1 : Int)) = ((r + s1 : Nat) : Int) := by push_cast; exact wr27 (by omega) (by omega)
    have g2 : IntKind.i64.wrap (((r + s1 : Nat) : Int) + (s2 : Int)) = ((r + s1 + s2 : Nat) : Int) := by push_cast; exact wr27 (by omega) (by omega)
    rw [g1, g2]
    clear g1 g2
    have hle : r + s1 + s2 ≤ 87960942985216 := by omega
    have HR2 : Hk (r + s1 + s2 < 1048576 → ∀ k, k < j + 1 → mxC (r + s1 + s2) (l.getD k default).ll ∧ mxC (r + s1 + s2) (l.getD k default).e.q.l) := ⟨fun hx k hk => by
     by_cases e : k = j
     ·subst e
      rw [hq]
      exact ⟨(H3.out.mx (by omega)).mono (by omega), (H4.out.mx (by omega)).mono (by omega)⟩
     ·have := HR.out hr k (by omega)
      exact ⟨this.1.mono (by omega), this.2.mono (by omega)⟩⟩
    clear hHeld hr HR H3 H4 b3 b4 c11 bl k1 k6
    go_wp2
    exact ⟨⟨j + 1, r + s1 + s2, rfl, rfl, by omega, by omega, hle, HR2, ⟨HV.out.trans (HW.out.mono HV.out.size)⟩⟩, by simp only [intOf]; omega⟩
   ·have d1 := d20n hr
    have d2 : decide ((2000 : Int) < (r : Int)) = true := by rw [decide_eq_true_iff]; omega
    clear hr
    go_wp2
    go_ret
    exact ⟨_, rfl, HBW.out.trans (HV.out.mono HBW.out.size), ⟨fun h => by cases h⟩⟩
  ·obtain rfl : j = ln := by omega
   have t1 : ¬ ((j : Int) < (j : Int)) := by omega
   by_cases hr : 2000 < r
   ·have d2 : decide ((2000 : Int) < (r : Int)) = true := by rw [decide_eq_true_iff]; omega
    clear hr hlt
    go_wp2
    go_ret
    exact ⟨_, rfl, HBW.out.trans (HV.out.mono HBW.out.size), ⟨fun h => by cases h⟩⟩
   ·have d2 : decide ((2000 : Int) < (r : Int)) = false := by rw [decide_eq_false_iff_not]; omega
    have HR2 := Hk.mk hr
    have HR1 := Hk.mk hr1
    clear hr hlt hr1 hr2
    go_wp2
    go_ret
    refine ⟨_, rfl, HBW.out.trans (HV.out.mono HBW.out.size), ⟨fun h => ?_⟩⟩
    have h60 := of_decide_eq_false h
    have hr1 := HR1.out
    have hr2 := HR2.out
    obtain ⟨m1, m2, m3, m4, m5⟩ := HPS.out (by omega)
    have hn := HLE.out
    refine ⟨⟨mxI_sm28 m1 (by omega), mxI_sm28 m2 (by omega), by omega, by omega, by omega⟩, by omega, by omega, fun x hx => ?_⟩
    obtain ⟨i, hi, rfl⟩ := List.mem_iff_getElem.1 hx
    have := HR.out (by omega) i (by omega)
    rw [show l.getD i default = l[i] by simp [List.getD, hi]] at this
    exact ⟨mxC_sm28 this.1 (by omega), mxC_sm28 this.2 (by omega)⟩
end Go.Proofs.YtdpblimhfmfbnaaGreat
