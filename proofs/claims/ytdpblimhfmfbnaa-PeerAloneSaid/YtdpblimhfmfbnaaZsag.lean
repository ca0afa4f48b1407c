import Derived.Deep.QuietTactic
import Derived.BigQuiet
import Derived.Deep.RegionWith
import Derived.Deep.RegionHeld3
import Derived.Deep.DeepCutAuto
import Derived.Deep.DeepFit
import Derived.Outline
import Derived.Test.YtdpblimhfmfbnaaZsaf
import Derived.Test.YtdpblimhfmfbnaaZsa
set_option linter.unusedVariables false
set_option linter.unusedSimpArgs false
namespace Go.Proofs.Ytdpblimhfmfbnaa
open List renaming getElem_toArray → jjA, getElem_cons_succ → jjB, getElem_cons_zero → jjC, setIfInBounds_toArray → jjD, set_cons_zero → jjE, set_cons_succ → jjF
open Go.ChangeShapes Go.WideShapes Go.ChangeAt Go.RowKit Go.Deep
def HadP (p : Pv) (k : Nat) : Prop := max p.d p.t - 1 ≤ p.hl.getD k 0 ∧ p.hl.getD k 0 ≤ p.t + 16 ∧ p.hl.getD k 0 ≤ 1099511627776 ∧ p.d - 1 ≤ p.al.getD k 0 ∧ p.al.getD k 0 ≤ p.s
theorem kn_iff (p : Pv) {j : Nat} (hj : p.i = (j : Int) + 1) (h1 : p.hl.length = p.hn) (h2 : p.al.length = p.an) : KnP p.ab ↔ ((p.hn : Int) = p.n ∧ (p.an : Int) = p.n ∧ p.hl.getD j 0 = p.s ∧ p.al.getD j 0 = p.s ∧ ∀ k, k < p.hn → HadP p k) := by
 have e : p.ab.i.toNat - 1 = j := by show p.i.toNat - 1 = j; omega
 constructor
 ·intro h
  refine ⟨by rw [← h1]; exact h.h1, by rw [← h2]; exact h.a1, by have := h.h2; rw [e] at this; exact this, by have := h.a2; rw [e] at this; exact this, fun k hk => h.all k (by show k < p.hl.length; omega)⟩
 ·rintro ⟨a1, a2, a3, a4, a5⟩
  exact ⟨by show (p.hl.length : Int) = _; rw [h1]; exact a1, by show (p.al.length : Int) = _; rw [h2]; exact a2, by rw [e]; exact a3, by rw [e]; exact a4, fun k hk => a5 k (by have : k < p.hl.length := hk; omega)⟩
set_option maxRecDepth 100000 in
set_option maxHeartbeats 3200000 in
theorem known_as (r : Bool) (p : Pv) (w : World) (h : PvD w w.heap.size p) (hs : PvS p) (hc : CntP p.ab) (E : Hk (KnP p.ab ↔ r = true)) :
  Calls Try.prog 43 #[.agg (jjP p)] w fun e w' => e = .returned (.bool r) ∧ Below w.heap.size w w' := by
 have hi1 : 1 ≤ p.i := hc.i1
 have hi2 : p.i ≤ p.n := hc.i2
 have hn2 : p.n ≤ 8 := hc.n2
 obtain ⟨j, hj⟩ : ∃ j : Nat, p.i = (j : Int) + 1 := ⟨(p.i - 1).toNat, by omega⟩
 have E2 := Hk.mk ((kn_iff p hj h.h.len h.a.len).symm.trans E.out)
 have HT : Hk (1 ≤ p.d ∧ p.d ≤ 8 ∧ 0 ≤ p.t ∧ p.t ≤ 1099511627776 ∧ p.d - 1 ≤ p.s ∧ p.s ≤ 1099511627776) := ⟨⟨hc.d1, hc.d2, hc.t1, hc.t2, hc.s1, hc.s3⟩⟩
 have gj : IntKind.i64.wrap (p.i - 1) = (j : Int) := by rw [show p.i - 1 = (j : Int) by omega]; exact wr27 (by omega) (by omega)
 have HJ : Hk ((j : Int) < p.n ∧ p.n ≤ 8) := ⟨⟨by omega, hn2⟩⟩
 have j0 : (0 : Int) ≤ (j : Int) := by omega
 clear hj hi1 hi2 hn2 E
 have HWB : Hk (Below w.heap.size w (w.alloc (.cells (jjP p) 28))) := ⟨(Below.refl _ _).alloc (Nat.le_refl _) _⟩
 have hNW : (w.heap.size + 1) ≤ (w.alloc (.cells (jjP p) 28)).heap.size := by simp
 have HB : Hk (Below (w.heap.size + 1) (w.alloc (.cells (jjP p) 28)) (w.alloc (.cells (jjP p) 28))) := ⟨Below.refl _ _⟩
 have HTR : Hk (∀ X, Below (w.heap.size + 1) (w.alloc (.cells (jjP p) 28)) X → Below w.heap.size w X) := ⟨fun X hX => HWB.out.trans (hX.mono (by omega))⟩
 have HPB : Hk (Bk (w.alloc (.cells (jjP p) 28)) w.heap.size (jjP p)) := ⟨Bk.new w (jjP p) 28⟩
 have HH : Hk (∀ X, Below (w.alloc (.cells (jjP p) 28)).heap.size (w.alloc (.cells (jjP p) 28)) X → PvD X X.heap.size p) := ⟨fun X hX => h.later (HWB.out.trans (hX.mono HWB.out.size))⟩
 clear h hs hc
 go_enter Try.func43, Try.ntmps43
 go_upto_region 1 with fail
 generalize (w.alloc (.cells (jjP p) 28)) = V at *
 have HV : Hk (Below V.heap.size V V) := ⟨Below.refl _ _⟩
 have c0 : V.cell? ⟨w.heap.size, 0, none⟩ = some (.int .i64 p.i) := HPB.out.c 0
 have c1 : V.cell? ⟨w.heap.size, 1, none⟩ = some (.int .i64 p.n) := HPB.out.c 1
 have c2 : V.cell? ⟨w.heap.size, 2, none⟩ = some (.int .i64 p.d) := HPB.out.c 2
 have c3 : V.cell? ⟨w.heap.size, 3, none⟩ = some (.int .i64 p.t) := HPB.out.c 3
 have c4 : V.cell? ⟨w.heap.size, 4, none⟩ = some (.int .i64 p.s) := HPB.out.c 4
 have c7 : V.cell? ⟨w.heap.size, 7, none⟩ = some (.slice p.ha p.hn p.hc) := HPB.out.c 7
 have c8 : V.cell? ⟨w.heap.size, 8, none⟩ = some (.slice p.aa p.an p.ac) := HPB.out.c 8
 have hl := HPB.out.lt
 have HDV := HH.out V (Below.refl _ _)
 clear HB hNW HTR HPB
 by_cases q1 : (p.hn : Int) = p.n
 case neg =>
  have f1 : ((p.hn : Int) != p.n) = true := by simpa using q1
  have HQ := Hk.mk q1
  clear q1
  refine wp_region_held_drew (S := (fun X => (∀ b o, b < V.heap.size → X.cell? ⟨b, o, none⟩ = V.cell? ⟨b, o, none⟩) ∧ Below V.heap.size V X)) (by kernel_rfl) ?_ (fun hHeld => ?_)
  ·exact kw_S (kw_drew HV.out)
  have HI : Ix [0, 1, 2, 3, 4, 5, 6] := trivial
  iterate 7 (refine tkA HI (v := ?_) rfl (by kernel_rfl) (fun _ _ _ h => h) (.inl ⟨by rfl, fun wX hSw => ?_⟩) hHeld (fun HJ => ?_); rotate_left; (focus ((try dsimp only at hSw); go_simp; try with_reducible rfl)); clear HI; have HI := HJ; clear HJ; try simp only [Act.put, jjA, jjB, jjC, jjD, jjE, jjF])
  clear HI
  have HI : Ix [7, 8, 9, 10, 11, 12] := trivial
  iterate 6 (refine tkA HI (v := undef) rfl (by kernel_rfl) (fun _ _ _ h => h) (.inr ⟨by rfl, rfl⟩) hHeld (fun HJ => ?_); clear HI; have HI := HJ; clear HJ; try simp only [Act.put, jjA, jjB, jjC, jjD, jjE, jjF])
  clear HI
  have HI : Ix [13, 14] := trivial
  iterate 2 (refine tkA HI (v := ?_) rfl (by kernel_rfl) (fun _ _ _ h => h) (.inl ⟨by rfl, fun wX hSw => ?_⟩) hHeld (fun HJ => ?_); rotate_left; (focus ((try dsimp only at hSw); go_simp; try with_reducible rfl)); clear HI; have HI := HJ; clear HJ; try simp only [Act.put, jjA, jjB, jjC, jjD, jjE, jjF])
  clear HI
  have HI : Ix [15, 16, 17, 18, 19, 20, 21, 22, 23, 24] := trivial
  iterate 10 (refine tkA HI (v := undef) rfl (by kernel_rfl) (fun _ _ _ h => h) (.inr ⟨by rfl, rfl⟩) hHeld (fun HJ => ?_); clear HI; have HI := HJ; clear HJ; try simp only [Act.put, jjA, jjB, jjC, jjD, jjE, jjF])
  clear HI
  have HI : Ix [25, 26] := trivial
  iterate 2 (refine tkA HI (v := ?_) rfl (by kernel_rfl) (fun _ _ _ h => h) (.inl ⟨by rfl, fun wX hSw => ?_⟩) hHeld (fun HJ => ?_); rotate_left; (focus ((try dsimp only at hSw); go_simp; try with_reducible rfl)); clear HI; have HI := HJ; clear HJ; try simp only [Act.put, jjA, jjB, jjC, jjD, jjE, jjF])
  clear HI
  have HI : Ix [27, 28, 29, 30, 31, 32, 33, 34, 35, 36] := trivial
  iterate 10 (refine tkA HI (v := undef) rfl (by kernel_rfl) (fun _ _ _ h => h) (.inr ⟨by rfl, rfl⟩) hHeld (fun HJ => ?_); clear HI; have HI := HJ; clear HJ; try simp only [Act.put, jjA, jjB, jjC, jjD, jjE, jjF])
  clear HI
  have HI : Ix [37] := trivial
  (refine tkA HI (v := ?_) rfl (by kernel_rfl) (fun _ _ _ h => h) (.inl ⟨by rfl, fun wX hSw => ?_⟩) hHeld (fun HJ => ?_); rotate_left; (focus ((try dsimp only at hSw); go_simp; try with_reducible rfl)); clear HI; have HI := HJ; clear HJ; try simp only [Act.put, jjA, jjB, jjC, jjD, jjE, jjF])
  clear HI
  refine wpAnyH_done (by kernel_rfl) ?_ _
  go_wp2
  go_ret
  exact ⟨no_as E2.out (by have := HQ.out; omega), by first | exact HWB.out.trans (HV.out.mono HWB.out.size) | exact HWB.out.trans ((HV.out.drew).mono HWB.out.size)⟩
 by_cases q2 : (p.an : Int) = p.n
 case neg =>
  have f1 : ((p.hn : Int) != p.n) = false := by simpa using q1
  have f2 : ((p.an : Int) != p.n) = true := by simpa using q2
  have HQ := Hk.mk q2
  clear q1 q2
  refine wp_region_held_drew (S := (fun X => (∀ b o, b < V.heap.size → X.cell? ⟨b, o, none⟩ = V.cell? ⟨b, o, none⟩) ∧ Below V.heap.size V X)) (by kernel_rfl) ?_ (fun hHeld => ?_)
  ·exact kw_S (kw_drew HV.out)
  have HI : Ix [0, 1, 2, 3, 4, 5, 6, 7, 8, 9, 10, 11, 12, 13, 14] := trivial
  iterate 15 (refine tkA HI (v := ?_) rfl (by kernel_rfl) (fun _ _ _ h => h) (.inl ⟨by rfl, fun wX hSw => ?_⟩) hHeld (fun HJ => ?_); rotate_left; (focus ((try dsimp only at hSw); go_simp; try with_reducible rfl)); clear HI; have HI := HJ; clear HJ; try simp only [Act.put, jjA, jjB, jjC, jjD, jjE, jjF])
  clear HI
  have HI : Ix [15, 16, 17, 18, 19, 20, 21, 22, 23, 24] := trivial
  iterate 10 (refine tkA HI (v := undef) rfl (by kernel_rfl) (fun _ _ _ h => h) (.inr ⟨by rfl, rfl⟩) hHeld (fun HJ => ?_); clear HI; have HI := HJ; clear HJ; try simp only [Act.put, jjA, jjB, jjC, jjD, jjE, jjF])
  clear HI
  have HI : Ix [25, 26] := trivial
  iterate 2 (refine tkA HI (v := ?_) rfl (by kernel_rfl) (fun _ _ _ h => h) (.inl ⟨by rfl, fun wX hSw => ?_⟩) hHeld (fun HJ => ?_); rotate_left; (focus ((try dsimp only at hSw); go_simp; try with_reducible rfl)); clear HI; have HI := HJ; clear HJ; try simp only [Act.put, jjA, jjB, jjC, jjD, jjE, jjF])
  clear HI
  have HI : Ix [27, 28, 29, 30, 31, 32, 33, 34, 35, 36] := trivial
  iterate 10 (refine tkA HI (v := undef) rfl (by kernel_rfl) (fun _ _ _ h => h) (.inr ⟨by rfl, rfl⟩) hHeld (fun HJ => ?_); clear HI; have HI := HJ; clear HJ; try simp only [Act.put, jjA, jjB, jjC, jjD, jjE, jjF])
  clear HI
  have HI : Ix [37] := trivial
  (refine tkA HI (v := ?_) rfl (by kernel_rfl) (fun _ _ _ h => h) (.inl ⟨by rfl, fun wX hSw => ?_⟩) hHeld (fun HJ => ?_); rotate_left; (focus ((try dsimp only at hSw); go_simp; try with_reducible rfl)); clear HI; have HI := HJ; clear HJ; try simp only [Act.put, jjA, jjB, jjC, jjD, jjE, jjF])
  clear HI
  refine wpAnyH_done (by kernel_rfl) ?_ _
  go_wp2
  go_ret
  exact ⟨no_as E2.out (by have := HQ.out; omega), by first | exact HWB.out.trans (HV.out.mono HWB.out.size) | exact HWB.out.trans ((HV.out.drew).mono HWB.out.size)⟩
 have jn : j < p.hn := by have := HJ.out; omega
 have jm : j < p.an := by have := HJ.out; omega
 obtain ⟨bh, oh, eh, hbh, hch⟩ := HDV.h.rd (by omega)
 obtain ⟨ba, oa, ea, hba, hca⟩ := HDV.a.rd (by omega)
 rw [eh] at c7
 rw [ea] at c8
 obtain ⟨x, hx⟩ : ∃ x, p.hl.getD j 0 = x := ⟨_, rfl⟩
 obtain ⟨y, hy⟩ : ∃ y, p.al.getD j 0 = y := ⟨_, rfl⟩
 have d1 := hch j jn
 have d2 := hca j jm
 rw [hx] at d1
 rw [hy] at d2
 have HXX := Hk.mk hx
 have HYY := Hk.mk hy
 have HCH := Hk.mk hch
 have HCA := Hk.mk hca
 clear hx hy hch hca
 have jn' : (j : Int) < (p.hn : Int) := by omega
 have jm' : (j : Int) < (p.an : Int) := by omega
 have f1 : ((p.hn : Int) != p.n) = false := by simpa using q1
 have f2 : ((p.an : Int) != p.n) = false := by simpa using q2
 have HQ12 : Hk ((p.hn : Int) = p.n ∧ (p.an : Int) = p.n) := ⟨⟨q1, q2⟩⟩
 clear q1 q2
 by_cases q3 : x = p.s
 case neg =>
  have f3 : (x != p.s) = true := by simpa using q3
  have HQ := Hk.mk q3
  clear q3
  refine wp_region_held_drew (S := (fun X => (∀ b o, b < V.heap.size → X.cell? ⟨b, o, none⟩ = V.cell? ⟨b, o, none⟩) ∧ Below V.heap.size V X)) (by kernel_rfl) ?_ (fun hHeld => ?_)
  ·exact kw_S (kw_drew HV.out)
  have HI : Ix [0, 1, 2, 3, 4, 5, 6, 7, 8, 9, 10, 11, 12, 13, 14, 15, 16, 17, 18, 19, 20, 21, 22, 23, 24, 25, 26] := trivial
  iterate 27 (refine tkA HI (v := ?_) rfl (by kernel_rfl) (fun _ _ _ h => h) (.inl ⟨by rfl, fun wX hSw => ?_⟩) hHeld (fun HJ => ?_); rotate_left; (focus ((try dsimp only at hSw); go_simp; try with_reducible rfl)); clear HI; have HI := HJ; clear HJ; try simp only [Act.put, jjA, jjB, jjC, jjD, jjE, jjF])
  clear HI
  have HI : Ix [27, 28, 29, 30, 31, 32, 33, 34, 35, 36] := trivial
  iterate 10 (refine tkA HI (v := undef) rfl (by kernel_rfl) (fun _ _ _ h => h) (.inr ⟨by rfl, rfl⟩) hHeld (fun HJ => ?_); clear HI; have HI := HJ; clear HJ; try simp only [Act.put, jjA, jjB, jjC, jjD, jjE, jjF])
  clear HI
  have HI : Ix [37] := trivial
  (refine tkA HI (v := ?_) rfl (by kernel_rfl) (fun _ _ _ h => h) (.inl ⟨by rfl, fun wX hSw => ?_⟩) hHeld (fun HJ => ?_); rotate_left; (focus ((try dsimp only at hSw); go_simp; try with_reducible rfl)); clear HI; have HI := HJ; clear HJ; try simp only [Act.put, jjA, jjB, jjC, jjD, jjE, jjF])
  clear HI
  refine wpAnyH_done (by kernel_rfl) ?_ _
  go_wp2
  go_ret
  exact ⟨no_as E2.out (fun h => HQ.out (HXX.out.symm.trans h.2.2.1)), by first | exact HWB.out.trans (HV.out.mono HWB.out.size) | exact HWB.out.trans ((HV.out.drew).mono HWB.out.size)⟩
 by_cases q4 : y = p.s
 case neg =>
  have f3 : (x != p.s) = false := by simpa using q3
  have f4 : (y != p.s) = true := by simpa using q4
  have HQ := Hk.mk q4
  clear q3 q4
  refine wp_region_held_drew (S := (fun X => (∀ b o, b < V.heap.size → X.cell? ⟨b, o, none⟩ = V.cell? ⟨b, o, none⟩) ∧ Below V.heap.size V X)) (by kernel_rfl) ?_ (fun hHeld => ?_)
  ·exact kw_S (kw_drew HV.out)
  have HI : Ix [0, 1, 2, 3, 4, 5, 6, 7, 8, 9, 10, 11, 12, 13, 14, 15, 16, 17, 18, 19, 20, 21, 22, 23, 24, 25, 26, 27, 28, 29, 30, 31, 32, 33, 34, 35, 36, 37] := trivial
  iterate 38 (refine tkA HI (v := ?_) rfl (by kernel_rfl) (fun _ _ _ h => h) (.inl ⟨by rfl, fun wX hSw => ?_⟩) hHeld (fun HJ => ?_); rotate_left; (focus ((try dsimp only at hSw); go_simp; try with_reducible rfl)); clear HI; have HI := HJ; clear HJ; try simp only [Act.put, jjA, jjB, jjC, jjD, jjE, jjF])
  clear HI
  refine wpAnyH_done (by kernel_rfl) ?_ _
  go_wp2
  go_ret
  exact ⟨no_as E2.out (fun h => HQ.out (HYY.out.symm.trans h.2.2.2.1)), by first | exact HWB.out.trans (HV.out.mono HWB.out.size) | exact HWB.out.trans ((HV.out.drew).mono HWB.out.size)⟩
 have f3 : (x != p.s) = false := by simpa using q3
 have f4 : (y != p.s) = false := by simpa using q4
 have HQ := Hk.mk (And.intro q3 q4)
 clear q3 q4
 refine wp_region_held_drew (S := (fun X => (∀ b o, b < V.heap.size → X.cell? ⟨b, o, none⟩ = V.cell? ⟨b, o, none⟩) ∧ Below V.heap.size V X)) (by kernel_rfl) ?_ (fun hHeld => ?_)
 ·exact kw_S (kw_drew HV.out)
 have HI : Ix [0, 1, 2, 3, 4, 5, 6, 7, 8, 9, 10, 11, 12, 13, 14, 15, 16, 17, 18, 19, 20, 21, 22, 23, 24, 25, 26, 27, 28, 29, 30, 31, 32, 33, 34, 35, 36, 37] := trivial
 iterate 38 (refine tkA HI (v := ?_) rfl (by kernel_rfl) (fun _ _ _ h => h) (.inl ⟨by rfl, fun wX hSw => ?_⟩) hHeld (fun HJ => ?_); rotate_left; (focus ((try dsimp only at hSw); go_simp; try with_reducible rfl)); clear HI; have HI := HJ; clear HJ; try simp only [Act.put, jjA, jjB, jjC, jjD, jjE, jjF])
 clear HI
 refine wpAnyH_done (by kernel_rfl) ?_ _
 have HV2 : Hk (Below V.heap.size V V.drew) := ⟨HV.out.drew⟩
 have HPC := Hk.mk (show (∀ X, Below V.heap.size V X → X.cell? ⟨w.heap.size, 2, none⟩ = some (.int .i64 p.d) ∧ X.cell? ⟨w.heap.size, 3, none⟩ = some (.int .i64 p.t) ∧ X.cell? ⟨w.heap.size, 4, none⟩ = some (.int .i64 p.s) ∧ X.cell? ⟨w.heap.size, 8, none⟩ = some (.slice (some ⟨ba, oa, none⟩) p.an p.ac) ∧ w.heap.size < X.heap.size) from fun X hX => ⟨(hX.cell (p := ⟨w.heap.size, 2, none⟩) hl).trans c2, (hX.cell (p := ⟨w.heap.size, 3, none⟩) hl).trans c3, (hX.cell (p := ⟨w.heap.size, 4, none⟩) hl).trans c4, (hX.cell (p := ⟨w.heap.size, 8, none⟩) hl).trans c8, Nat.lt_of_lt_of_le hl hX.size⟩)
 have HNA : Hk (p.hn ≤ p.an ∧ p.hn ≤ 8) := ⟨by have := HQ12.out; have := HJ.out; omega⟩
 have HE3 : Hk ((∀ k, k < p.hn → HadP p k) ↔ r = true) := ⟨by
  rw [← E2.out]
  exact ⟨fun h => ⟨HQ12.out.1, HQ12.out.2, HXX.out.trans HQ.out.1, HYY.out.trans HQ.out.2, h⟩, fun h => h.2.2.2.2⟩⟩
 clear E2 c0 c1 c2 c3 c4 c8 d1 d2 f1 f2 f3 f4 jn jm jn' jm' HV HH hHeld HXX HYY gj j0 HJ HQ HQ12
 go_wp2
 go_loopw [46] (fun i wr => ∃ k : Nat, i = .int .i64 k ∧ k ≤ p.hn ∧ Hk (∀ m, m < k → HadP p m) ∧ Hk (Below V.heap.size V wr)) (fun i _ => p.hn - (intOf i).toNat)
 case atStart => exact ⟨0, rfl, Nat.zero_le _, ⟨fun m hm => absurd hm (by omega)⟩, HV2⟩
 case round =>
  clear HV2 c7
  obtain ⟨k, rfl, hk, HD, HV⟩ := hrel
  by_cases hlt : k < p.hn
  ·obtain ⟨x2, x3, x4, x8, xl⟩ := HPC.out _ HV.out
   obtain ⟨u, hu⟩ : ∃ u, p.hl.getD k 0 = u := ⟨_, rfl⟩
   obtain ⟨v, hv⟩ : ∃ v, p.al.getD k 0 = v := ⟨_, rfl⟩
   have d1 := (HV.out.cell (p := ⟨bh, oh + k, none⟩) hbh).trans (HCH.out k hlt)
   have d2 := (HV.out.cell (p := ⟨ba, oa + k, none⟩) hba).trans (HCA.out k (by have := HNA.out; omega))
   rw [hu] at d1
   rw [hv] at d2
   have HU := Hk.mk hu
   have HW := Hk.mk hv
   obtain ⟨y1, y2, y3, y4, y5, y6⟩ := HT.out
   obtain ⟨mx, hmx⟩ : ∃ m, max p.d p.t = m := ⟨_, rfl⟩
   obtain ⟨mi, hmi⟩ : ∃ m, min (p.t + 16) 1099511627776 = m := ⟨_, rfl⟩
   have HMX : Hk (max p.d p.t - 1 = mx - 1 ∧ (∀ z, mi < z ↔ ¬ (z ≤ p.t + 16 ∧ z ≤ 1099511627776))) := ⟨by rw [hmx], fun z => by omega⟩
   have g1 : IntKind.i64.wrap (mx - 1) = mx - 1 := wr27 (by omega) (by omega)
   have g2 : IntKind.i64.wrap (p.t + 16) = p.t + 16 := wr27 (by omega) (by omega)
   have g3 : IntKind.i64.wrap (p.d - 1) = p.d - 1 := wr27 (by omega) (by omega)
   obtain ⟨b1, q1⟩ : ∃ b, decide (u < mx - 1) = b := ⟨_, rfl⟩
   obtain ⟨b2, q2⟩ : ∃ b, decide (mi < u) = b := ⟨_, rfl⟩
   obtain ⟨b3, q3⟩ : ∃ b, decide (v < p.d - 1) = b := ⟨_, rfl⟩
   obtain ⟨b4, q4⟩ : ∃ b, decide (p.s < v) = b := ⟨_, rfl⟩
   have HQD : Hk (HadP p k ↔ (b1 = false ∧ b2 = false ∧ b3 = false ∧ b4 = false)) := ⟨by
    have z1 := HMX.out.2 u
    have z2 := HMX.out.1
    unfold HadP
    rw [← q1, ← q2, ← q3, ← q4, decide_eq_false_iff_not, decide_eq_false_iff_not, decide_eq_false_iff_not, decide_eq_false_iff_not, hu, hv, z2]
    omega⟩
   have HF : Hk (¬ HadP p k → ¬ (∀ k, k < p.hn → HadP p k)) := ⟨fun h g => h (g k hlt)⟩
   have t0 : (0 : Int) ≤ (k : Int) := by omega
   have t1 : (k : Int) < (p.hn : Int) := by omega
   have t2 : (k : Int) < (p.an : Int) := by have := HNA.out; omega
   have t3 : k < p.an := by have := HNA.out; omega
   have hbr : ba < wr.heap.size := Nat.lt_of_lt_of_le hba HV.out.size
   have HLT := Hk.mk hlt
   have gk : IntKind.i64.wrap ((k : Int) + 1) = ((k + 1 : Nat) : Int) := by have := HNA.out; push_cast; exact wr27 (by omega) (by omega)
   have HR : Hk (Below wr.heap.size wr wr) := ⟨Below.refl _ _⟩
   clear y1 y2 y3 y4 y5 y6 hu hv hk
   go_upto_region 6 with fail
   cases b1
   case true =>
    refine wp_region_held_drew (S := (fun X => (∀ b o, b < wr.heap.size → X.cell? ⟨b, o, none⟩ = wr.cell? ⟨b, o, none⟩) ∧ Below wr.heap.size wr X)) (by kernel_rfl) ?_ (fun hHeld => ?_)
    ·exact kw_S (kw_drew HR.out)
    have HI : Ix [0, 1, 2, 3, 4, 5, 6, 7, 8] := trivial
    iterate 9 (refine tkA HI (v := ?_) rfl (by kernel_rfl) (fun _ _ _ h => h) (.inl ⟨by rfl, fun wX hSw => ?_⟩) hHeld (fun HJ => ?_); rotate_left; (focus ((try dsimp only at hSw); go_simp; try with_reducible rfl)); clear HI; have HI := HJ; clear HJ; try simp only [Act.put, jjA, jjB, jjC, jjD, jjE, jjF])
    clear HI
    have HI : Ix [9, 10, 11, 12, 13, 14] := trivial
    iterate 6 (refine tkA HI (v := undef) rfl (by kernel_rfl) (fun _ _ _ h => h) (.inr ⟨by rfl, rfl⟩) hHeld (fun HJ => ?_); clear HI; have HI := HJ; clear HJ; try simp only [Act.put, jjA, jjB, jjC, jjD, jjE, jjF])
    clear HI
    have HI : Ix [15, 16] := trivial
    iterate 2 (refine tkA HI (v := ?_) rfl (by kernel_rfl) (fun _ _ _ h => h) (.inl ⟨by rfl, fun wX hSw => ?_⟩) hHeld (fun HJ => ?_); rotate_left; (focus ((try dsimp only at hSw); go_simp; try with_reducible rfl)); clear HI; have HI := HJ; clear HJ; try simp only [Act.put, jjA, jjB, jjC, jjD, jjE, jjF])
    clear HI
    have HI : Ix [17, 18, 19, 20, 21, 22, 23, 24, 25] := trivial
    iterate 9 (refine tkA HI (v := undef) rfl (by kernel_rfl) (fun _ _ _ h => h) (.inr ⟨by rfl, rfl⟩) hHeld (fun HJ => ?_); clear HI; have HI := HJ; clear HJ; try simp only [Act.put, jjA, jjB, jjC, jjD, jjE, jjF])
    clear HI
    have HI : Ix [26, 27] := trivial
    iterate 2 (refine tkA HI (v := ?_) rfl (by kernel_rfl) (fun _ _ _ h => h) (.inl ⟨by rfl, fun wX hSw => ?_⟩) hHeld (fun HJ => ?_); rotate_left; (focus ((try dsimp only at hSw); go_simp; try with_reducible rfl)); clear HI; have HI := HJ; clear HJ; try simp only [Act.put, jjA, jjB, jjC, jjD, jjE, jjF])
    clear HI
    have HI : Ix [28, 29, 30, 31, 32, 33, 34, 35] := trivial
    iterate 8 (refine tkA HI (v := undef) rfl (by kernel_rfl) (fun _ _ _ h => h) (.inr ⟨by rfl, rfl⟩) hHeld (fun HJ => ?_); clear HI; have HI := HJ; clear HJ; try simp only [Act.put, jjA, jjB, jjC, jjD, jjE, jjF])
    clear HI
    have HI : Ix [36] := trivial
    (refine tkA HI (v := ?_) rfl (by kernel_rfl) (fun _ _ _ h => h) (.inl ⟨by rfl, fun wX hSw => ?_⟩) hHeld (fun HJ => ?_); rotate_left; (focus ((try dsimp only at hSw); go_simp; try with_reducible rfl)); clear HI; have HI := HJ; clear HJ; try simp only [Act.put, jjA, jjB, jjC, jjD, jjE, jjF])
    clear HI
    refine wpAnyH_done (by kernel_rfl) ?_ _
    go_wp2
    go_ret
    exact ⟨no_as HE3.out (HF.out fun h => by have := HQD.out.1 h; simp at this), by first | exact HWB.out.trans (HV.out.mono HWB.out.size) | exact HWB.out.trans ((HV.out.drew).mono HWB.out.size)⟩
   cases b2
   case true =>
    refine wp_region_held_drew (S := (fun X => (∀ b o, b < wr.heap.size → X.cell? ⟨b, o, none⟩ = wr.cell? ⟨b, o, none⟩) ∧ Below wr.heap.size wr X)) (by kernel_rfl) ?_ (fun hHeld => ?_)
    ·exact kw_S (kw_drew HR.out)
    have HI : Ix [0, 1, 2, 3, 4, 5, 6, 7, 8, 9, 10, 11, 12, 13, 14, 15, 16] := trivial
    iterate 17 (refine tkA HI (v := ?_) rfl (by kernel_rfl) (fun _ _ _ h => h) (.inl ⟨by rfl, fun wX hSw => ?_⟩) hHeld (fun HJ => ?_); rotate_left; (focus ((try dsimp only at hSw); go_simp; try with_reducible rfl)); clear HI; have HI := HJ; clear HJ; try simp only [Act.put, jjA, jjB, jjC, jjD, jjE, jjF])
    clear HI
    have HI : Ix [17, 18, 19, 20, 21, 22, 23, 24, 25] := trivial
    iterate 9 (refine tkA HI (v := undef) rfl (by kernel_rfl) (fun _ _ _ h => h) (.inr ⟨by rfl, rfl⟩) hHeld (fun HJ => ?_); clear HI; have HI := HJ; clear HJ; try simp only [Act.put, jjA, jjB, jjC, jjD, jjE, jjF])
    clear HI
    have HI : Ix [26, 27] := trivial
    iterate 2 (refine tkA HI (v := ?_) rfl (by kernel_rfl) (fun _ _ _ h => h) (.inl ⟨by rfl, fun wX hSw => ?_⟩) hHeld (fun HJ => ?_); rotate_left; (focus ((try dsimp only at hSw); go_simp; try with_reducible rfl)); clear HI; have HI := HJ; clear HJ; try simp only [Act.put, jjA, jjB, jjC, jjD, jjE, jjF])
    clear HI
    have HI : Ix [28, 29, 30, 31, 32, 33, 34, 35] := trivial
    iterate 8 (refine tkA HI (v := undef) rfl (by kernel_rfl) (fun _ _ _ h => h) (.inr ⟨by rfl, rfl⟩) hHeld (fun HJ => ?_); clear HI; have HI := HJ; clear HJ; try simp only [Act.put, jjA, jjB, jjC, jjD, jjE, jjF])
    clear HI
    have HI : Ix [36] := trivial
    (refine tkA HI (v := ?_) rfl (by kernel_rfl) (fun _ _ _ h => h) (.inl ⟨by rfl, fun wX hSw => ?_⟩) hHeld (fun HJ => ?_); rotate_left; (focus ((try dsimp only at hSw); go_simp; try with_reducible rfl)); clear HI; have HI := HJ; clear HJ; try simp only [Act.put, jjA, jjB, jjC, jjD, jjE, jjF])
    clear HI
    refine wpAnyH_done (by kernel_rfl) ?_ _
    go_wp2
    go_ret
    exact ⟨no_as HE3.out (HF.out fun h => by have := HQD.out.1 h; simp at this), by first | exact HWB.out.trans (HV.out.mono HWB.out.size) | exact HWB.out.trans ((HV.out.drew).mono HWB.out.size)⟩
   cases b3
   case true =>
    refine wp_region_held_drew (S := (fun X => (∀ b o, b < wr.heap.size → X.cell? ⟨b, o, none⟩ = wr.cell? ⟨b, o, none⟩) ∧ Below wr.heap.size wr X)) (by kernel_rfl) ?_ (fun hHeld => ?_)
    ·exact kw_S (kw_drew HR.out)
    have HI : Ix [0, 1, 2, 3, 4, 5, 6, 7, 8, 9, 10, 11, 12, 13, 14, 15, 16, 17, 18, 19, 20, 21, 22, 23, 24, 25, 26, 27] := trivial
    iterate 28 (refine tkA HI (v := ?_) rfl (by kernel_rfl) (fun _ _ _ h => h) (.inl ⟨by rfl, fun wX hSw => ?_⟩) hHeld (fun HJ => ?_); rotate_left; (focus ((try dsimp only at hSw); go_simp; try with_reducible rfl)); clear HI; have HI := HJ; clear HJ; try simp only [Act.put, jjA, jjB, jjC, jjD, jjE, jjF])
    clear HI
    have HI : Ix [28, 29, 30, 31, 32, 33, 34, 35] := trivial
    iterate 8 (refine tkA HI (v := undef) rfl (by kernel_rfl) (fun _ _ _ h => h) (.inr ⟨by rfl, rfl⟩) hHeld (fun HJ => ?_); clear HI; have HI := HJ; clear HJ; try simp only [Act.put, jjA, jjB, jjC, jjD, jjE, jjF])
    clear HI
    have HI : Ix [36] := trivial
    (refine tkA HI (v := ?_) rfl (by kernel_rfl) (fun _ _ _ h => h) (.inl ⟨by rfl, fun wX hSw => ?_⟩) hHeld (fun HJ => ?_); rotate_left; (focus ((try dsimp only at hSw); go_simp; try with_reducible rfl)); clear HI; have HI := HJ; clear HJ; try simp only [Act.put, jjA, jjB, jjC, jjD, jjE, jjF])
    clear HI
    refine wpAnyH_done (by kernel_rfl) ?_ _
    go_wp2
    go_ret
    exact ⟨no_as HE3.out (HF.out fun h => by have := HQD.out.1 h; simp at this), by first | exact HWB.out.trans (HV.out.mono HWB.out.size) | exact HWB.out.trans ((HV.out.drew).mono HWB.out.size)⟩
   cases b4
   case true =>
    refine wp_region_held_drew (S := (fun X => (∀ b o, b < wr.heap.size → X.cell? ⟨b, o, none⟩ = wr.cell? ⟨b, o, none⟩) ∧ Below wr.heap.size wr X)) (by kernel_rfl) ?_ (fun hHeld => ?_)
    ·exact kw_S (kw_drew HR.out)
    have HI : Ix [0, 1, 2, 3, 4, 5, 6, 7, 8, 9, 10, 11, 12, 13, 14, 15, 16, 17, 18, 19, 20, 21, 22, 23, 24, 25, 26, 27, 28, 29, 30, 31, 32, 33, 34, 35, 36] := trivial
    iterate 37 (refine tkA HI (v := ?_) rfl (by kernel_rfl) (fun _ _ _ h => h) (.inl ⟨by rfl, fun wX hSw => ?_⟩) hHeld (fun HJ => ?_); rotate_left; (focus ((try dsimp only at hSw); go_simp; try with_reducible rfl)); clear HI; have HI := HJ; clear HJ; try simp only [Act.put, jjA, jjB, jjC, jjD, jjE, jjF])
    clear HI
    refine wpAnyH_done (by kernel_rfl) ?_ _
    go_wp2
    go_ret
    exact ⟨no_as HE3.out (HF.out fun h => by have := HQD.out.1 h; simp at this), by first | exact HWB.out.trans (HV.out.mono HWB.out.size) | exact HWB.out.trans ((HV.out.drew).mono HWB.out.size)⟩
   have HD2 : Hk (∀ m, m < k + 1 → HadP p m) := ⟨fun m hm => by
    by_cases e : m = k
    ·rw [e]; exact HQD.out.2 ⟨rfl, rfl, rfl, rfl⟩
    ·exact HD.out m (by omega)⟩
   have HVD : Hk (Below V.heap.size V wr.drew) := ⟨HV.out.drew⟩
   refine wp_region_held_drew (S := (fun X => (∀ b o, b < wr.heap.size → X.cell? ⟨b, o, none⟩ = wr.cell? ⟨b, o, none⟩) ∧ Below wr.heap.size wr X)) (by kernel_rfl) ?_ (fun hHeld => ?_)
   ·exact kw_S (kw_drew HR.out)
   have HI : Ix [0, 1, 2, 3, 4, 5, 6, 7, 8, 9, 10, 11, 12, 13, 14, 15, 16, 17, 18, 19, 20, 21, 22, 23, 24, 25, 26, 27, 28, 29, 30, 31, 32, 33, 34, 35, 36] := trivial
   iterate 37 (refine tkA HI (v := ?_) rfl (by kernel_rfl) (fun _ _ _ h => h) (.inl ⟨by rfl, fun wX hSw => ?_⟩) hHeld (fun HJ => ?_); rotate_left; (focus ((try dsimp only at hSw); go_simp; try with_reducible rfl)); clear HI; have HI := HJ; clear HJ; try simp only [Act.put, jjA, jjB, jjC, jjD, jjE, jjF])
   clear HI
   refine wpAnyH_done (by kernel_rfl) ?_ _
   go_wp2
   exact ⟨⟨k + 1, by go_num, HLT.out, HD2, by first | exact HVD | exact HV⟩, by first | exact nx_ms HLT.out | exact nx_ms' HLT.out⟩
  ·obtain rfl : k = p.hn := by omega
   go_wp2
   go_ret
   exact ⟨yes_as HE3.out HD.out, HWB.out.trans (HV.out.mono HWB.out.size)⟩
end Go.Proofs.Ytdpblimhfmfbnaa
