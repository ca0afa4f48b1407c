import Derived.Deep.QuietTactic
import Derived.BigQuiet
import Derived.Deep.RegionWith
import Derived.Deep.RegionHeld3
import Derived.Deep.DeepCutAuto
import Derived.Deep.DeepFit
import Derived.Outline
import Derived.Test.YtdpblimhfmfbnaaGreatZval
import Derived.Test.YtdpblimhfmfbnaaGreatZvaf
import Derived.Test.YtdpblimhfmfbnaaGreatZva
import Derived.Deep.RegionLaw
import Derived.Lib.SlBuf
import Derived.Deep.Upon
import Derived.Test.YtdpblimhfmfbnaaGreatZvae
import Derived.Test.YtdpblimhfmfbnaaGreatZvac
import Derived.Test.YtdpblimhfmfbnaaGreatZvab
import Derived.Test.YtdpblimhfmfbnaaGreatZvad
set_option linter.unusedVariables false
set_option linter.unusedSimpArgs false
namespace Go.Proofs.YtdpblimhfmfbnaaGreat
open Go.ChangeShapes Go.WideShapes Go.ChangeAt Go.RowKit Go.Deep
theorem within_five (w : World) : Calls Tryz.prog 18 #[.int .i64 5, .int .i64 9] w fun e w' => e = .returned (.int .i64 5) ∧ ∃ m, w' = w.drewN m := by
 go_enter Tryz.func18, Tryz.ntmps18
 go_wp2
 go_ret
 exact ⟨rfl, 0, rfl⟩
theorem within_seven (w : World) : Calls Tryz.prog 18 #[.int .i64 7, .int .i64 9] w fun e w' => e = .returned (.int .i64 7) ∧ ∃ m, w' = w.drewN m := by
 go_enter Tryz.func18, Tryz.ntmps18
 go_wp2
 go_ret
 exact ⟨rfl, 0, rfl⟩
end Go.Proofs.YtdpblimhfmfbnaaGreat
namespace Go.Proofs.YtdpblimhfmfbnaaGreat
open List renaming getElem_toArray → jjA, getElem_cons_succ → jjB, getElem_cons_zero → jjC, setIfInBounds_toArray → jjD, set_cons_zero → jjE, set_cons_succ → jjF
open Go.ChangeShapes Go.WideShapes Go.ChangeAt Go.RowKit Go.Deep
structure Nm where
 f : Int
 t : Int
 q : In
 d : Int
 h : Int
 v : Int
def Nv.ab (e : Nv) : Nm := ⟨e.f, e.t, e.q.ab, e.d, e.h, e.v⟩
def abN (l : List Nv) : List Nm := l.map Nv.ab
def shN : Sh Nv := ⟨Nv.cs, 8, fun _ => rfl, fun x u hu => by
 simp [Nv.cs] at hu
 rcases hu with rfl | rfl | rfl | rfl | rfl | rfl | rfl | rfl <;> rfl⟩
structure NsD (w : World) (B : Nat) (a : Option Addr) (n : Nat) (l : List Nv) : Prop where
 q : Qv shN w B a n l
 u : ∀ x, x ∈ l → CmD w B x.q.a x.q.n x.q.l
theorem NsD.later {w w' : World} {a : Option Addr} {n : Nat} {l : List Nv} (h : NsD w w.heap.size a n l) (hb : Below w.heap.size w w') : NsD w' w'.heap.size a n l := ⟨(h.q.below hb (Nat.le_refl _)).mono hb.size, fun x hx => (h.u x hx).later hb⟩
theorem NsD.nil (w : World) (B : Nat) (a : Option Addr) : NsD w B a 0 [] := ⟨Qv.nil _ _ _, fun _ h => by cases h⟩
theorem abN_len (l : List Nv) : (abN l).length = l.length := List.length_map _
theorem NsD.eight {w : World} {B : Nat} {a : Option Addr} {n : Nat} {l : List Nv} (h : NsD w B a n l) {k : Nat} (hk : k < n) {q : Nv} (hq : l.getD k default = q) : CmD w B q.q.a q.q.n q.q.l ∧ q ∈ l ∧ ∃ b off, a = some ⟨b, off, none⟩ ∧ b < B ∧ ∀ j, j < 8 → w.cell? ⟨b, off + k * 8 + j, none⟩ = q.cs[j]? := by
 obtain ⟨b, off, e, hlt, hc⟩ := h.q.rd (by omega)
 have hk' : k < l.length := by rw [h.q.len]; exact hk
 have hg : l.getD k default = l[k] := by simp [List.getD, hk']
 rw [hg] at hq
 subst hq
 exact ⟨h.u _ (List.getElem_mem hk'), List.getElem_mem hk', b, off, e, hlt, fun j hj => hc k hk' j hj⟩
theorem ab_getN {l l' : List Nv} (h : abN l = abN l') {k : Nat} (hk : k < l.length) : (l.getD k default).ab = (l'.getD k default).ab := by
 have hk' : k < l'.length := by have := congrArg List.length h; rw [abN_len, abN_len] at this; omega
 have e := congrArg (fun m => m[k]?) h
 simp only [abN] at e
 have g : ∀ {m : List Nv}, k < m.length → (m.map Nv.ab)[k]? = some (m.getD k default).ab := fun {m} hm => by simp [List.getD, hm]
 rw [g hk, g hk'] at e
 injection e
set_option maxRecDepth 100000 in
set_option maxHeartbeats 1600000 in
theorem eqnote_yes (f t qt qp d h v : Int) (a a' : Option Addr) (n n' c c' : Nat) (l l' : List Cv) (w : World) (hd : CmD w w.heap.size a n l) (hd' : CmD w w.heap.size a' n' l') (hs : SmC l) (hs' : SmC l') (E : abC l = abC l') :
  Calls Tryz.prog 39 #[.agg #[.int .i64 f, .int .i64 t, .int .i64 qt, .int .i64 qp, .slice a n c, .int .i64 d, .int .u64 h, .int .i64 v], .agg #[.int .i64 f, .int .i64 t, .int .i64 qt, .int .i64 qp, .slice a' n' c', .int .i64 d, .int .u64 h, .int .i64 v]] w fun e w' => e = .returned (.bool true) ∧ Below w.heap.size w w' := by
 have HBW : Hk (Below w.heap.size w ((w.alloc (.cells #[.int .i64 f, .int .i64 t, .int .i64 qt, .int .i64 qp, .slice a n c, .int .i64 d, .int .u64 h, .int .i64 v] 43)).alloc (.cells #[.int .i64 f, .int .i64 t, .int .i64 qt, .int .i64 qp, .slice a' n' c', .int .i64 d, .int .u64 h, .int .i64 v] 43))) := ⟨((Below.refl _ _).alloc (Nat.le_refl _) _).alloc (by simp) _⟩
 have HN := Hk.mk (hd.later HBW.out)
 have HN' := Hk.mk (hd'.later HBW.out)
 have HS := Hk.mk hs
 have HS' := Hk.mk hs'
 have HE := Hk.mk E
 clear hd hd' hs hs' E
 have e1 : (w.alloc (.cells #[.int .i64 f, .int .i64 t, .int .i64 qt, .int .i64 qp, .slice a n c, .int .i64 d, .int .u64 h, .int .i64 v] 43)).heap.size = w.heap.size + 1 := by simp
 have HPA : Hk (Bk ((w.alloc (.cells #[.int .i64 f, .int .i64 t, .int .i64 qt, .int .i64 qp, .slice a n c, .int .i64 d, .int .u64 h, .int .i64 v] 43)).alloc (.cells #[.int .i64 f, .int .i64 t, .int .i64 qt, .int .i64 qp, .slice a' n' c', .int .i64 d, .int .u64 h, .int .i64 v] 43)) w.heap.size #[.int .i64 f, .int .i64 t, .int .i64 qt, .int .i64 qp, .slice a n c, .int .i64 d, .int .u64 h, .int .i64 v]) := ⟨(Bk.new w #[.int .i64 f, .int .i64 t, .int .i64 qt, .int .i64 qp, .slice a n c, .int .i64 d, .int .u64 h, .int .i64 v] 43).al _⟩
 have HPB : Hk (Bk ((w.alloc (.cells #[.int .i64 f, .int .i64 t, .int .i64 qt, .int .i64 qp, .slice a n c, .int .i64 d, .int .u64 h, .int .i64 v] 43)).alloc (.cells #[.int .i64 f, .int .i64 t, .int .i64 qt, .int .i64 qp, .slice a' n' c', .int .i64 d, .int .u64 h, .int .i64 v] 43)) (w.heap.size + 1) #[.int .i64 f, .int .i64 t, .int .i64 qt, .int .i64 qp, .slice a' n' c', .int .i64 d, .int .u64 h, .int .i64 v]) := ⟨by rw [← e1]; exact Bk.new (w.alloc (.cells #[.int .i64 f, .int .i64 t, .int .i64 qt, .int .i64 qp, .slice a n c, .int .i64 d, .int .u64 h, .int .i64 v] 43)) #[.int .i64 f, .int .i64 t, .int .i64 qt, .int .i64 qp, .slice a' n' c', .int .i64 d, .int .u64 h, .int .i64 v] 43⟩
 clear e1
 go_enter Tryz.func39, Tryz.ntmps39
 go_upto_region 1 with fail
 generalize ((w.alloc (.cells #[.int .i64 f, .int .i64 t, .int .i64 qt, .int .i64 qp, .slice a n c, .int .i64 d, .int .u64 h, .int .i64 v] 43)).alloc (.cells #[.int .i64 f, .int .i64 t, .int .i64 qt, .int .i64 qp, .slice a' n' c', .int .i64 d, .int .u64 h, .int .i64 v] 43)) = V at *
 have x0 := HPA.out.c 0; have x1 := HPA.out.c 1; have x2 := HPA.out.c 2; have x3 := HPA.out.c 3; have x4 := HPA.out.c 4; have y0 := HPB.out.c 0; have y1 := HPB.out.c 1; have y2 := HPB.out.c 2; have y3 := HPB.out.c 3; have y4 := HPB.out.c 4; simp at x0 x1 x2 x3 x4 y0 y1 y2 y3 y4
 go_wp2_with (go_at_call 23; (with_reducible refine (eqin_as true qt qp a n c l qt qp a' n' c' l' _ HN.out HN'.out HS.out HS'.out ⟨⟨fun _ => rfl, fun _ => by rw [HE.out]⟩⟩).mono ?_); rintro e z ⟨rfl, hb⟩; have HB := Hk.mk (HBW.out.trans (hb.mono HBW.out.size)); have HA2 := HPA.out.below hb; have HB2 := HPB.out.below hb; clear hb; have u5 := HA2.c 5; have u6 := HA2.c 6; have u7 := HA2.c 7; have v5 := HB2.c 5; have v6 := HB2.c 6; have v7 := HB2.c 7; simp at u5 u6 u7 v5 v6 v7; clear HA2 HB2)
 go_ret
 exact ⟨rfl, HB.out⟩
set_option maxRecDepth 100000 in
set_option maxHeartbeats 1600000 in
theorem eqnotes_yes (a a' : Option Addr) (n c c' : Nat) (l l' : List Nv) (w : World) (h : NsD w w.heap.size a n l) (h' : NsD w w.heap.size a' n l') (hn : n ≤ 1048576) (hs : ∀ x, x ∈ l → SmC x.q.l) (hs' : ∀ x, x ∈ l' → SmC x.q.l) (E : abN l = abN l') :
  Calls Tryz.prog 43 #[.slice a n c, .slice a' n c'] w fun e w' => e = .returned (.bool true) ∧ Below w.heap.size w w' := by
 have HH := Hk.mk h
 have HH' := Hk.mk h'
 have HS := Hk.mk hs
 have HS' := Hk.mk hs'
 have HEE := Hk.mk E
 clear h h' hs hs' E
 go_enter Tryz.func43, Tryz.ntmps43
 go_wp2
 go_loopw [5] (fun i wr => ∃ k : Nat, i = .int .i64 k ∧ k ≤ n ∧ Hk (Below w.heap.size w wr)) (fun i _ => n - (intOf i).toNat)
 case atStart => exact ⟨0, rfl, Nat.zero_le _, ⟨Below.refl _ _⟩⟩
 case round =>
  obtain ⟨k, rfl, hk, HB⟩ := hrel
  by_cases hlt : k < n
  ·obtain ⟨q, hq⟩ : ∃ q, l.getD k default = q := ⟨_, rfl⟩
   obtain ⟨q', hq'⟩ : ∃ q, l'.getD k default = q := ⟨_, rfl⟩
   have hkl : k < l.length := by rw [HH.out.q.len]; exact hlt
   have hab := ab_getN HEE.out hkl
   rw [hq, hq'] at hab
   obtain ⟨hN, hm, b, off, rfl, hbl, hc⟩ := (HH.out.later HB.out).eight hlt hq
   obtain ⟨hN', hm', b', off', rfl, hbl', hc'⟩ := (HH'.out.later HB.out).eight hlt hq'
   have HN := Hk.mk hN
   have HN' := Hk.mk hN'
   have HM := Hk.mk (HS.out q hm)
   have HM' := Hk.mk (HS'.out q' hm')
   unfold Nv.ab at hab
   injection hab with h1 h2 h3 h4 h5 h6
   have h7 : q.q.t = q'.q.t := congrArg In.t h3
   have h8 : q.q.p = q'.q.p := congrArg In.p h3
   have h9 : abC q.q.l = abC q'.q.l := congrArg In.l h3
   have hn9 : q.q.n = q'.q.n := by have e := congrArg List.length h9; rw [abC_len, abC_len] at e; have e1 := hN.q.len; have e2 := hN'.q.len; omega
   have HE := Hk.mk h9
   have p0 : wr.cell? ⟨b, off + k * 8, none⟩ = some (.int .i64 q.f) := hc 0 (by decide)
   have p1 : wr.cell? ⟨b, off + k * 8 + 1, none⟩ = some (.int .i64 q.t) := hc 1 (by decide)
   have p2 : wr.cell? ⟨b, off + k * 8 + 2, none⟩ = some (.int .i64 q.q.t) := hc 2 (by decide)
   have p3 : wr.cell? ⟨b, off + k * 8 + 3, none⟩ = some (.int .i64 q.q.p) := hc 3 (by decide)
   have p4 : wr.cell? ⟨b, off + k * 8 + 4, none⟩ = some (.slice q.q.a q.q.n q.q.c) := hc 4 (by decide)
   have p5 : wr.cell? ⟨b, off + k * 8 + 5, none⟩ = some (.int .i64 q.d) := hc 5 (by decide)
   have p6 : wr.cell? ⟨b, off + k * 8 + 6, none⟩ = some (.int .u64 q.h) := hc 6 (by decide)
   have p7 : wr.cell? ⟨b, off + k * 8 + 7, none⟩ = some (.int .i64 q.v) := hc 7 (by decide)
   have q0 : wr.cell? ⟨b', off' + k * 8, none⟩ = some (.int .i64 q.f) := by rw [h1]; exact hc' 0 (by decide)
   have q1 : wr.cell? ⟨b', off' + k * 8 + 1, none⟩ = some (.int .i64 q.t) := by rw [h2]; exact hc' 1 (by decide)
   have q2 : wr.cell? ⟨b', off' + k * 8 + 2, none⟩ = some (.int .i64 q.q.t) := by rw [h7]; exact hc' 2 (by decide)
   have q3 : wr.cell? ⟨b', off' + k * 8 + 3, none⟩ = some (.int .i64 q.q.p) := by rw [h8]; exact hc' 3 (by decide)
   have q4 : wr.cell? ⟨b', off' + k * 8 + 4, none⟩ = some (.slice q'.q.a q'.q.n q'.q.c) := hc' 4 (by decide)
   have q5 : wr.cell? ⟨b', off' + k * 8 + 5, none⟩ = some (.int .i64 q.d) := by rw [h4]; exact hc' 5 (by decide)
   have q6 : wr.cell? ⟨b', off' + k * 8 + 6, none⟩ = some (.int .u64 q.h) := by rw [h5]; exact hc' 6 (by decide)
   have q7 : wr.cell? ⟨b', off' + k * 8 + 7, none⟩ = some (.int .i64 q.v) := by rw [h6]; exact hc' 7 (by decide)
   have t0 : (0 : Int) ≤ (k : Int) := by omega
   have t1 : (k : Int) < (n : Int) := by omega
   have HLT := Hk.mk hlt
   have HV : Hk (Below wr.heap.size wr wr) := ⟨Below.refl _ _⟩
   clear hc hc' h1 h2 h3 h4 h5 h6 h7 h8 h9 hn9 hq hq' hkl hN hN' hm hm'
   go_upto_region 6 with fail
   refine wp_region_held_drew (S := (fun X => (∀ b o, b < wr.heap.size → X.cell? ⟨b, o, none⟩ = wr.cell? ⟨b, o, none⟩) ∧ Below wr.heap.size wr X)) (by kernel_rfl) ?_ (fun hHeld => ?_)
   ·exact kw_S (kw_drew HV.out)
   have HI : Ix [0, 1, 2, 3, 4, 5, 6, 7] := trivial
   iterate 8 (refine tkA HI (v := ?_) rfl (by kernel_rfl) (fun _ _ _ h => h) (.inl ⟨by rfl, fun wX hSw => ?_⟩) hHeld (fun HJ => ?_); rotate_left; (focus ((try dsimp only at hSw); go_simp; try with_reducible rfl)); clear HI; have HI := HJ; clear HJ; try simp only [Act.put, jjA, jjB, jjC, jjD, jjE, jjF])
   clear HI
   refine wpAnyH_ready (rs := [8]) (by kernel_rfl) (by simp) ?_
   refine AllReadyH.cons rfl (fun K hK => ?_) (AllReadyH.nil)
   go_simp
   ((go_at_call 39; (with_reducible refine (eqnote_yes q.f q.t q.q.t q.q.p q.d q.h q.v q.q.a q'.q.a q.q.n q'.q.n q.q.c q'.q.c q.q.l q'.q.l _ (by first | exact (HN.out.below HV.out (Nat.le_refl _)).mono HV.out.size | exact (HN.out.below HV.out.drew (Nat.le_refl _)).mono HV.out.drew.size) (by first | exact (HN'.out.below HV.out (Nat.le_refl _)).mono HV.out.size | exact (HN'.out.below HV.out.drew (Nat.le_refl _)).mono HV.out.drew.size) HM.out HM'.out HE.out).mono ?_); rintro e z ⟨rfl, hb⟩; have hB2 : Hk (Below wr.heap.size wr z) := ⟨by first | exact kw_step HV.out (Nat.le_refl _) hb | exact kw_step HV.out.drew (Nat.le_refl _) hb⟩; clear hb; replace HV := hB2; clear hB2))
   refine hK.out _ _ ?_ (fun hHeld => ?_)
   ·exact kw_S HV.out
   clear hK K
   (try simp only [Act.put, jjA, jjB, jjC, jjD, jjE, jjF])
   have HI : Ix [9] := trivial
   (refine tkA HI (v := ?_) rfl (by kernel_rfl) (fun _ _ _ h => h) (.inl ⟨by rfl, fun wX hSw => ?_⟩) hHeld (fun HJ => ?_); rotate_left; (focus ((try dsimp only at hSw); go_simp; try with_reducible rfl)); clear HI; have HI := HJ; clear HJ; try simp only [Act.put, jjA, jjB, jjC, jjD, jjE, jjF])
   clear HI
   refine wpAnyH_done (by kernel_rfl) ?_ _
   have HB2 := Hk.mk (HB.out.trans (HV.out.mono HB.out.size))
   go_wp2
   exact ⟨⟨k + 1, by go_num, HLT.out, HB2⟩, by first | exact nx_ms HLT.out | exact nx_ms' HLT.out⟩
  ·obtain rfl : k = n := by omega
   go_wp2
   go_ret
   exact ⟨rfl, HB.out⟩
end Go.Proofs.YtdpblimhfmfbnaaGreat
namespace Go.Proofs.YtdpblimhfmfbnaaGreat
open Go.ChangeShapes Go.WideShapes Go.ChangeAt Go.RowKit Go.Deep
theorem zero_u64 (w : World) : (zeroValue 41).run Tryz.prog w = .ok (.int .u64 0) w := by kernel_rfl
theorem run_clear_u (w : World) (ty : TypeId) (b o c : Nat) (hc : ∀ j, j < 1 → (w.cell? ⟨b, o + j, none⟩).isSome = true) (hf : ∀ j, j < 1 → w.frozen? ⟨b, o + j, none⟩ = false) :
  (Builtin.clear_ #[24] ty #[.slice (some ⟨b, o, none⟩) 1 c]).run Tryz.prog w = .ok (.tuple #[]) (w.setCells b o [.int .u64 0]) := by
 have hst := run_storeCells_cells (P := Tryz.prog) b o [.int .u64 0] 0 w (by simpa using hc) (by simp [hf]) (by intro v hv'; simp at hv'; subst hv'; rfl)
 simp only [Nat.add_zero] at hst
 have hzc : (Builtin.zeroCells (Value.cells (.int .u64 0)) 1).toList = [.int .u64 0] := by simp [Builtin.zeroCells, Value.cells]
 simp [Builtin.clear_, run_underlying Tryz.underlying24, zero_u64, hzc, hst]
theorem flU_len (l : List Int) : (flt shU l).length = l.length := by rw [flt_U, List.length_map]
theorem flU_take (l : List Int) (k : Nat) : flt shU (l.take k) = (flt shU l).take k := by rw [flt_U, flt_U, List.map_take]
theorem flU_drop (l : List Int) (k : Nat) : flt shU (l.drop k) = (flt shU l).drop k := by rw [flt_U, flt_U, List.map_drop]
theorem own_delU {W X1 X2 : World} {base g n c i : Nat} {l : List Int} (h : Ow shU 41 W base (.slice (some ⟨g, 0, none⟩) n c) n l) (hi : i < n) (h1 : X1 = W.setCells g i (flt shU (l.drop (i + 1)))) (h2 : X2 = X1.setCells g (n - 1) [.int .u64 0]) :
  Ow shU 41 X2 base (.slice (some ⟨g, 0, none⟩) (n - 1) c) (n - 1) (l.take i ++ l.drop (i + 1)) := by
 have hl := h.len
 have hel : (l.take i ++ l.drop (i + 1)).length = n - 1 := by simp; omega
 obtain ⟨hrl, ⟨e, _⟩ | ⟨g', cap, cur, e, hg, hh, hc, hm, hs, ht⟩⟩ := h.row
 ·cases e
 injection e with e1 e2 e3
 injection e1 with e1
 injection e1 with e1
 subst e1 e3
 have hs : cur.size = c * 1 := hs
 have ht : cur.toList.take (n * 1) = flt shU l := ht
 obtain ⟨cur1, hh1, hs1⟩ := setCells_heap (flt shU (l.drop (i + 1))) i W cur hh
 rw [← h1] at hh1
 obtain ⟨cur2, hh2, hs2⟩ := setCells_heap [.int .u64 0] (n - 1) X1 cur1 hh1
 rw [← h2] at hh2
 have hdl : (flt shU (l.drop (i + 1))).length = n - (i + 1) := by rw [flU_len]; simp [hl]
 refine ⟨hel, by rw [flU_len, hel]; show n - 1 = (n - 1) * 1; omega, Or.inr ⟨g, c, cur2, rfl, hg, hh2, by omega, hm, by show cur2.size = c * 1; omega, ?_⟩⟩
 show cur2.toList.take ((n - 1) * 1) = _
 apply List.ext_getElem?
 intro t
 by_cases htl : t < n - 1
 ·rw [List.getElem?_take_of_lt (by omega), Array.getElem?_toList, ← cell_cur hh2 t, h2, World.cell?_setCells_out g [.int .u64 0] (n - 1) X1 ⟨g, t, none⟩ (fun _ _ => Or.inl htl), flt_app, flU_take]
  have htk : ((flt shU l).take i).length = i := by rw [List.length_take, flU_len]; omega
  by_cases hti : t < i
  ·rw [h1, World.cell?_setCells_out g _ i W ⟨g, t, none⟩ (fun _ _ => Or.inl hti), cell_cur hh t, List.getElem?_append_left (by omega), List.getElem?_take_of_lt hti, ← ht, List.getElem?_take_of_lt (by omega), Array.getElem?_toList]
  ·obtain ⟨d, rfl⟩ : ∃ d, t = i + d := ⟨t - i, by omega⟩
   have hd : d < (flt shU (l.drop (i + 1))).length := by omega
   rw [h1, World.cell?_setCells_in g _ i W (fun j hj => by rw [cell_cur hh]; rw [Array.getElem?_eq_getElem (by omega)]; rfl) d hd]
   rw [List.getElem?_append_right (by omega), htk, show i + d - i = d by omega, List.getElem?_eq_getElem hd]
 ·rw [List.getElem?_eq_none (by simp; omega), List.getElem?_eq_none (by rw [flU_len, hel]; omega)]
set_option maxRecDepth 100000 in
set_option maxHeartbeats 1600000 in
theorem delU (base g n c i : Nat) (l : List Int) (X : World) (h : Ow shU 41 X base (.slice (some ⟨g, 0, none⟩) n c) n l) (hn : n ≤ 1099511627776) (hi : i < n) :
  Calls Tryz.prog 62 #[.slice (some ⟨g, 0, none⟩) n c, .int .i64 (i : Int), .int .i64 ((i : Int) + 1)] X fun e z => e = .returned (.slice (some ⟨g, 0, none⟩) (n - 1) c) ∧ Ow shU 41 z base (.slice (some ⟨g, 0, none⟩) (n - 1) c) (n - 1) (l.take i ++ l.drop (i + 1)) ∧ Below base X z ∧ Fr (fun j => j = g) X z := by
 have hl := h.len
 obtain ⟨hnc, -, -⟩ := h.fin
 obtain ⟨i0, hi0, hz0, hz1, hz2⟩ := info_parts info_u
 obtain ⟨cur, hh, hs, hcm, hbase⟩ : ∃ cur : Array Value, X.heap[g]? = some (.cells cur 41 (0, 0)) ∧ cur.size = c * 1 ∧ c ≤ maxLen ∧ base ≤ g := by
  rcases h.row.2 with ⟨e, _⟩ | ⟨g', cap, cur, e, hb, hh, _, hm, hs, _⟩
  ·cases e
  ·injection e with e1 e2 e3
   injection e1 with e1
   injection e1 with e1
   subst e1 e3
   exact ⟨cur, hh, hs, hm, hb⟩
 have hcm' : c ≤ 9223372036854775807 := by unfold maxLen at hcm; omega
 have t0 : (0 : Int) ≤ (i : Int) := by omega
 have t1 : (i : Int) + 1 ≤ (n : Int) := by omega
 have t2 : (i : Int) + 1 ≤ (c : Int) := by omega
 have t3 : (n : Int) ≤ (c : Int) := by omega
 have t4 : (i : Int) ≤ (c : Int) := by omega
 have t5 : (0 : Int) ≤ (i : Int) + 1 := by omega
 obtain ⟨news, hnews⟩ : ∃ news, news = flt shU (l.drop (i + 1)) := ⟨_, rfl⟩
 have hlen : news.length = n - (i + 1) := by rw [hnews, flU_len]; simp [hl]
 have hcell := own_holds h.row
 obtain ⟨A, hA, hsrc⟩ : ∃ A : Addr, (if c = i + 1 then some (⟨g, 0, none⟩ : Addr) else some ⟨g, i + 1, none⟩) = some A ∧ Hk (∀ t u, news[t]? = some u → X.drew.cell? (A.add t) = some u) := by
  by_cases hci : c = i + 1
  ·refine ⟨⟨g, 0, none⟩, by simp [hci], ⟨fun t u hu => ?_⟩⟩
   have : news.length = 0 := by rw [hlen, show n - (i + 1) = 0 by omega]
   rw [List.length_eq_zero_iff.1 this] at hu
   simp at hu
  ·refine ⟨⟨g, i + 1, none⟩, by simp [hci], ⟨fun t u hu => ?_⟩⟩
   rw [hnews, flU_drop, List.getElem?_drop] at hu
   have := hcell (i + 1 + t) u hu
   rw [Nat.zero_add] at this
   rw [aq_plus]
   show X.cell? ⟨g, i + 1 + t, none⟩ = some u
   exact this
 have s1 : Hk (news.length = (n - (i + 1)) * 1) := ⟨by rw [hlen]; omega⟩
 have s2 : Hk (∀ u ∈ news, u.oneCell' = true) := ⟨by rw [hnews]; exact flt_one shU _⟩
 have s3 : Hk (∀ t, t < news.length → (X.drew.cell? ⟨g, 0 + i * 1 + t, none⟩).isSome = true ∧ X.drew.frozen? ⟨g, 0 + i * 1 + t, none⟩ = false) := by
  refine ⟨fun t ht => ?_⟩
  rw [hlen] at ht
  refine ⟨?_, froz_cur (w := X) hh _⟩
  show (X.cell? _).isSome = true
  rw [cell_cur hh, Array.getElem?_eq_getElem (by omega)]
  rfl
 obtain ⟨W1, hW1⟩ : ∃ W1, W1 = X.drew.setCells g (0 + i * 1) news := ⟨_, rfl⟩
 obtain ⟨cur1, hh1, hs1⟩ := setCells_heap news (0 + i * 1) X.drew cur hh
 rw [← hW1] at hh1
 have hcl : ∀ ty, (Builtin.clear_ #[24] ty #[.slice (some ⟨g, i + (n - (i + 1)), none⟩) (n - (i + (n - (i + 1)))) (c - (i + (n - (i + 1))))]).run Tryz.prog W1 = .ok (.tuple #[]) (W1.setCells g (i + (n - (i + 1))) [.int .u64 0]) := fun ty => by
  rw [show n - (i + (n - (i + 1))) = 1 by omega]
  exact run_clear_u W1 ty g _ _ (fun j hj => by rw [cell_cur hh1, Array.getElem?_eq_getElem (by omega)]; rfl) (fun j hj => froz_cur hh1 _)
 have FIN : Hk (Ow shU 41 (W1.setCells g (i + (n - (i + 1))) [.int .u64 0]) base (.slice (some ⟨g, 0, none⟩) (n - 1) c) (n - 1) (l.take i ++ l.drop (i + 1)) ∧ Below base X (W1.setCells g (i + (n - (i + 1))) [.int .u64 0]) ∧ Fr (fun j => j = g) X (W1.setCells g (i + (n - (i + 1))) [.int .u64 0])) := by
  refine ⟨⟨own_delU (W := X.drew) ⟨h.len, h.row⟩ hi (X1 := W1) (by rw [hW1, hnews, Nat.zero_add, Nat.mul_one]) (by rw [show i + (n - (i + 1)) = n - 1 by omega]), ?_⟩⟩
  rw [hW1]
  exact ⟨Lib.below_setCells g hbase _ _ (Lib.below_setCells g hbase _ _ (Below.refl _ _).drew), Fr.setCells (M := fun j => j = g) rfl _ _ (Fr.setCells (M := fun j => j = g) rfl _ _ (Fr.refl (fun j => j = g) X).drew)⟩
 have HW : Hk (W1 = X.drew.setCells g (0 + i * 1) news) := ⟨hW1⟩
 have HN1 : Hk (n - 1 = i + (n - (i + 1))) := ⟨by omega⟩
 have hic : i ≤ c := by omega
 have hjc : i + 1 ≤ c := by omega
 clear hW1 hh1 hs1 hh hs cur1 cur hnews hlen hcell h
 go_enter Tryz.func62, Tryz.ntmps62
 go_upto_region 5 with (fail)
 go_region_law (refine step_append_room rfl (.tmp 22) (.tmp 25) 24 rfl 41 i0 1 Tryz.underlying24 hi0 hz1 g 0 i c (by simp [Act.eval, Act.put]) A (n - (i + 1)) (c - (i + 1)) news (by simp [Act.eval, Act.put]) s1.out hsrc.out s2.out (by omega) s3.out ?_; rw [← HW.out])
 go_wp2
 go_ret
 exact ⟨by rw [HN1.out]; rfl, FIN.out.1, FIN.out.2.1, FIN.out.2.2⟩
theorem delU_first (base g n c : Nat) (l : List Int) (X : World) (h : Ow shU 41 X base (.slice (some ⟨g, 0, none⟩) n c) n l) (hn : n ≤ 1099511627776) (hi : 0 < n) :
  Calls Tryz.prog 62 #[.slice (some ⟨g, 0, none⟩) n c, .int .i64 0, .int .i64 1] X fun e z => e = .returned (.slice (some ⟨g, 0, none⟩) (n - 1) c) ∧ Ow shU 41 z base (.slice (some ⟨g, 0, none⟩) (n - 1) c) (n - 1) (l.drop 1) ∧ Below base X z ∧ Fr (fun j => j = g) X z := delU base g n c 0 l X h hn hi
end Go.Proofs.YtdpblimhfmfbnaaGreat
namespace Go.Proofs.YtdpblimhfmfbnaaGreat
open Go.ChangeShapes Go.WideShapes Go.ChangeAt Go.RowKit Go.Deep
structure Sj (B : Nat) (w z : World) : Prop where
 s : Si B w z
 p : ∀ a n c u, OwnI w B (.slice a n c) n u → ∃ u', OwnI z B (.slice a n c) n u'
 ty : ∀ (j : Nat) (cur : Array Value) (T : TypeId) fr, w.heap[j]? = some (Obj.cells cur T fr) → T ≠ 3 → T ≠ 95 → T ≠ 40 → z.heap[j]? = some (Obj.cells cur T fr)
theorem Sj.refl (B : Nat) (w : World) : Sj B w w := ⟨Si.refl _ _, fun a n c u h => ⟨u, h⟩, fun _ _ _ _ h _ _ _ => h⟩
theorem Sj.trans {B : Nat} {w y z : World} (h : Sj B w y) (k : Sj B y z) : Sj B w z := ⟨h.s.trans k.s, fun a n c u o => by
 obtain ⟨u', o'⟩ := h.p a n c u o
 exact k.p a n c u' o', fun j cur T fr e n1 n2 n3 => k.ty j cur T fr (h.ty j cur T fr e n1 n2 n3) n1 n2 n3⟩
theorem Sj.of_sc {B : Nat} {w z : World} (h : Sc B w z) : Sj B w z := ⟨Si.of_sc h, h.p, fun j cur T fr e n1 n2 _ => h.ty j cur T fr e n1 n2⟩
theorem Sj.of_all {B : Nat} {w z : World} (hB : B ≤ w.heap.size) (h : Below w.heap.size w z) : Sj B w z := Sj.of_sc (Sc.of_all hB h)
theorem Sj.setI {B n c g : Nat} {w : World} {l : List Iv} (h : Ow shI 40 w B (.slice (some ⟨g, 0, none⟩) n c) n l) (k : Nat) (y : Int) : Sj B w (w.setCells g (k * 3) (zrI y).cs) := by
 obtain ⟨cur, fr, e⟩ := h.typ (j := g) rfl
 have hF : Fr (fun j => j = g) w (w.setCells g (k * 3) (zrI y).cs) := Fr.setCells (M := fun j => j = g) rfl _ _ (Fr.refl (fun j => j = g) w)
 have hI : ∀ (T : TypeId), T ≠ 40 → ∀ j cur fr, w.heap[j]? = some (.cells cur T fr) → ¬ j = g := fun T hT j cur' fr' e' hj => by
  subst hj
  rw [e] at e'
  injection e' with e'
  injection e' with _ e'
  exact hT e'.symm
 refine ⟨Si.setI h k y, fun a n' c' u o => ⟨u, Fr.owni o hF fun j hj => ?_⟩, fun j cur' T fr' e' _ _ n3 => ?_⟩
 ·obtain ⟨cur', fr', e'⟩ := o.typ hj
  exact hI _ (by decide) j cur' fr' e'
 ·rw [hF.block j (cells_lt e') (hI T n3 j cur' fr' e')]
  exact e'
theorem Sj.ow {α : Type} {S : Sh α} {T : TypeId} {B n : Nat} {v : Value} {w z : World} {l : List α} (h : Sj B w z) (o : Ow S T w B v n l) (ne : T ≠ 3) (ne2 : T ≠ 95) (ne3 : T ≠ 40) : Ow S T z B v n l := ⟨o.len, by
 refine ⟨o.row.1, ?_⟩
 rcases o.row.2 with e | ⟨g, cap, cur, e, hg, hh, r⟩
 ·exact .inl e
 ·exact .inr ⟨g, cap, cur, e, hg, h.ty _ _ _ _ hh ne ne2 ne3, r⟩⟩
set_option maxRecDepth 100000 in
set_option maxHeartbeats 1600000 in
theorem inps_sj (B n c : Nat) (a : Option Addr) (w : World) (h : ShI w B a n c) (hB : B ≤ w.heap.size) :
  Calls Tryz.prog 80 #[.slice a n c] w fun e z => e = .returned (.tuple #[]) ∧ Sj B w z := by
 obtain ⟨ii, hii, hiz0, hiz1, hiz2⟩ := info_parts info_in
 have HO := Hk.mk h
 have hn := h.1
 clear h
 go_enter Tryz.func80, Tryz.ntmps80
 go_wp2
 go_loopw [2] (fun i wr => ∃ (k : Nat), i = .int .i64 k ∧ k ≤ n ∧ Hk (ShI wr B a n c) ∧ Hk (Sj B w wr)) (fun i _ => n - (intOf i).toNat)
 case atStart => exact ⟨0, rfl, by omega, HO, ⟨Sj.refl _ _⟩⟩
 case round =>
  clear HO
  obtain ⟨k, rfl, hk, HO, HS⟩ := hrel
  obtain ⟨l, ho, hu⟩ := HO.out.2
  by_cases hlt : k < n
  ·obtain ⟨g, rfl, hg1, hg2, -⟩ := ho.blk.resolve_left (fun h => by omega)
   have hkl : k < l.length := by have := ho.len; omega
   have HOW := Hk.mk ho
   have HOH := Hk.mk HO.out
   have HNU := Hk.mk (hu _ (List.getElem_mem hkl))
   have hcc : ∀ X : World, Ow shI 40 X B (.slice (some ⟨g, 0, none⟩) n c) n l → X.cell? ⟨g, k * 3, none⟩ = some (.int .i64 l[k].t) ∧ X.cell? ⟨g, k * 3 + 1, none⟩ = some (.int .i64 l[k].p) ∧ X.cell? ⟨g, k * 3 + 2, none⟩ = some (.slice l[k].a l[k].n l[k].c) := fun X hX => by
    obtain ⟨b', off', e, _, hc⟩ := hX.qv.rd (by omega)
    injection e with e
    injection e with e1 e2
    subst e1 e2
    have h := hc k hkl
    rw [Nat.zero_add] at h
    exact ⟨h 0 (by decide), h 1 (by decide), h 2 (by decide)⟩
   generalize l[k] = q at *
   have HCC := Hk.mk hcc
   obtain ⟨p0, p1, p2⟩ := hcc wr ho
   have j1 : (0 : Int) ≤ (k : Int) := by omega
   have j2 : (k : Int) < (n : Int) := by omega
   have HLT := Hk.mk hlt
   have HBW := Hk.mk (Nat.le_trans hB HS.out.s.bl.size)
   have HG := Hk.mk hg1
   have HN := Hk.mk hn
   clear hcc hu ho hkl HO p0 p1
   focus
    go_wp2_with (go_at_call 40; (with_reducible refine (cmds_own B q.n q.c q.a _ HNU.out HBW.out).mono ?_); rintro e z ⟨rfl, hs⟩; have HSC := Hk.mk hs; have hoz := hs.ow HOW.out (by decide) (by decide); obtain ⟨p0, p1, p2z⟩ := HCC.out z hoz; have hgz := World.block_lt_of_cell? _ _ p0; have f0 := hoz.row.frozenAt (k * 3); have f1 := hoz.row.frozenAt (k * 3 + 1); have f2 := hoz.row.frozenAt (k * 3 + 2); have HOZ := Hk.mk hoz; clear hs hoz)
    have H1 : Hk (Sj B wr (((z.setCell ⟨g, k * 3, none⟩ (.int .i64 (-9))).setCell ⟨g, k * 3 + 1, none⟩ (.int .i64 0)).setCell ⟨g, k * 3 + 2, none⟩ (.slice none 0 0))) := ⟨(Sj.of_sc HSC.out).trans (Sj.setI HOZ.out k (-9))⟩
    have H4 := Hk.mk (HS.out.trans H1.out)
    have H3 := Hk.mk (H1.out.s.i _ _ _ HOH.out)
    exact ⟨⟨k + 1, by go_num, HLT.out, H3, H4⟩, by first | exact nx_ms HLT.out | exact nx_ms' HLT.out⟩
  ·obtain rfl : k = n := by omega
   have HAL := Hk.mk (Sj.of_all (Nat.le_trans hB HS.out.s.bl.size) (below_al wr (.cells #[.int .i64 0, .int .i64 0, .slice none 0 0] 40)))
   have hoa := ho.alloc (.cells #[.int .i64 0, .int .i64 0, .slice none 0 0] 40)
   obtain ⟨hkc, hnone, hcs⟩ := hoa.fin
   have HLO : Hk ((flt shI l).length = k * 3) := ⟨by rw [flt_len, ho.len]; rfl⟩
   have HCS := Hk.mk hcs
   have HNN := Hk.mk hnone
   clear hcs hnone
   by_cases hc : k < c
   ·obtain ⟨g, rfl, -⟩ := hoa.blk.resolve_left (fun h => by omega)
    have HSP := Hk.mk (own_spare hoa.row 1 hc)
    have HHO := Hk.mk (own_holds hoa.row)
    have H4 : Hk (Sj B w ((wr.alloc (.cells #[.int .i64 0, .int .i64 0, .slice none 0 0] 40)).setCells g (k * 3) (zrI 0).cs)) := ⟨(HS.out.trans HAL.out).trans (Sj.setI hoa k 0)⟩
    clear hoa ho HO HS HAL hu
    focus
     go_wp2_with (at_builtin; go_must (refine wpList_append_arg _ rfl _ _ 22 rfl 40 ii (.agg #[.int .i64 0, .int .i64 0, .slice none 0 0]) 3 40 Tryz.underlying22 hii hiz0 hiz1 hiz2 rfl (by decide) g 0 k c (flt shI l) rfl HLO.out HHO.out ⟨wr.heap.size, 0, none⟩ 1 1 [.int .i64 0, .int .i64 0, .slice none 0 0] rfl rfl (lit_at wr _ _) (is_one (zrI 0)) (fun _ => HSP.out) (by unfold maxLen; omega) (by omega) (fun _ => ?_) (fun h => absurd h (by omega))); generalize hW : World.setCells (wr.alloc (.cells #[.int .i64 0, .int .i64 0, .slice none 0 0] 40)) g _ _ = W9; have H9 : Hk (Sj B w W9) := ⟨by rw [← hW, Nat.zero_add]; exact H4.out⟩; clear hW H4)
     go_end0
     exact ⟨rfl, H9.out⟩
   ·have hcn : c < k + 1 := by omega
    clear hoa ho HO hu
    focus
     go_wp2_with (at_builtin; go_must (refine wpList_append_grows _ rfl _ _ 22 rfl 40 ii (.agg #[.int .i64 0, .int .i64 0, .slice none 0 0]) 3 40 Tryz.underlying22 hii hiz0 hiz1 hiz2 rfl (by decide) a k c (flt shI l) rfl HNN.out HLO.out HCS.out ⟨wr.heap.size, 0, none⟩ 1 1 [.int .i64 0, .int .i64 0, .slice none 0 0] rfl rfl (lit_at wr _ _) (is_one (zrI 0)) hcn (by unfold maxLen; omega) (by omega) ?_); intro v8 z8 hown hgrow; have H8 := Hk.mk (HS.out.trans (Sj.of_all (Nat.le_trans hB HS.out.s.bl.size) (below_gr hgrow))); clear hown hgrow)
     go_end0
     exact ⟨rfl, H8.out⟩
set_option maxRecDepth 100000 in
theorem hashes_own (B n c : Nat) (a : Option Addr) (l : List Int) (w : World) (h : Ow shU 41 w B (.slice a n c) n l) (hB : B ≤ w.heap.size) (hn : n ≤ 1048576) :
  Calls Tryz.prog 81 #[.slice a n c] w fun e z => e = .returned (.tuple #[]) ∧ Below B w z := by
 have HO := Hk.mk h
 clear h
 go_enter Tryz.func81, Tryz.ntmps81
 go_wp2
 go_loopw [2] (fun i wr => ∃ (k : Nat) (l : List Int), i = .int .i64 k ∧ k ≤ n ∧ Hk (Ow shU 41 wr B (.slice a n c) n l) ∧ Hk (Below B w wr)) (fun i _ => n - (intOf i).toNat)
 case atStart => exact ⟨0, l, rfl, by omega, HO, ⟨Below.refl _ _⟩⟩
 case round =>
  clear HO
  obtain ⟨k, ys, rfl, hk, HO, HB⟩ := hrel
  by_cases hlt : k < n
  ·obtain ⟨g, rfl, hg1, hg2, -⟩ := HO.out.blk.resolve_left (fun h => by omega)
   have hkl : k < ys.length := by have := HO.out.len; omega
   obtain ⟨b', off', e, _, hc⟩ := HO.out.qv.rd (by omega)
   injection e with e
   injection e with e1 e2
   subst e1 e2
   have hcx : wr.cell? ⟨g, k, none⟩ = some (.int .u64 ys[k]) := by
    have h := hc k hkl 0 (by decide)
    rw [show 0 + k * shU.z + 0 = k by show 0 + k * 1 + 0 = k; omega] at h
    exact h
   have hfz := HO.out.row.frozenAt k
   have j1 : (0 : Int) ≤ (k : Int) := by omega
   have j2 : (k : Int) < (n : Int) := by omega
   have H3 : Hk (Ow shU 41 (wr.setCell ⟨g, k, none⟩ (.int .u64 99)) B (.slice (some ⟨g, 0, none⟩) n c) n (ys.set k 99)) := ⟨by
    have := HO.out.setx k 99
    rw [show k * shU.z = k by show k * 1 = k; omega] at this
    exact this⟩
   have H4 := Hk.mk (HB.out.setCell (p := ⟨g, k, none⟩) hg1 (.int .u64 99))
   generalize ys[k] = y at *
   clear HO HB hc
   focus
    go_wp2
    exact ⟨⟨k + 1, _, by go_num, by omega, H3, H4⟩, by simp [intOf]; omega⟩
  ·go_wp2
   go_end0
   exact ⟨rfl, HB.out⟩
end Go.Proofs.YtdpblimhfmfbnaaGreat
namespace Go.Proofs.YtdpblimhfmfbnaaGreat
open Go.ChangeShapes Go.WideShapes Go.ChangeAt Go.RowKit Go.Deep
theorem shn_of {w : World} {B n c : Nat} {a : Option Addr} (hn : n ≤ 1048576) (h : ∃ u, OwnI w B (.slice a n c) n u) : ShN w B a n c := ⟨hn, h.imp fun u o => .inl o⟩
set_option maxRecDepth 100000 in
set_option maxHeartbeats 1600000 in
theorem spoilp_any (B : Nat) (p : Pv) (w : World) (h : PvO w B p) (hs : PvS p) (hB : B ≤ w.heap.size) :
  Calls Tryz.prog 52 #[.agg #[.int .i64 p.i, .int .i64 p.n, .int .i64 p.d, .int .i64 p.t, .int .i64 p.s, .slice p.ma p.mn p.mc, .slice p.la p.ln p.lc, .slice p.ha p.hn p.hc, .slice p.aa p.an p.ac, .slice p.xa p.xn p.xc, .bool p.b]] w fun e z => e = .returned (.tuple #[]) ∧ Below B w z := by
 have HBW : Hk (Below w.heap.size w (w.alloc (.cells #[.int .i64 p.i, .int .i64 p.n, .int .i64 p.d, .int .i64 p.t, .int .i64 p.s, .slice p.ma p.mn p.mc, .slice p.la p.ln p.lc, .slice p.ha p.hn p.hc, .slice p.aa p.an p.ac, .slice p.xa p.xn p.xc, .bool p.b] 26))) := ⟨(Below.refl _ _).alloc (Nat.le_refl _) _⟩
 have hblk := heap_alloc_new w (.cells #[.int .i64 p.i, .int .i64 p.n, .int .i64 p.d, .int .i64 p.t, .int .i64 p.s, .slice p.ma p.mn p.mc, .slice p.la p.ln p.lc, .slice p.ha p.hn p.hc, .slice p.aa p.an p.ac, .slice p.xa p.xn p.xc, .bool p.b] 26)
 have HO := Hk.mk (h.below HBW.out)
 have HBS := Hk.mk (Nat.le_trans hB HBW.out.size)
 have HWB : Hk (B ≤ w.heap.size) := ⟨hB⟩
 have HS := Hk.mk hs
 clear h hs hB
 go_enter Tryz.func52, Tryz.ntmps52
 go_upto_region 1 with fail
 generalize (w.alloc (.cells #[.int .i64 p.i, .int .i64 p.n, .int .i64 p.d, .int .i64 p.t, .int .i64 p.s, .slice p.ma p.mn p.mc, .slice p.la p.ln p.lc, .slice p.ha p.hn p.hc, .slice p.aa p.an p.ac, .slice p.xa p.xn p.xc, .bool p.b] 26)) = V at *
 have HVF : Hk (∀ X, Sj B V X → X.cell? ⟨w.heap.size, 5, none⟩ = some (.slice p.ma p.mn p.mc) ∧ X.cell? ⟨w.heap.size, 6, none⟩ = some (.slice p.la p.ln p.lc) ∧ X.cell? ⟨w.heap.size, 7, none⟩ = some (.slice p.ha p.hn p.hc) ∧ X.cell? ⟨w.heap.size, 8, none⟩ = some (.slice p.aa p.an p.ac) ∧ X.cell? ⟨w.heap.size, 9, none⟩ = some (.slice p.xa p.xn p.xc) ∧ w.heap.size < X.heap.size) := ⟨fun X hX => by
  have hb : Bk X w.heap.size #[.int .i64 p.i, .int .i64 p.n, .int .i64 p.d, .int .i64 p.t, .int .i64 p.s, .slice p.ma p.mn p.mc, .slice p.la p.ln p.lc, .slice p.ha p.hn p.hc, .slice p.aa p.an p.ac, .slice p.xa p.xn p.xc, .bool p.b] := ⟨26, hX.ty _ _ _ _ hblk (by decide) (by decide) (by decide)⟩
  exact ⟨hb.c 5, hb.c 6, hb.c 7, hb.c 8, hb.c 9, hb.lt⟩⟩
 have HSZ : Hk (∀ X, Sj B V X → B ≤ X.heap.size) := ⟨fun X hX => Nat.le_trans HBS.out hX.s.bl.size⟩
 have HJ : Hk (Sj B V V) := ⟨Sj.refl _ _⟩
 clear hblk
 obtain ⟨y5, y6, y7, y8, y9, yl⟩ := HVF.out _ HJ.out
 go_wp2_with (first
  | (go_at_call 80; (with_reducible refine (inps_sj B p.mn p.mc p.ma _ (HO.out.m.shi HS.out.m) (HSZ.out _ HJ.out)).mono ?_); rintro e z1 ⟨rfl, hs⟩; have HJ9 := Hk.mk (HJ.out.trans hs); clear y5 y6 y7 y8 y9 yl; replace HJ := HJ9; clear HJ9; obtain ⟨y5, y6, y7, y8, y9, yl⟩ := HVF.out _ HJ.out; clear hs)
  | (go_at_call 80; (with_reducible refine (inps_sj B p.ln p.lc p.la _ (HJ.out.s.i _ _ _ (HO.out.l.shi HS.out.l)) (HSZ.out _ HJ.out)).mono ?_); rintro e z2 ⟨rfl, hs⟩; have HJ9 := Hk.mk (HJ.out.trans hs); clear y5 y6 y7 y8 y9 yl; replace HJ := HJ9; clear HJ9; obtain ⟨y5, y6, y7, y8, y9, yl⟩ := HVF.out _ HJ.out; clear hs)
  | (go_at_call 70; (with_reducible refine (nums_own B p.hn p.hc p.ha _ (shn_of HS.out.h (HJ.out.p _ _ _ _ HO.out.h)) (HSZ.out _ HJ.out)).mono ?_); rintro e z3 ⟨rfl, hs⟩; have HJ9 := Hk.mk (HJ.out.trans (Sj.of_sc (Sc.of_sn hs))); clear y5 y6 y7 y8 y9 yl; replace HJ := HJ9; clear HJ9; obtain ⟨y5, y6, y7, y8, y9, yl⟩ := HVF.out _ HJ.out; clear hs)
  | (go_at_call 70; (with_reducible refine (nums_own B p.an p.ac p.aa _ (shn_of HS.out.a (HJ.out.p _ _ _ _ HO.out.a)) (HSZ.out _ HJ.out)).mono ?_); rintro e z4 ⟨rfl, hs⟩; have HJ9 := Hk.mk (HJ.out.trans (Sj.of_sc (Sc.of_sn hs))); clear y5 y6 y7 y8 y9 yl; replace HJ := HJ9; clear HJ9; obtain ⟨y5, y6, y7, y8, y9, yl⟩ := HVF.out _ HJ.out; clear hs)
  | (go_at_call 81; (with_reducible refine (hashes_own B p.xn p.xc p.xa p.xl _ (HJ.out.ow HO.out.x (by decide) (by decide) (by decide)) (HSZ.out _ HJ.out) HS.out.x).mono ?_); rintro e z5 ⟨rfl, hb⟩; have HB5 := Hk.mk (HJ.out.s.bl.trans hb); clear hb))
 go_end0
 exact ⟨rfl, (HBW.out.mono HWB.out).trans HB5.out⟩
end Go.Proofs.YtdpblimhfmfbnaaGreat
namespace Go.Proofs.YtdpblimhfmfbnaaGreat
open Go.ChangeShapes Go.WideShapes Go.ChangeAt Go.RowKit Go.Deep
def bndT (T : Int) : Option In → Int
 | none => 8
 | some a => if a.t < T then 8 else if a.t = T then 8 - a.p else 0
theorem PvO.fr {M : Nat → Prop} {w w' : World} {B : Nat} {p : Pv} (h : PvO w B p) (k : Fr M w w') (hm : ∀ j, B ≤ j → ¬ M j) : PvO w' B p :=
 ⟨h.m.up k hm, h.l.up k hm, Fr.owni h.h k fun j hj => hm j (h.h.lt j hj).1, Fr.owni h.a k fun j hj => hm j (h.a.lt j hj).1, Ow.fr h.x k fun j hj => hm j (h.x.lt j hj).1⟩
theorem PvS.like {w z : World} {B1 B2 : Nat} {p u : Pv} (hs : PvS p) (h : PvD w B1 p) (hu : PvD z B2 u) (hab : u.ab = p.ab) (e1 : u.mn = p.mn) (e2 : u.ln = p.ln) (e3 : u.hn = p.hn) (e4 : u.an = p.an) (e5 : u.xn = p.xn) : PvS u := by
 obtain ⟨-, -, -, -, -, a6, a7, -⟩ := (ab_iff u p).1 hab
 have l1 := congrArg List.length a6
 have l2 := congrArg List.length a7
 rw [abI_len, abI_len] at l1 l2
 exact ⟨smI_of hu.m h.m hs.m (fun x hx => by rw [← a6]; exact hx) (by omega), smI_of hu.l h.l hs.l (fun x hx => by rw [← a7]; exact hx) (by omega), by rw [e3]; exact hs.h, by rw [e4]; exact hs.a, by rw [e5]; exact hs.x⟩
theorem SmC.nil : SmC [] := ⟨Nat.zero_le _, fun x hx => by cases hx⟩
theorem ShC.nil (w : World) (B : Nat) : ShC w B none 0 0 := ⟨Nat.zero_le _, .inr ⟨rfl, rfl⟩⟩
structure StR (w V : World) (R : Nat) (X : World) : Prop where
 fr : Fr (fun j => j = R) V X
 bw : Below w.heap.size w X
theorem StR.call {w V X z : World} {R : Nat} (h : StR w V R X) (hb : Below X.heap.size X z) : StR w V R z := ⟨h.fr.trans (Fr.of_all hb), h.bw.trans (hb.mono h.bw.size)⟩
theorem StR.set {w V X : World} {R : Nat} (h : StR w V R X) (hR : w.heap.size ≤ R) (o : Nat) (v : Value) : StR w V R (X.setCell ⟨R, o, none⟩ v) := ⟨h.fr.setCell (fun _ => rfl) v, h.bw.setCell (p := ⟨R, o, none⟩) hR v⟩
theorem StR.cells {w V X : World} {R : Nat} (h : StR w V R X) : ∀ b o, b < V.heap.size → ¬ b = R → X.cell? ⟨b, o, none⟩ = V.cell? ⟨b, o, none⟩ := fun b o hb hn => h.fr.cell hb hn
theorem StR.s {w V X : World} {R : Nat} (h : StR w V R X) : (∀ b o, b < V.heap.size → ¬ b = R → X.cell? ⟨b, o, none⟩ = V.cell? ⟨b, o, none⟩) ∧ StR w V R X := ⟨h.cells, h⟩
theorem StR.start {w V : World} {R : Nat} (h : Below w.heap.size w V) : StR w V R V.drew := ⟨(Fr.refl _ _).drew, h.drew⟩
theorem StR.pd {w V X : World} {R B : Nat} {u : Pv} (h : StR w V R X) (ho : PvO V B u) (hR : R < B) : PvD X X.heap.size u := (ho.fr h.fr (fun j hj e => by omega)).d
end Go.Proofs.YtdpblimhfmfbnaaGreat
