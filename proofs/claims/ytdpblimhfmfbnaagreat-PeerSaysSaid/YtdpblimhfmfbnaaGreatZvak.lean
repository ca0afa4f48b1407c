import Derived.Deep.QuietTactic
import Derived.BigQuiet
import Derived.Deep.RegionWith
import Derived.Deep.RegionHeld3
import Derived.Deep.DeepCutAuto
import Derived.Deep.DeepFit
import Derived.Outline
import Derived.Test.YtdpblimhfmfbnaaGreatZvaj
import Derived.Test.YtdpblimhfmfbnaaGreatZvad
import Derived.Test.YtdpblimhfmfbnaaGreatZva
set_option linter.unusedVariables false
set_option linter.unusedSimpArgs false
namespace Go.Proofs.YtdpblimhfmfbnaaGreat
open Go.ChangeShapes Go.WideShapes Go.ChangeAt Go.RowKit Go.Deep
set_option maxRecDepth 100000 in
set_option maxHeartbeats 3200000 in
theorem kept_as (r : Bool) (p : Pv) (w : World) (h : PvD w w.heap.size p) (hs : PvS p) (hc : CntP p.ab) (hkn : KnP p.ab) (E : Hk (KpP p.ab ↔ r = true)) :
  Calls Tryz.prog 36 #[.agg #[.int .i64 p.i, .int .i64 p.n, .int .i64 p.d, .int .i64 p.t, .int .i64 p.s, .slice p.ma p.mn p.mc, .slice p.la p.ln p.lc, .slice p.ha p.hn p.hc, .slice p.aa p.an p.ac, .slice p.xa p.xn p.xc, .bool p.b]] w fun e w' => e = .returned (.bool r) ∧ Below w.heap.size w w' := by
 have han : (p.an : Int) = p.n := by rw [← h.a.len]; exact hkn.a1
 have hn1 : 1 ≤ p.n := hc.n1
 have han0 : 0 < p.an := by omega
 have han2 : p.an ≤ 1048576 := hs.a
 obtain ⟨low, hlow⟩ : ∃ low, minL p.al = low := ⟨_, rfl⟩
 have hlb : p.d - 1 ≤ low ∧ low ≤ p.s := by
  have hal : p.al ≠ [] := by intro e; have := h.a.len; rw [e] at this; simp at this; omega
  have hm := min_mem hal
  rw [hlow] at hm
  obtain ⟨k, hk, e⟩ := List.mem_iff_getElem.1 hm
  have hk2 : k < p.ab.h.length := by
   have h1 := hkn.h1
   have h2 := hkn.a1
   have h3 : (p.ab.a.length : Int) = p.al.length := rfl
   omega
  have := hkn.all k hk2
  have e2 : p.ab.a.getD k 0 = low := by show p.al.getD k 0 = low; rw [← e]; simp [List.getD, hk]
  rw [e2] at this
  exact this.2.2.2
 have hd1 : 1 ≤ p.d := hc.d1
 have hs3 : p.s ≤ 1099511627776 := hc.s3
 have E2 : Hk (((p.mn : Int) = p.s - low ∧ ∀ k, k < p.mn → KpAt p k) ↔ r = true) := ⟨by rw [← hlow]; exact (kp_iff p h.m.q.len).symm.trans E.out⟩
 have hmn : p.mn ≤ 1048576 := by have := hs.m.n; rw [h.m.q.len] at this; exact this
 have HLL := Hk.mk h.m.q.len
 have HSL := Hk.mk hs.m
 have HLOW := Hk.mk hlow
 have HBD : Hk (0 ≤ low ∧ low ≤ 1099511627776 ∧ 0 ≤ p.s ∧ p.s ≤ 1099511627776) := ⟨by omega⟩
 have HWB : Hk (Below w.heap.size w (w.alloc (.cells (jjP p) 26))) := ⟨(Below.refl _ _).alloc (Nat.le_refl _) _⟩
 have hNW : (w.heap.size + 1) ≤ (w.alloc (.cells (jjP p) 26)).heap.size := by simp
 have HB : Hk (Below (w.heap.size + 1) (w.alloc (.cells (jjP p) 26)) (w.alloc (.cells (jjP p) 26))) := ⟨Below.refl _ _⟩
 have HTR : Hk (∀ X, Below (w.heap.size + 1) (w.alloc (.cells (jjP p) 26)) X → Below w.heap.size w X) := ⟨fun X hX => HWB.out.trans (hX.mono (by omega))⟩
 have HPB : Hk (Bk (w.alloc (.cells (jjP p) 26)) w.heap.size (jjP p)) := ⟨Bk.new w (jjP p) 26⟩
 have HH : Hk (∀ X, Below (w.alloc (.cells (jjP p) 26)).heap.size (w.alloc (.cells (jjP p) 26)) X → PvD X X.heap.size p) := ⟨fun X hX => h.later (HWB.out.trans (hX.mono HWB.out.size))⟩
 clear h hs hc hkn E hlow han hlb hd1 hs3 hn1
 go_enter Tryz.func36, Tryz.ntmps36
 go_upto_region 1 with fail
 generalize (w.alloc (.cells (jjP p) 26)) = V at *
 have HV : Hk (Below V.heap.size V V) := ⟨Below.refl _ _⟩
 have c0 : V.cell? ⟨w.heap.size, 0, none⟩ = some (.int .i64 p.i) := HPB.out.c 0
 have c4 : V.cell? ⟨w.heap.size, 4, none⟩ = some (.int .i64 p.s) := HPB.out.c 4
 have c5 : V.cell? ⟨w.heap.size, 5, none⟩ = some (.slice p.ma p.mn p.mc) := HPB.out.c 5
 have c8 : V.cell? ⟨w.heap.size, 8, none⟩ = some (.slice p.aa p.an p.ac) := HPB.out.c 8
 have hl := HPB.out.lt
 have HPC := Hk.mk (show (∀ X, Below V.heap.size V X → X.cell? ⟨w.heap.size, 0, none⟩ = some (.int .i64 p.i) ∧ X.cell? ⟨w.heap.size, 4, none⟩ = some (.int .i64 p.s) ∧ X.cell? ⟨w.heap.size, 5, none⟩ = some (.slice p.ma p.mn p.mc) ∧ w.heap.size < X.heap.size) from fun X hX => ⟨(hX.cell (p := ⟨w.heap.size, 0, none⟩) hl).trans c0, (hX.cell (p := ⟨w.heap.size, 4, none⟩) hl).trans c4, (hX.cell (p := ⟨w.heap.size, 5, none⟩) hl).trans c5, Nat.lt_of_lt_of_le hl hX.size⟩)
 have HAA := Hk.mk (HH.out V HV.out).a
 clear HB hNW HTR HPB c0 c4 c5
 go_upto_region 2 with (go_at_call 57; (with_reducible refine (min_any p.aa p.an p.ac p.al _ HAA.out han0 han2).mono ?_); rintro e z ⟨rfl, hz⟩; rw [HLOW.out]; have hb := below_m hz; clear hz; replace HV := Hk.mk hb; clear hb)
 clear c8 HAA
 obtain ⟨c0, c4, c5, cl⟩ := HPC.out _ HV.out
 have gs : IntKind.i64.wrap (p.s - low) = p.s - low := by have := HBD.out; exact wr27 (by omega) (by omega)
 by_cases q1 : (p.mn : Int) = p.s - low
 case neg =>
  have f1 : ((p.mn : Int) != p.s - low) = true := by simpa using q1
  have HQ := Hk.mk q1
  clear q1
  go_wp2
  go_ret
  exact ⟨no_as E2.out (fun g => HQ.out g.1), HWB.out.trans (HV.out.mono HWB.out.size)⟩
 have f1 : ((p.mn : Int) != p.s - low) = false := by simpa using q1
 have E3 : Hk ((∀ k, k < p.mn → KpAt p k) ↔ r = true) := ⟨⟨fun g => E2.out.1 ⟨q1, g⟩, fun g => (E2.out.2 g).2⟩⟩
 clear q1 E2
 by_cases h0 : p.mn = 0
 ·have hz : ¬ ((0 : Int) < (p.mn : Int)) := by omega
  have hd : decide ((0 : Int) < (p.mn : Int)) = false := by simp; omega
  go_wp2
  go_loopw [20] (fun i wr => i = .int .i64 0 ∧ Hk (Below V.heap.size V wr)) (fun _ _ => 0)
  case atStart => exact ⟨rfl, HV⟩
  case round =>
   clear HV
   obtain ⟨rfl, HV⟩ := hrel
   go_wp2
   go_ret
   exact ⟨yes_as E3.out (fun k hk => absurd hk (by omega)), HWB.out.trans (HV.out.mono HWB.out.size)⟩
 obtain ⟨b, off, ea, hbl0, -, -⟩ := (HH.out _ HV.out).m.three (show 0 < p.mn by omega)
 rw [ea] at c5 HPC
 rw [ea]
 clear h0 hbl0
 go_wp2
 go_loopw [20] (fun i wr => ∃ k : Nat, i = .int .i64 k ∧ k ≤ p.mn ∧ Hk (∀ m, m < k → KpAt p m) ∧ Hk (Below V.heap.size V wr)) (fun i _ => p.mn - (intOf i).toNat)
 case atStart => exact ⟨0, rfl, Nat.zero_le _, ⟨fun m hm => absurd hm (by omega)⟩, HV⟩
 case round =>
  clear HV c0 c4 c5 cl
  obtain ⟨k, rfl, hk, HD, HV⟩ := hrel
  by_cases hlt : k < p.mn
  ·obtain ⟨b2, off2, ea2, hbl, ⟨p0, p1, p2⟩, hq⟩ := (HH.out _ HV.out).m.three hlt
   have e9 := ea.symm.trans ea2
   injection e9 with e9
   injection e9 with e91 e92
   subst e91 e92
   have hkl : k < p.ml.length := by rw [HLL.out]; exact hlt
   have HSQ := Hk.mk (HSL.out.m _ (getD_memI hkl))
   have hat : KpAt p k = (okN (p.ml.getD k default).ab = true ∧ (p.ml.getD k default).p = p.i ∧ (p.ml.getD k default).t = minL p.al + 1 + k) := rfl
   rw [HLOW.out] at hat
   obtain ⟨q, hqq⟩ : ∃ q, p.ml.getD k default = q := ⟨_, rfl⟩
   rw [hqq] at p0 p1 p2 hq HSQ hat
   have HATE := Hk.mk hat
   clear hqq hat
   have HLT := Hk.mk hlt
   have t0 : (0 : Int) ≤ (k : Int) := by omega
   have t1 : (k : Int) < (p.mn : Int) := by omega
   have gk : IntKind.i64.wrap ((k : Int) + 1) = ((k + 1 : Nat) : Int) := by push_cast; exact wr27 (by omega) (by omega)
   have gl1 : IntKind.i64.wrap (low + 1) = low + 1 := by have := HBD.out; exact wr27 (by omega) (by omega)
   have gl2 : IntKind.i64.wrap (low + 1 + (k : Int)) = low + 1 + (k : Int) := by have := HBD.out; exact wr27 (by omega) (by omega)
   clear hkl
   go_upto_region 7 with fail
   have HBQ : Hk (Bk (wr.alloc (.cells #[.int .i64 q.t, .int .i64 q.p, .slice q.a q.n q.c] 40)) wr.heap.size #[.int .i64 q.t, .int .i64 q.p, .slice q.a q.n q.c]) := ⟨Bk.new wr #[.int .i64 q.t, .int .i64 q.p, .slice q.a q.n q.c] 40⟩
   have HW4 : Hk (Below wr.heap.size wr (wr.alloc (.cells #[.int .i64 q.t, .int .i64 q.p, .slice q.a q.n q.c] 40))) := ⟨(Below.refl _ _).alloc (Nat.le_refl _) _⟩
   have HDQ : Hk (CmD (wr.alloc (.cells #[.int .i64 q.t, .int .i64 q.p, .slice q.a q.n q.c] 40)) (wr.alloc (.cells #[.int .i64 q.t, .int .i64 q.p, .slice q.a q.n q.c] 40)).heap.size q.a q.n q.l) := ⟨hq.later HW4.out⟩
   have HVW : Hk (Below V.heap.size V (wr.alloc (.cells #[.int .i64 q.t, .int .i64 q.p, .slice q.a q.n q.c] 40))) := ⟨HV.out.trans (HW4.out.mono HV.out.size)⟩
   clear hq p0 p1 p2 hk hlt
   generalize hPQ : wr.heap.size = PQ at *
   have hpq : PQ < (wr.alloc (.cells #[.int .i64 q.t, .int .i64 q.p, .slice q.a q.n q.c] 40)).heap.size := HBQ.out.lt
   generalize (wr.alloc (.cells #[.int .i64 q.t, .int .i64 q.p, .slice q.a q.n q.c] 40)) = W4 at *
   have i0 : W4.cell? ⟨PQ, 0, none⟩ = some (.int .i64 q.t) := HBQ.out.c 0
   have i1 : W4.cell? ⟨PQ, 1, none⟩ = some (.int .i64 q.p) := HBQ.out.c 1
   have i2 : W4.cell? ⟨PQ, 2, none⟩ = some (.slice q.a q.n q.c) := HBQ.out.c 2
   have I0 := Hk.mk i0
   have I1 := Hk.mk i1
   obtain ⟨v0, hv0⟩ : ∃ v, okN q.ab = v := ⟨_, rfl⟩
   have EC : Hk ((if okN ⟨q.t, q.p, abC q.l⟩ then (0 : Int) else 1) = (if v0 then 0 else 1)) := ⟨by show (if okN q.ab = true then (0 : Int) else 1) = _; rw [hv0]⟩
   have HVO := Hk.mk hv0
   clear hv0
   obtain ⟨v1, w1⟩ : ∃ b, (q.p != p.i) = b := ⟨_, rfl⟩
   obtain ⟨v2, w2⟩ : ∃ b, (q.t != low + 1 + (k : Int)) = b := ⟨_, rfl⟩
   have HAT : Hk (KpAt p k ↔ (v0 = true ∧ v1 = false ∧ v2 = false)) := ⟨by rw [HATE.out, HVO.out, ← w1, ← w2, bne_eq_false_iff_eq, bne_eq_false_iff_eq]⟩
   clear HATE
   cases v0
   case false =>
    have EC2 : Hk ((if okN ⟨q.t, q.p, abC q.l⟩ then (0 : Int) else 1) = 1) := EC
    clear EC
    have EC := EC2
    go_wp2_with (go_at_call 67; (with_reducible refine (tcheck_as 1 q.t q.p q.a q.n q.c q.l _ HDQ.out HSQ.out EC).mono ?_); rintro e z ⟨rfl, hb⟩; have HR := Hk.mk hb; have i0 := (hb.cell (p := ⟨PQ, 0, none⟩) hpq).trans I0.out; have i1 := (hb.cell (p := ⟨PQ, 1, none⟩) hpq).trans I1.out; have HV6 := Hk.mk (HVW.out.trans (hb.mono HVW.out.size)); obtain ⟨x0, x4, x5, xl⟩ := HPC.out _ HV6.out; have hpz := Nat.lt_of_lt_of_le hpq hb.size; clear hb)
    go_ret
    exact ⟨no_as E3.out (fun g => by have := HAT.out.1 (g k HLT.out); simp at this), HWB.out.trans (HV6.out.mono HWB.out.size)⟩
   have EC2 : Hk ((if okN ⟨q.t, q.p, abC q.l⟩ then (0 : Int) else 1) = 0) := EC
   clear EC
   have EC := EC2
   cases v1
   case true =>
    go_wp2_with (go_at_call 67; (with_reducible refine (tcheck_as 0 q.t q.p q.a q.n q.c q.l _ HDQ.out HSQ.out EC).mono ?_); rintro e z ⟨rfl, hb⟩; have HR := Hk.mk hb; have i0 := (hb.cell (p := ⟨PQ, 0, none⟩) hpq).trans I0.out; have i1 := (hb.cell (p := ⟨PQ, 1, none⟩) hpq).trans I1.out; have HV6 := Hk.mk (HVW.out.trans (hb.mono HVW.out.size)); obtain ⟨x0, x4, x5, xl⟩ := HPC.out _ HV6.out; have hpz := Nat.lt_of_lt_of_le hpq hb.size; clear hb)
    go_ret
    exact ⟨no_as E3.out (fun g => by have := HAT.out.1 (g k HLT.out); simp at this), HWB.out.trans (HV6.out.mono HWB.out.size)⟩
   cases v2
   case true =>
    go_wp2_with (go_at_call 67; (with_reducible refine (tcheck_as 0 q.t q.p q.a q.n q.c q.l _ HDQ.out HSQ.out EC).mono ?_); rintro e z ⟨rfl, hb⟩; have HR := Hk.mk hb; have i0 := (hb.cell (p := ⟨PQ, 0, none⟩) hpq).trans I0.out; have i1 := (hb.cell (p := ⟨PQ, 1, none⟩) hpq).trans I1.out; have HV6 := Hk.mk (HVW.out.trans (hb.mono HVW.out.size)); obtain ⟨x0, x4, x5, xl⟩ := HPC.out _ HV6.out; have hpz := Nat.lt_of_lt_of_le hpq hb.size; clear hb)
    go_ret
    exact ⟨no_as E3.out (fun g => by have := HAT.out.1 (g k HLT.out); simp at this), HWB.out.trans (HV6.out.mono HWB.out.size)⟩
   have HD2 : Hk (∀ m, m < k + 1 → KpAt p m) := ⟨fun m hm => by
    by_cases e : m = k
    ·rw [e]; exact HAT.out.2 ⟨rfl, rfl, rfl⟩
    ·exact HD.out m (by omega)⟩
   go_wp2_with (go_at_call 67; (with_reducible refine (tcheck_as 0 q.t q.p q.a q.n q.c q.l _ HDQ.out HSQ.out EC).mono ?_); rintro e z ⟨rfl, hb⟩; have HR := Hk.mk hb; have i0 := (hb.cell (p := ⟨PQ, 0, none⟩) hpq).trans I0.out; have i1 := (hb.cell (p := ⟨PQ, 1, none⟩) hpq).trans I1.out; have HV6 := Hk.mk (HVW.out.trans (hb.mono HVW.out.size)); obtain ⟨x0, x4, x5, xl⟩ := HPC.out _ HV6.out; have hpz := Nat.lt_of_lt_of_le hpq hb.size; clear hb)
   exact ⟨⟨k + 1, by go_num, HLT.out, HD2, HV6⟩, by first | exact nx_ms HLT.out | exact nx_ms' HLT.out⟩
  ·obtain rfl : k = p.mn := by omega
   go_wp2
   go_ret
   exact ⟨yes_as E3.out HD.out, HWB.out.trans (HV.out.mono HWB.out.size)⟩
end Go.Proofs.YtdpblimhfmfbnaaGreat
namespace Go.Proofs.YtdpblimhfmfbnaaGreat
open Go.ChangeShapes Go.WideShapes Go.ChangeAt Go.RowKit Go.Deep
theorem noi_as {P : Prop} {r : Bool} (E : P ↔ r = true) {z0 : Int} (E0 : (if r then (0 : Int) else 1) = z0) (h : ¬ P) : Ending.returned (.int .i64 1) = .returned (.int .i64 z0) := by rw [← E0, r_no E h]; rfl
theorem yesi_as {P : Prop} {r : Bool} (E : P ↔ r = true) {z0 : Int} (E0 : (if r then (0 : Int) else 1) = z0) (h : P) : Ending.returned (.int .i64 0) = .returned (.int .i64 z0) := by rw [← E0, E.1 h]; rfl
set_option maxRecDepth 100000 in
set_option maxHeartbeats 3200000 in
theorem pcheck_as (r : Bool) (z0 : Int) (p : Pv) (w : World) (h : PvD w w.heap.size p) (hs : PvS p) (E : Hk (OkP p.ab ↔ r = true)) (E0 : Hk ((if r then (0 : Int) else 1) = z0)) :
  Calls Tryz.prog 14 #[.agg (jjP p)] w fun e w' => e = .returned (.int .i64 z0) ∧ Below w.heap.size w w' := by
 have HH := Hk.mk h
 have HS := Hk.mk hs
 have hxl := h.x.len
 obtain ⟨r1, e1⟩ := bool_of (CntP p.ab)
 obtain ⟨r2, e2⟩ := bool_of (KnP p.ab)
 obtain ⟨r3, e3⟩ := bool_of (WtP p.ab)
 obtain ⟨r4, e4⟩ := bool_of (KpP p.ab)
 have EE : Hk ((r1 = true ∧ r2 = true ∧ r3 = true ∧ r4 = true ∧ p.xn ≤ 16 ∧ (p.xn : Int) ≤ p.t) ↔ r = true) := ⟨by
  rw [← E.out, ← e1, ← e2, ← e3, ← e4, ← hxl]
  exact ⟨fun ⟨a, b, c, d, x, y⟩ => ⟨a, b, c, d, x, y⟩, fun k => ⟨k.c, k.k, k.w, k.e, k.x1, k.x2⟩⟩⟩
 have E1 := Hk.mk e1
 have E2 := Hk.mk e2
 have E3 := Hk.mk e3
 have E4 := Hk.mk e4
 have HWB : Hk (Below w.heap.size w (w.alloc (.cells (jjP p) 26))) := ⟨(Below.refl _ _).alloc (Nat.le_refl _) _⟩
 have hNW : (w.heap.size + 1) ≤ (w.alloc (.cells (jjP p) 26)).heap.size := by simp
 have HB : Hk (Below (w.heap.size + 1) (w.alloc (.cells (jjP p) 26)) (w.alloc (.cells (jjP p) 26))) := ⟨Below.refl _ _⟩
 have HTR : Hk (∀ X, Below (w.heap.size + 1) (w.alloc (.cells (jjP p) 26)) X → Below w.heap.size w X) := ⟨fun X hX => HWB.out.trans (hX.mono (by omega))⟩
 have HPB : Hk (Bk (w.alloc (.cells (jjP p) 26)) w.heap.size (jjP p)) := ⟨Bk.new w (jjP p) 26⟩
 have HVF : Hk (∀ X, Below (w.heap.size + 1) (w.alloc (.cells (jjP p) 26)) X → X.cell? ⟨w.heap.size, 0, none⟩ = some (.int .i64 p.i) ∧ X.cell? ⟨w.heap.size, 1, none⟩ = some (.int .i64 p.n) ∧ X.cell? ⟨w.heap.size, 2, none⟩ = some (.int .i64 p.d) ∧ X.cell? ⟨w.heap.size, 3, none⟩ = some (.int .i64 p.t) ∧ X.cell? ⟨w.heap.size, 4, none⟩ = some (.int .i64 p.s) ∧ X.cell? ⟨w.heap.size, 5, none⟩ = some (.slice p.ma p.mn p.mc) ∧ X.cell? ⟨w.heap.size, 6, none⟩ = some (.slice p.la p.ln p.lc) ∧ X.cell? ⟨w.heap.size, 7, none⟩ = some (.slice p.ha p.hn p.hc) ∧ X.cell? ⟨w.heap.size, 8, none⟩ = some (.slice p.aa p.an p.ac) ∧ X.cell? ⟨w.heap.size, 9, none⟩ = some (.slice p.xa p.xn p.xc) ∧ X.cell? ⟨w.heap.size, 10, none⟩ = some (.bool p.b) ∧ w.heap.size < X.heap.size) := ⟨fun X hX => by
  have hl : w.heap.size < w.heap.size + 1 := Nat.lt_succ_self _
  have c := fun i => (hX.cell (p := ⟨w.heap.size, i, none⟩) hl).trans (HPB.out.c i)
  exact ⟨c 0, c 1, c 2, c 3, c 4, c 5, c 6, c 7, c 8, c 9, c 10, World.block_lt_of_cell? _ _ (c 0)⟩⟩
 clear h hs E e1 e2 e3 e4 hxl HPB
 obtain ⟨y0, y1, y2, y3, y4, y5, y6, y7, y8, y9, y10, yl⟩ := HVF.out _ HB.out
 go_enter Tryz.func14, Tryz.ntmps14
 cases r1
 ·have HN : Hk (¬ CntP p.ab) := ⟨fun g => by have := E1.out.1 g; cases this⟩
  go_wp2_with (go_at_call 33; (with_reducible refine (counted_as false p _ ⟨⟨fun g => absurd g HN.out, fun g => by cases g⟩⟩).mono ?_); rintro e z ⟨rfl, hb⟩; have HB2 := Hk.mk (kw_step HB.out hNW hb); clear y0 y1 y2 y3 y4 y5 y6 y7 y8 y9 y10 yl; clear hb; replace HB := HB2; clear HB2; obtain ⟨y0, y1, y2, y3, y4, y5, y6, y7, y8, y9, y10, yl⟩ := HVF.out _ HB.out)
  go_ret
  exact ⟨noi_as EE.out E0.out (fun g => by cases g.1), HTR.out _ HB.out⟩
 have HC := Hk.mk (E1.out.2 rfl)
 cases r2
 ·have HN : Hk (¬ KnP p.ab) := ⟨fun g => by have := E2.out.1 g; cases this⟩
  go_wp2_with (first | (go_at_call 33; (with_reducible refine (counted_as true p _ ⟨⟨fun _ => rfl, fun _ => HC.out⟩⟩).mono ?_); rintro e z ⟨rfl, hb⟩; have HB2 := Hk.mk (kw_step HB.out hNW hb); clear y0 y1 y2 y3 y4 y5 y6 y7 y8 y9 y10 yl; clear hb; replace HB := HB2; clear HB2; obtain ⟨y0, y1, y2, y3, y4, y5, y6, y7, y8, y9, y10, yl⟩ := HVF.out _ HB.out) | (go_at_call 34; (with_reducible refine (known_as false p _ ((HH.out.below (HTR.out _ HB.out) (Nat.le_refl _)).mono (HTR.out _ HB.out).size) HS.out HC.out ⟨⟨fun g => absurd g HN.out, fun g => by cases g⟩⟩).mono ?_); rintro e z ⟨rfl, hb⟩; have HB2 := Hk.mk (kw_step HB.out hNW hb); clear y0 y1 y2 y3 y4 y5 y6 y7 y8 y9 y10 yl; clear hb; replace HB := HB2; clear HB2; obtain ⟨y0, y1, y2, y3, y4, y5, y6, y7, y8, y9, y10, yl⟩ := HVF.out _ HB.out))
  go_ret
  exact ⟨noi_as EE.out E0.out (fun g => by cases g.2.1), HTR.out _ HB.out⟩
 have HK2 := Hk.mk (E2.out.2 rfl)
 cases r3
 ·have HN : Hk (¬ WtP p.ab) := ⟨fun g => by have := E3.out.1 g; cases this⟩
  go_wp2_with (first | (go_at_call 33; (with_reducible refine (counted_as true p _ ⟨⟨fun _ => rfl, fun _ => HC.out⟩⟩).mono ?_); rintro e z ⟨rfl, hb⟩; have HB2 := Hk.mk (kw_step HB.out hNW hb); clear y0 y1 y2 y3 y4 y5 y6 y7 y8 y9 y10 yl; clear hb; replace HB := HB2; clear HB2; obtain ⟨y0, y1, y2, y3, y4, y5, y6, y7, y8, y9, y10, yl⟩ := HVF.out _ HB.out) | (go_at_call 34; (with_reducible refine (known_as true p _ ((HH.out.below (HTR.out _ HB.out) (Nat.le_refl _)).mono (HTR.out _ HB.out).size) HS.out HC.out ⟨⟨fun _ => rfl, fun _ => HK2.out⟩⟩).mono ?_); rintro e z ⟨rfl, hb⟩; have HB2 := Hk.mk (kw_step HB.out hNW hb); clear y0 y1 y2 y3 y4 y5 y6 y7 y8 y9 y10 yl; clear hb; replace HB := HB2; clear HB2; obtain ⟨y0, y1, y2, y3, y4, y5, y6, y7, y8, y9, y10, yl⟩ := HVF.out _ HB.out) | (go_at_call 35; (with_reducible refine (waiting_as false p _ ((HH.out.below (HTR.out _ HB.out) (Nat.le_refl _)).mono (HTR.out _ HB.out).size) HS.out HC.out HK2.out ⟨⟨fun g => absurd g HN.out, fun g => by cases g⟩⟩).mono ?_); rintro e z ⟨rfl, hb⟩; have HB2 := Hk.mk (kw_step HB.out hNW hb); clear y0 y1 y2 y3 y4 y5 y6 y7 y8 y9 y10 yl; clear hb; replace HB := HB2; clear HB2; obtain ⟨y0, y1, y2, y3, y4, y5, y6, y7, y8, y9, y10, yl⟩ := HVF.out _ HB.out))
  go_ret
  exact ⟨noi_as EE.out E0.out (fun g => by cases g.2.2.1), HTR.out _ HB.out⟩
 have HW3 := Hk.mk (E3.out.2 rfl)
 cases r4
 ·have HN : Hk (¬ KpP p.ab) := ⟨fun g => by have := E4.out.1 g; cases this⟩
  go_wp2_with (first | (go_at_call 33; (with_reducible refine (counted_as true p _ ⟨⟨fun _ => rfl, fun _ => HC.out⟩⟩).mono ?_); rintro e z ⟨rfl, hb⟩; have HB2 := Hk.mk (kw_step HB.out hNW hb); clear y0 y1 y2 y3 y4 y5 y6 y7 y8 y9 y10 yl; clear hb; replace HB := HB2; clear HB2; obtain ⟨y0, y1, y2, y3, y4, y5, y6, y7, y8, y9, y10, yl⟩ := HVF.out _ HB.out) | (go_at_call 34; (with_reducible refine (known_as true p _ ((HH.out.below (HTR.out _ HB.out) (Nat.le_refl _)).mono (HTR.out _ HB.out).size) HS.out HC.out ⟨⟨fun _ => rfl, fun _ => HK2.out⟩⟩).mono ?_); rintro e z ⟨rfl, hb⟩; have HB2 := Hk.mk (kw_step HB.out hNW hb); clear y0 y1 y2 y3 y4 y5 y6 y7 y8 y9 y10 yl; clear hb; replace HB := HB2; clear HB2; obtain ⟨y0, y1, y2, y3, y4, y5, y6, y7, y8, y9, y10, yl⟩ := HVF.out _ HB.out) | (go_at_call 35; (with_reducible refine (waiting_as true p _ ((HH.out.below (HTR.out _ HB.out) (Nat.le_refl _)).mono (HTR.out _ HB.out).size) HS.out HC.out HK2.out ⟨⟨fun _ => rfl, fun _ => HW3.out⟩⟩).mono ?_); rintro e z ⟨rfl, hb⟩; have HB2 := Hk.mk (kw_step HB.out hNW hb); clear y0 y1 y2 y3 y4 y5 y6 y7 y8 y9 y10 yl; clear hb; replace HB := HB2; clear HB2; obtain ⟨y0, y1, y2, y3, y4, y5, y6, y7, y8, y9, y10, yl⟩ := HVF.out _ HB.out) | (go_at_call 36; (with_reducible refine (kept_as false p _ ((HH.out.below (HTR.out _ HB.out) (Nat.le_refl _)).mono (HTR.out _ HB.out).size) HS.out HC.out HK2.out ⟨⟨fun g => absurd g HN.out, fun g => by cases g⟩⟩).mono ?_); rintro e z ⟨rfl, hb⟩; have HB2 := Hk.mk (kw_step HB.out hNW hb); clear y0 y1 y2 y3 y4 y5 y6 y7 y8 y9 y10 yl; clear hb; replace HB := HB2; clear HB2; obtain ⟨y0, y1, y2, y3, y4, y5, y6, y7, y8, y9, y10, yl⟩ := HVF.out _ HB.out))
  go_ret
  exact ⟨noi_as EE.out E0.out (fun g => by cases g.2.2.2.1), HTR.out _ HB.out⟩
 have HK4 := Hk.mk (E4.out.2 rfl)
 by_cases q1 : p.xn ≤ 16
 ·have f1 : decide ((p.xn : Int) ≤ 16) = true := by rw [decide_eq_true_iff]; omega
  by_cases q2 : (p.xn : Int) ≤ p.t
  ·have f2 : decide ((p.xn : Int) ≤ p.t) = true := by rw [decide_eq_true_iff]; exact q2
   have HF := Hk.mk (EE.out.1 ⟨rfl, rfl, rfl, rfl, q1, q2⟩)
   clear q1 q2
   go_wp2_with (first | (go_at_call 33; (with_reducible refine (counted_as true p _ ⟨⟨fun _ => rfl, fun _ => HC.out⟩⟩).mono ?_); rintro e z ⟨rfl, hb⟩; have HB2 := Hk.mk (kw_step HB.out hNW hb); clear y0 y1 y2 y3 y4 y5 y6 y7 y8 y9 y10 yl; clear hb; replace HB := HB2; clear HB2; obtain ⟨y0, y1, y2, y3, y4, y5, y6, y7, y8, y9, y10, yl⟩ := HVF.out _ HB.out) | (go_at_call 34; (with_reducible refine (known_as true p _ ((HH.out.below (HTR.out _ HB.out) (Nat.le_refl _)).mono (HTR.out _ HB.out).size) HS.out HC.out ⟨⟨fun _ => rfl, fun _ => HK2.out⟩⟩).mono ?_); rintro e z ⟨rfl, hb⟩; have HB2 := Hk.mk (kw_step HB.out hNW hb); clear y0 y1 y2 y3 y4 y5 y6 y7 y8 y9 y10 yl; clear hb; replace HB := HB2; clear HB2; obtain ⟨y0, y1, y2, y3, y4, y5, y6, y7, y8, y9, y10, yl⟩ := HVF.out _ HB.out) | (go_at_call 35; (with_reducible refine (waiting_as true p _ ((HH.out.below (HTR.out _ HB.out) (Nat.le_refl _)).mono (HTR.out _ HB.out).size) HS.out HC.out HK2.out ⟨⟨fun _ => rfl, fun _ => HW3.out⟩⟩).mono ?_); rintro e z ⟨rfl, hb⟩; have HB2 := Hk.mk (kw_step HB.out hNW hb); clear y0 y1 y2 y3 y4 y5 y6 y7 y8 y9 y10 yl; clear hb; replace HB := HB2; clear HB2; obtain ⟨y0, y1, y2, y3, y4, y5, y6, y7, y8, y9, y10, yl⟩ := HVF.out _ HB.out) | (go_at_call 36; (with_reducible refine (kept_as true p _ ((HH.out.below (HTR.out _ HB.out) (Nat.le_refl _)).mono (HTR.out _ HB.out).size) HS.out HC.out HK2.out ⟨⟨fun _ => rfl, fun _ => HK4.out⟩⟩).mono ?_); rintro e z ⟨rfl, hb⟩; have HB2 := Hk.mk (kw_step HB.out hNW hb); clear y0 y1 y2 y3 y4 y5 y6 y7 y8 y9 y10 yl; clear hb; replace HB := HB2; clear HB2; obtain ⟨y0, y1, y2, y3, y4, y5, y6, y7, y8, y9, y10, yl⟩ := HVF.out _ HB.out))
   go_ret
   exact ⟨yesi_as EE.out E0.out (EE.out.2 HF.out), HTR.out _ HB.out⟩
  ·have f2 : decide ((p.xn : Int) ≤ p.t) = false := by rw [decide_eq_false_iff_not]; exact q2
   have HQ := Hk.mk q2
   clear q1 q2
   go_wp2_with (first | (go_at_call 33; (with_reducible refine (counted_as true p _ ⟨⟨fun _ => rfl, fun _ => HC.out⟩⟩).mono ?_); rintro e z ⟨rfl, hb⟩; have HB2 := Hk.mk (kw_step HB.out hNW hb); clear y0 y1 y2 y3 y4 y5 y6 y7 y8 y9 y10 yl; clear hb; replace HB := HB2; clear HB2; obtain ⟨y0, y1, y2, y3, y4, y5, y6, y7, y8, y9, y10, yl⟩ := HVF.out _ HB.out) | (go_at_call 34; (with_reducible refine (known_as true p _ ((HH.out.below (HTR.out _ HB.out) (Nat.le_refl _)).mono (HTR.out _ HB.out).size) HS.out HC.out ⟨⟨fun _ => rfl, fun _ => HK2.out⟩⟩).mono ?_); rintro e z ⟨rfl, hb⟩; have HB2 := Hk.mk (kw_step HB.out hNW hb); clear y0 y1 y2 y3 y4 y5 y6 y7 y8 y9 y10 yl; clear hb; replace HB := HB2; clear HB2; obtain ⟨y0, y1, y2, y3, y4, y5, y6, y7, y8, y9, y10, yl⟩ := HVF.out _ HB.out) | (go_at_call 35; (with_reducible refine (waiting_as true p _ ((HH.out.below (HTR.out _ HB.out) (Nat.le_refl _)).mono (HTR.out _ HB.out).size) HS.out HC.out HK2.out ⟨⟨fun _ => rfl, fun _ => HW3.out⟩⟩).mono ?_); rintro e z ⟨rfl, hb⟩; have HB2 := Hk.mk (kw_step HB.out hNW hb); clear y0 y1 y2 y3 y4 y5 y6 y7 y8 y9 y10 yl; clear hb; replace HB := HB2; clear HB2; obtain ⟨y0, y1, y2, y3, y4, y5, y6, y7, y8, y9, y10, yl⟩ := HVF.out _ HB.out) | (go_at_call 36; (with_reducible refine (kept_as true p _ ((HH.out.below (HTR.out _ HB.out) (Nat.le_refl _)).mono (HTR.out _ HB.out).size) HS.out HC.out HK2.out ⟨⟨fun _ => rfl, fun _ => HK4.out⟩⟩).mono ?_); rintro e z ⟨rfl, hb⟩; have HB2 := Hk.mk (kw_step HB.out hNW hb); clear y0 y1 y2 y3 y4 y5 y6 y7 y8 y9 y10 yl; clear hb; replace HB := HB2; clear HB2; obtain ⟨y0, y1, y2, y3, y4, y5, y6, y7, y8, y9, y10, yl⟩ := HVF.out _ HB.out))
   go_ret
   exact ⟨noi_as EE.out E0.out (fun g => by have h1 := HQ.out; have h2 := g.2.2.2.2.2; omega), HTR.out _ HB.out⟩
 ·have f1 : decide ((p.xn : Int) ≤ 16) = false := by rw [decide_eq_false_iff_not]; omega
  have HQ := Hk.mk q1
  clear q1
  go_wp2_with (first | (go_at_call 33; (with_reducible refine (counted_as true p _ ⟨⟨fun _ => rfl, fun _ => HC.out⟩⟩).mono ?_); rintro e z ⟨rfl, hb⟩; have HB2 := Hk.mk (kw_step HB.out hNW hb); clear y0 y1 y2 y3 y4 y5 y6 y7 y8 y9 y10 yl; clear hb; replace HB := HB2; clear HB2; obtain ⟨y0, y1, y2, y3, y4, y5, y6, y7, y8, y9, y10, yl⟩ := HVF.out _ HB.out) | (go_at_call 34; (with_reducible refine (known_as true p _ ((HH.out.below (HTR.out _ HB.out) (Nat.le_refl _)).mono (HTR.out _ HB.out).size) HS.out HC.out ⟨⟨fun _ => rfl, fun _ => HK2.out⟩⟩).mono ?_); rintro e z ⟨rfl, hb⟩; have HB2 := Hk.mk (kw_step HB.out hNW hb); clear y0 y1 y2 y3 y4 y5 y6 y7 y8 y9 y10 yl; clear hb; replace HB := HB2; clear HB2; obtain ⟨y0, y1, y2, y3, y4, y5, y6, y7, y8, y9, y10, yl⟩ := HVF.out _ HB.out) | (go_at_call 35; (with_reducible refine (waiting_as true p _ ((HH.out.below (HTR.out _ HB.out) (Nat.le_refl _)).mono (HTR.out _ HB.out).size) HS.out HC.out HK2.out ⟨⟨fun _ => rfl, fun _ => HW3.out⟩⟩).mono ?_); rintro e z ⟨rfl, hb⟩; have HB2 := Hk.mk (kw_step HB.out hNW hb); clear y0 y1 y2 y3 y4 y5 y6 y7 y8 y9 y10 yl; clear hb; replace HB := HB2; clear HB2; obtain ⟨y0, y1, y2, y3, y4, y5, y6, y7, y8, y9, y10, yl⟩ := HVF.out _ HB.out) | (go_at_call 36; (with_reducible refine (kept_as true p _ ((HH.out.below (HTR.out _ HB.out) (Nat.le_refl _)).mono (HTR.out _ HB.out).size) HS.out HC.out HK2.out ⟨⟨fun _ => rfl, fun _ => HK4.out⟩⟩).mono ?_); rintro e z ⟨rfl, hb⟩; have HB2 := Hk.mk (kw_step HB.out hNW hb); clear y0 y1 y2 y3 y4 y5 y6 y7 y8 y9 y10 yl; clear hb; replace HB := HB2; clear HB2; obtain ⟨y0, y1, y2, y3, y4, y5, y6, y7, y8, y9, y10, yl⟩ := HVF.out _ HB.out))
  go_ret
  exact ⟨noi_as EE.out E0.out (fun g => by have h1 := HQ.out; have h2 := g.2.2.2.2.1; omega), HTR.out _ HB.out⟩
end Go.Proofs.YtdpblimhfmfbnaaGreat
namespace Go.Proofs.YtdpblimhfmfbnaaGreat
open List renaming getElem_toArray → jjA, getElem_cons_succ → jjB, getElem_cons_zero → jjC, setIfInBounds_toArray → jjD, set_cons_zero → jjE, set_cons_succ → jjF
open Go.ChangeShapes Go.WideShapes Go.ChangeAt Go.RowKit Go.Deep
theorem z_run_copy (w : World) (ty : TypeId) (b o dLen dCap : Nat) (a : Addr) (sLen sCap k : Nat) (cs : List Value) (hk : Nat.min sLen dLen = k) (hn : cs.length = k * 1)
  (hsrc : ∀ j v, cs[j]? = some v → w.cell? (a.add j) = some v) (hc : ∀ j, j < cs.length → (w.cell? ⟨b, o + j, none⟩).isSome = true) (hf : ∀ j, j < cs.length → w.frozen? ⟨b, o + j, none⟩ = false) (h1 : ∀ v ∈ cs, v.oneCell' = true) :
  (Builtin.copy_ #[23, 23] ty #[.slice (some ⟨b, o, none⟩) dLen dCap, .slice (some a) sLen sCap]).run Tryz.prog w = .ok (goInt k) (w.setCells b o cs) := by
 have hl := run_loadCells_list (P := Tryz.prog) w a cs hsrc
 have hst := run_storeCells_cells (P := Tryz.prog) b o cs 0 w (by simpa using hc) (by simpa using hf) h1
 obtain ⟨i0, hi, hz0, hz1, hz2⟩ := info_parts info_i
 rw [hn, Nat.mul_one] at hl
 simp [Builtin.copy_, run_underlying Tryz.underlying23, Builtin.lenOf, Builtin.firstCells, sizeOf, typeInfo, hi, hz1, hk, hl, hst]
def Rep (w : World) (g n k : Nat) (v : Int) : Prop := ∃ cur : Array Value, w.heap[g]? = some (.cells cur 3 (0, 0)) ∧ cur.size = n ∧ ∀ j, j < k → cur[j]? = some (.int .i64 v)
theorem Rep.step {w : World} {g n k m : Nat} {v : Int} (h : Rep w g n k v) (hm : k + m ≤ n) : Rep (w.setCells g k (List.replicate m (.int .i64 v))) g n (k + m) v := by
 obtain ⟨cur, hh, hs, hc⟩ := h
 obtain ⟨cur', hh', hs'⟩ := setCells_heap (List.replicate m (Value.int .i64 v)) k w cur hh
 refine ⟨cur', hh', hs'.trans hs, fun j hj => ?_⟩
 rw [← cell_cur hh' j]
 by_cases hjk : j < k
 ·rw [World.cell?_setCells_out g _ k w ⟨g, j, none⟩ (fun _ _ => Or.inl hjk), cell_cur hh, hc j hjk]
 ·obtain ⟨q, rfl⟩ : ∃ q, j = k + q := ⟨j - k, by omega⟩
  rw [World.cell?_setCells_in g _ k w (fun j hj => by rw [cell_cur hh, Array.getElem?_eq_getElem (by simp at hj; omega)]; rfl) q (by simp; omega)]
  simp
theorem mul64_one (n : Nat) (w : World) (h1 : 1 ≤ n) (h8 : n ≤ 8) : Calls Tryz.prog 115 #[.int .u64 1, .int .u64 (n : Int)] w fun e z => e = .returned (.tuple #[.int .u64 0, .int .u64 (n : Int)]) ∧ z = w := by
 obtain rfl | rfl | rfl | rfl | rfl | rfl | rfl | rfl : n = 1 ∨ n = 2 ∨ n = 3 ∨ n = 4 ∨ n = 5 ∨ n = 6 ∨ n = 7 ∨ n = 8 := by omega
 all_goals go_enter Tryz.func115, Tryz.ntmps115
 all_goals go_wp2
 all_goals go_ret2
 all_goals exact ⟨rfl, rfl⟩
theorem mul_one (n : Nat) (w : World) (h1 : 1 ≤ n) (h8 : n ≤ 8) : Calls Tryz.prog 99 #[.int .u64 1, .int .u64 (n : Int)] w fun e z => e = .returned (.tuple #[.int .u64 0, .int .u64 (n : Int)]) ∧ z = w := by
 have hn : 0 ≤ (n : Int) := by omega
 go_enter Tryz.func99, Tryz.ntmps99
 go_wp2_with (go_at_call 115; (with_reducible refine (mul64_one n _ h1 h8).mono ?_); rintro e z ⟨rfl, hz⟩; rw [hz]; clear hz z)
 go_ret2
 exact ⟨rfl, rfl⟩
theorem mk_int (N : Nat) (hN : 1 ≤ N) (h8 : N ≤ 8) (w : World) : (Instr.makeSlice 23 (.int .i64 (N : Int)) (.int .i64 (N : Int))).run Tryz.prog w = .ok (.slice (some ⟨w.heap.size, 0, none⟩) N N) (w.alloc (.cells (Array.replicate N (Value.int .i64 0)) 3)) := by
 obtain rfl | rfl | rfl | rfl | rfl | rfl | rfl | rfl : N = 1 ∨ N = 2 ∨ N = 3 ∨ N = 4 ∨ N = 5 ∨ N = 6 ∨ N = 7 ∨ N = 8 := by omega
 all_goals kernel_rfl
set_option maxRecDepth 100000 in
set_option maxHeartbeats 3200000 in
theorem repeat_any (v : Int) (b n : Nat) (w : World) (h : Bk w b #[.int .i64 v]) (h1 : 1 ≤ n) (h8 : n ≤ 8) :
  Calls Tryz.prog 83 #[.slice (some ⟨b, 0, none⟩) 1 1, .int .i64 (n : Int)] w fun e z => ∃ g, e = .returned (.slice (some ⟨g, 0, none⟩) n n) ∧ w.heap.size ≤ g ∧ Rep z g n n v ∧ Below w.heap.size w z := by
 have HC := Hk.mk h
 clear h
 have hnn : ¬ ((n : Int) < 0) := by omega
 go_enter Tryz.func83, Tryz.ntmps83
 have hd : decide ((9223372036854775807 : Int) < (n : Int)) = false := by simp; omega
 have hmk := mk_int n h1 h8
 go_upto_region 7 with (first
  | (go_at_call 99; (with_reducible refine (mul_one n _ h1 h8).mono ?_); rintro e z ⟨rfl, hz⟩; rw [hz]; clear hz z))
 have HR : Hk (Rep (w.alloc (.cells (Array.replicate n (Value.int .i64 0)) 3)) w.heap.size n 0 v) := ⟨_, heap_alloc_new w _, by simp, fun j hj => absurd hj (by omega)⟩
 have HB : Hk (Below w.heap.size w (w.alloc (.cells (Array.replicate n (Value.int .i64 0)) 3))) := ⟨(Below.refl _ _).alloc (Nat.le_refl _) _⟩
 have HBk : Hk (Bk (w.alloc (.cells (Array.replicate n (Value.int .i64 0)) 3)) b #[.int .i64 v]) := ⟨HC.out.al _⟩
 have HGE : Hk (w.heap.size ≤ w.heap.size) := ⟨Nat.le_refl _⟩
 have hbg : b ≠ w.heap.size := by have := HC.out.lt; omega
 clear hmk HC hnn hd
 obtain ⟨B, hB⟩ : ∃ B, w.heap.size = B := ⟨_, rfl⟩
 obtain ⟨g, hg⟩ : ∃ g, w.heap.size = g := ⟨_, rfl⟩
 rw [hg] at HR HGE hbg
 generalize hW : w.alloc (.cells (Array.replicate n (Value.int .i64 0)) 3) = V at *
 rw [hg]
 have hcp : ∀ ty, (Builtin.copy_ #[23, 23] ty #[.slice (some ⟨g, 0, none⟩) n n, .slice (some ⟨b, 0, none⟩) 1 1]).run Tryz.prog V = .ok (goInt 1) (V.setCells g 0 (List.replicate 1 (.int .i64 v))) := fun ty =>
  z_run_copy V ty g 0 n n ⟨b, 0, none⟩ 1 1 1 (List.replicate 1 (.int .i64 v)) (by simp only [Nat.min_def]; split <;> omega) rfl
   (fun j u hj => by
    rw [Addr.add_lit, Nat.zero_add, HBk.out.c j]
    simpa using hj)
   (fun j hj => by obtain ⟨cur, hh, hs, _⟩ := HR.out; rw [cell_cur hh, Array.getElem?_eq_getElem (by simp at hj; omega)]; rfl)
   (fun j hj => by obtain ⟨cur, hh, hs, _⟩ := HR.out; exact froz_cur hh _) (fun u hu => by simp at hu; rw [hu]; rfl)
 go_upto_region 8 with (at_builtin; refine wpList_copy_runI _ rfl _ _ 23 23 rfl _ _ rfl rfl (hcp _) ?_)
 have HR1 : Hk (Rep (V.setCells g 0 (List.replicate 1 (.int .i64 v))) g n 1 v) := ⟨by have := HR.out.step (m := 1) (by omega); simpa using this⟩
 have HB1 : Hk (Below w.heap.size w (V.setCells g 0 (List.replicate 1 (.int .i64 v)))) := ⟨Lib.below_setCells g (by rw [hg]; exact Nat.le_refl _) _ _ HB.out⟩
 have HG := Hk.mk hg
 clear hcp HR HB HBk hbg hB hW hg
 go_wp2
 go_loopw [8] (fun i wr => ∃ k : Nat, i = .int .i64 k ∧ 1 ≤ k ∧ k ≤ n ∧ Hk (Rep wr g n k v) ∧ Hk (Below w.heap.size w wr)) (fun i _ => n - (intOf i).toNat)
 case atStart => exact ⟨1, rfl, Nat.le_refl _, h1, HR1, HB1⟩
 case round =>
  clear HR1 HB1
  obtain ⟨k, rfl, hk1, hk, HR, HB⟩ := hrel
  by_cases hlt : k < n
  ·obtain ⟨m, hm⟩ : ∃ m, Nat.min k (n - k) = m := ⟨_, rfl⟩
   have hmk : m ≤ k ∧ k + m ≤ n ∧ 1 ≤ m := by rw [← hm]; simp only [Nat.min_def]; split <;> omega
   have hcp2 : ∀ (W : World), W.heap = wr.heap → ∀ ty, (Builtin.copy_ #[23, 23] ty #[.slice (some ⟨g, k, none⟩) (n - k) (n - k), .slice (some ⟨g, 0, none⟩) k n]).run Tryz.prog W = .ok (goInt ((m : Nat) : Int)) (W.setCells g k (List.replicate m (.int .i64 v))) := fun W hW ty =>
    z_run_copy W ty g k (n - k) (n - k) ⟨g, 0, none⟩ k n m (List.replicate m (.int .i64 v)) hm (by simp)
     (fun j u hj => by
      rw [Addr.add_lit, Nat.zero_add]
      obtain ⟨cur, hh, hs, hc⟩ := HR.out
      rw [cell_cur (by rw [hW]; exact hh)]
      rw [List.getElem?_replicate] at hj
      split at hj
      ·rw [hc j (by omega)]; exact hj
      ·cases hj)
     (fun j hj => by obtain ⟨cur, hh, hs, _⟩ := HR.out; rw [cell_cur (by rw [hW]; exact hh), Array.getElem?_eq_getElem (by simp at hj; omega)]; rfl)
     (fun j hj => by obtain ⟨cur, hh, hs, _⟩ := HR.out; exact froz_cur (by rw [hW]; exact hh) _) (fun u hu => by rw [List.eq_of_mem_replicate hu]; rfl)
   have HST : Hk (∀ W : World, W.heap = wr.heap → W.os = wr.os → W.tape = wr.tape → W.output = wr.output → Rep (W.setCells g k (List.replicate m (.int .i64 v))) g n (k + m) v) := ⟨fun W hW _ _ _ => by
    have h0 : Rep W g n k v := by obtain ⟨cur, hh, r⟩ := HR.out; exact ⟨cur, by rw [hW]; exact hh, r⟩
    exact h0.step hmk.2.1⟩
   have k0 : (0 : Int) ≤ (k : Int) := by omega
   have k1 : (k : Int) ≤ (n : Int) := by omega
   have k2 : ¬ (n = k) := by omega
   have hlt' : (k : Int) < (n : Int) := by omega
   have gk : IntKind.i64.wrap ((k : Int) + (m : Int)) = ((k + m : Nat) : Int) := by push_cast; exact wr27 (by omega) (by omega)
   have mixed : Tryz.prog.follows Departure.mixedOrders = true := by kernel_rfl
   have hcpd := hcp2 wr.drew rfl
   go_upto_region 9 with fail
   go_region_law_o (refine step_copy_runI rfl _ _ 23 23 rfl _ _ (by simp [Act.eval, Act.put]) (by simp [Act.eval, Act.put]) (hcpd _) ?_)
   have HR2 : Hk (Rep (wr.drew.setCells g k (List.replicate m (.int .i64 v))) g n (k + m) v) := ⟨HST.out wr.drew rfl rfl rfl rfl⟩
   have HB2 : Hk (Below w.heap.size w (wr.drew.setCells g k (List.replicate m (.int .i64 v)))) := ⟨Lib.below_setCells g (by rw [HG.out]; exact Nat.le_refl _) _ _ HB.out.drew⟩
   have HMK := Hk.mk hmk
   (try simp only [Act.put, jjA, jjB, jjC, jjD, jjE, jjF])
   go_wp2
   exact ⟨⟨k + m, by go_num, by omega, hmk.2.1, HR2, HB2⟩, by simp [intOf]; omega⟩
  ·obtain rfl : k = n := by omega
   go_wp2
   go_ret
   exact ⟨g, rfl, by rw [HG.out]; exact Nat.le_refl _, HR.out, HB.out⟩
end Go.Proofs.YtdpblimhfmfbnaaGreat
namespace Go.Proofs.YtdpblimhfmfbnaaGreat
open Go.ChangeShapes Go.WideShapes Go.ChangeAt Go.RowKit Go.Deep
theorem Rep.own {w : World} {g n base : Nat} {v : Int} (h : Rep w g n n v) (hg : base ≤ g) (h8 : n ≤ 8) : OwnI w base (.slice (some ⟨g, 0, none⟩) n n) n (List.replicate n v) := by
 obtain ⟨cur, hh, hs, hc⟩ := h
 refine ⟨by simp, by simp, Or.inr ⟨g, n, cur, rfl, hg, hh, Nat.le_refl _, Nat.le_trans h8 (by decide), by omega, ?_⟩⟩
 apply List.ext_getElem?
 intro j
 by_cases hj : j < n
 ·rw [List.getElem?_take_of_lt (by omega), Array.getElem?_toList, hc j hj]
  simp [hj]
 ·rw [List.getElem?_eq_none (by simp; omega), List.getElem?_eq_none (by simp; omega)]
theorem isplayer_any (r : Bool) (n : Int) (w : World) (E : Hk ((1 ≤ n ∧ n ≤ 8) ↔ r = true)) :
  Calls Tryz.prog 82 #[.int .i64 n] w fun e z => e = .returned (.bool r) ∧ z = w := by
 go_enter Tryz.func82, Tryz.ntmps82
 go_wp2
 all_goals go_ret
 all_goals first
  | exact ⟨no_as E.out (by omega), rfl⟩
  | exact ⟨dec_as E.out (by omega), rfl⟩
def begP (i n d : Int) : Pm := ⟨i, n, d, 0, d - 1, [], [], List.replicate n.toNat (d - 1), List.replicate n.toNat (d - 1), [], false⟩
def MayP (i n d : Int) : Prop := 1 ≤ n ∧ n ≤ 8 ∧ 1 ≤ i ∧ i ≤ n ∧ 1 ≤ d ∧ d ≤ 8
set_option maxRecDepth 100000 in
set_option maxHeartbeats 3200000 in
theorem pnew_yes (i n d : Int) (w : World) (h : MayP i n d) :
  Calls Tryz.prog 53 #[.int .i64 i, .int .i64 n, .int .i64 d] w fun e z => ∃ q : Pv, e = .returned (.tuple #[.agg (jjP q), .int .i64 0]) ∧ PvO z w.heap.size q ∧ q.ab = begP i n d ∧ PvS q ∧ Below w.heap.size w z := by
 have h1 := h.1
 have h2 := h.2.1
 have h3 := h.2.2.1
 have h4 := h.2.2.2.1
 have h5 := h.2.2.2.2.1
 have h6 := h.2.2.2.2.2
 clear h
 obtain ⟨k, rfl⟩ : ∃ k : Nat, n = k := ⟨n.toNat, by omega⟩
 have k1 : 1 ≤ k := by omega
 have k8 : k ≤ 8 := by omega
 have HB : Hk (Below w.heap.size w (w.alloc (.cells jjZ 26))) := ⟨(Below.refl _ _).alloc (Nat.le_refl _) _⟩
 have HX : Hk (Bk (w.alloc (.cells jjZ 26)) w.heap.size jjZ) := ⟨Bk.new w jjZ 26⟩
 have ET : Hk ((1 ≤ (k : Int) ∧ (k : Int) ≤ 8) ↔ true = true) := ⟨by simp; omega⟩
 have f2 : decide (i < 1) = false := by rw [decide_eq_false_iff_not]; omega
 have f3 : decide ((k : Int) < i) = false := by rw [decide_eq_false_iff_not]; omega
 have f4 : decide (d < 1) = false := by rw [decide_eq_false_iff_not]; omega
 have f5 : decide (8 < d) = false := by rw [decide_eq_false_iff_not]; omega
 have gd : IntKind.i64.wrap (d - 1) = d - 1 := wr27 (by omega) (by omega)
 have HL : Hk (1 ≤ k ∧ k ≤ 8) := ⟨k1, k8⟩
 go_enter Tryz.func53, Tryz.ntmps53
 go_upto_region 4 with (go_at_call 82; (with_reducible refine (isplayer_any true _ _ ET).mono ?_); rintro e z ⟨rfl, hz⟩; rw [hz]; clear hz z)
 have HB2 : Hk (Below w.heap.size w ((w.alloc (.cells jjZ 26)).alloc (.cells #[.int .i64 (d - 1)] 3))) := ⟨HB.out.alloc (by simp) _⟩
 have HX2 : Hk (Bk ((w.alloc (.cells jjZ 26)).alloc (.cells #[.int .i64 (d - 1)] 3)) w.heap.size jjZ) := ⟨HX.out.al _⟩
 have HL2 : Hk (Bk ((w.alloc (.cells jjZ 26)).alloc (.cells #[.int .i64 (d - 1)] 3)) (w.heap.size + 1) #[.int .i64 (d - 1)]) := ⟨by have := Bk.new (w.alloc (.cells jjZ 26)) #[.int .i64 (d - 1)] 3; simpa using this⟩
 have HSV : Hk (w.heap.size + 2 ≤ ((w.alloc (.cells jjZ 26)).alloc (.cells #[.int .i64 (d - 1)] 3)).heap.size) := ⟨by simp⟩
 clear HB HX ET f2 f3 f4 f5 h1 h2 h3 h4 h5 h6 k1 k8
 generalize ((w.alloc (.cells jjZ 26)).alloc (.cells #[.int .i64 (d - 1)] 3)) = V at *
 go_wp2_with (first | (go_at_call 83; (with_reducible refine (repeat_any (d - 1) (w.heap.size + 1) k _ HL3.out HL.out.1 HL.out.2).mono ?_); rintro e Z ⟨g2, rfl, hg2, hr2, hb2⟩; have HB4 := Hk.mk (HB3.out.trans (hb2.mono HB3.out.size)); have HX4 := Hk.mk (HX3.out.below hb2); have HO1 := Hk.mk (OwnI.below HO0.out hb2); have HO2 := Hk.mk (hr2.own (Nat.le_trans HS3.out hg2) HL.out.2); clear hr2 hg2 HB3 HX3 HL3 HS3 hb2 HO0; have z0 := HX4.out.c 0; have q0 := HX4.out.f 0; have z1 := HX4.out.c 1; have q1 := HX4.out.f 1; have z2 := HX4.out.c 2; have q2 := HX4.out.f 2; have z3 := HX4.out.c 3; have q3 := HX4.out.f 3; have z4 := HX4.out.c 4; have q4 := HX4.out.f 4; have z5 := HX4.out.c 5; have q5 := HX4.out.f 5; have z6 := HX4.out.c 6; have q6 := HX4.out.f 6; have z7 := HX4.out.c 7; have q7 := HX4.out.f 7; have z8 := HX4.out.c 8; have q8 := HX4.out.f 8; have z9 := HX4.out.c 9; have q9 := HX4.out.f 9; have z10 := HX4.out.c 10; have q10 := HX4.out.f 10; have hzl := HX4.out.lt; simp at z0 z1 z2 z3 z4 z5 z6 z7 z8 z9 z10) | (go_at_call 83; (with_reducible refine (repeat_any (d - 1) (w.heap.size + 1) k _ HL2.out HL.out.1 HL.out.2).mono ?_); rintro e y ⟨g1, rfl, hg1, hr1, hb1⟩; have HB3 := Hk.mk (HB2.out.trans (hb1.mono HB2.out.size)); have HX3 := Hk.mk (HX2.out.below hb1); have HL3 := Hk.mk (HL2.out.below hb1); have HS3 : Hk (w.heap.size + 2 ≤ y.heap.size) := ⟨Nat.le_trans HSV.out hb1.size⟩; have HO0 := Hk.mk (hr1.own (Nat.le_trans HSV.out hg1) HL.out.2); clear hr1 hg1 HB2 HX2 HL2 hb1 HSV))
 refine bodyPost_ret (v := .tuple #[.agg #[.int .i64 i, .int .i64 k, .int .i64 d, .int .i64 0, .int .i64 (d - 1), .slice none 0 0, .slice none 0 0, .slice (some ⟨g1, 0, none⟩) k k, .slice (some ⟨g2, 0, none⟩) k k, .slice none 0 0, .bool false], .int .i64 0]) (by simp [results, Tryz.results53, go_sem, z0, z1, z2, z3, z4, z5, z6, z7, z8, z9, z10]) rfl ⟨⟨i, k, d, 0, d - 1, none, 0, 0, [], none, 0, 0, [], some ⟨g1, 0, none⟩, k, k, List.replicate k (d - 1), some ⟨g2, 0, none⟩, k, k, List.replicate k (d - 1), none, 0, 0, [], false⟩, rfl, ⟨OwN.nil _ _, OwN.nil _ _, ?_, ?_, Ow.nil _ _⟩, rfl, ⟨SmI.nil, SmI.nil, ?_, ?_, Nat.zero_le _⟩, ?_⟩
 ·exact (Fr.owni HO1.out (by refine Fr.setCell (p := ⟨w.heap.size, 10, none⟩) ?_ (fun _ => by show w.heap.size < (w.heap.size + 2); omega) _; refine Fr.setCell (p := ⟨w.heap.size, 9, none⟩) ?_ (fun _ => by show w.heap.size < (w.heap.size + 2); omega) _; refine Fr.setCell (p := ⟨w.heap.size, 8, none⟩) ?_ (fun _ => by show w.heap.size < (w.heap.size + 2); omega) _; refine Fr.setCell (p := ⟨w.heap.size, 7, none⟩) ?_ (fun _ => by show w.heap.size < (w.heap.size + 2); omega) _; refine Fr.setCell (p := ⟨w.heap.size, 6, none⟩) ?_ (fun _ => by show w.heap.size < (w.heap.size + 2); omega) _; refine Fr.setCell (p := ⟨w.heap.size, 5, none⟩) ?_ (fun _ => by show w.heap.size < (w.heap.size + 2); omega) _; refine Fr.setCell (p := ⟨w.heap.size, 4, none⟩) ?_ (fun _ => by show w.heap.size < (w.heap.size + 2); omega) _; refine Fr.setCell (p := ⟨w.heap.size, 3, none⟩) ?_ (fun _ => by show w.heap.size < (w.heap.size + 2); omega) _; refine Fr.setCell (p := ⟨w.heap.size, 2, none⟩) ?_ (fun _ => by show w.heap.size < (w.heap.size + 2); omega) _; refine Fr.setCell (p := ⟨w.heap.size, 1, none⟩) ?_ (fun _ => by show w.heap.size < (w.heap.size + 2); omega) _; refine Fr.setCell (p := ⟨w.heap.size, 0, none⟩) ?_ (fun _ => by show w.heap.size < (w.heap.size + 2); omega) _; exact Fr.refl _ _ : Fr (fun j => j < (w.heap.size + 2)) Z _) (fun j hj e => by have := (HO1.out.lt j hj).1; omega)).weak (by omega)
 ·exact (Fr.owni HO2.out (by refine Fr.setCell (p := ⟨w.heap.size, 10, none⟩) ?_ (fun _ => by show w.heap.size < (w.heap.size + 2); omega) _; refine Fr.setCell (p := ⟨w.heap.size, 9, none⟩) ?_ (fun _ => by show w.heap.size < (w.heap.size + 2); omega) _; refine Fr.setCell (p := ⟨w.heap.size, 8, none⟩) ?_ (fun _ => by show w.heap.size < (w.heap.size + 2); omega) _; refine Fr.setCell (p := ⟨w.heap.size, 7, none⟩) ?_ (fun _ => by show w.heap.size < (w.heap.size + 2); omega) _; refine Fr.setCell (p := ⟨w.heap.size, 6, none⟩) ?_ (fun _ => by show w.heap.size < (w.heap.size + 2); omega) _; refine Fr.setCell (p := ⟨w.heap.size, 5, none⟩) ?_ (fun _ => by show w.heap.size < (w.heap.size + 2); omega) _; refine Fr.setCell (p := ⟨w.heap.size, 4, none⟩) ?_ (fun _ => by show w.heap.size < (w.heap.size + 2); omega) _; refine Fr.setCell (p := ⟨w.heap.size, 3, none⟩) ?_ (fun _ => by show w.heap.size < (w.heap.size + 2); omega) _; refine Fr.setCell (p := ⟨w.heap.size, 2, none⟩) ?_ (fun _ => by show w.heap.size < (w.heap.size + 2); omega) _; refine Fr.setCell (p := ⟨w.heap.size, 1, none⟩) ?_ (fun _ => by show w.heap.size < (w.heap.size + 2); omega) _; refine Fr.setCell (p := ⟨w.heap.size, 0, none⟩) ?_ (fun _ => by show w.heap.size < (w.heap.size + 2); omega) _; exact Fr.refl _ _ : Fr (fun j => j < (w.heap.size + 2)) Z _) (fun j hj e => by have := (HO2.out.lt j hj).1; omega)).weak (by omega)
 ·show k ≤ 1048576
  have := HL.out
  omega
 ·show k ≤ 1048576
  have := HL.out
  omega
 ·refine Below.setCell ?_ (p := ⟨w.heap.size, 10, none⟩) (by show w.heap.size ≤ w.heap.size; omega) _; refine Below.setCell ?_ (p := ⟨w.heap.size, 9, none⟩) (by show w.heap.size ≤ w.heap.size; omega) _; refine Below.setCell ?_ (p := ⟨w.heap.size, 8, none⟩) (by show w.heap.size ≤ w.heap.size; omega) _; refine Below.setCell ?_ (p := ⟨w.heap.size, 7, none⟩) (by show w.heap.size ≤ w.heap.size; omega) _; refine Below.setCell ?_ (p := ⟨w.heap.size, 6, none⟩) (by show w.heap.size ≤ w.heap.size; omega) _; refine Below.setCell ?_ (p := ⟨w.heap.size, 5, none⟩) (by show w.heap.size ≤ w.heap.size; omega) _; refine Below.setCell ?_ (p := ⟨w.heap.size, 4, none⟩) (by show w.heap.size ≤ w.heap.size; omega) _; refine Below.setCell ?_ (p := ⟨w.heap.size, 3, none⟩) (by show w.heap.size ≤ w.heap.size; omega) _; refine Below.setCell ?_ (p := ⟨w.heap.size, 2, none⟩) (by show w.heap.size ≤ w.heap.size; omega) _; refine Below.setCell ?_ (p := ⟨w.heap.size, 1, none⟩) (by show w.heap.size ≤ w.heap.size; omega) _; refine Below.setCell ?_ (p := ⟨w.heap.size, 0, none⟩) (by show w.heap.size ≤ w.heap.size; omega) _; exact HB4.out
end Go.Proofs.YtdpblimhfmfbnaaGreat
namespace Go.Proofs.YtdpblimhfmfbnaaGreat
open List renaming getElem_toArray → jjA, getElem_cons_succ → jjB, getElem_cons_zero → jjC, setIfInBounds_toArray → jjD, set_cons_zero → jjE, set_cons_succ → jjF
open Go.ChangeShapes Go.WideShapes Go.ChangeAt Go.RowKit Go.Deep
set_option maxRecDepth 100000 in
set_option maxHeartbeats 3200000 in
theorem ready_as (r : Bool) (p : Pv) (w : World) (h : PvD w w.heap.size p) (hs : PvS p) (h0 : 0 < p.hn) (E : Hk ((p.t < 1099511627776 ∧ p.t ≤ minL p.hl) ↔ r = true)) :
  Calls Tryz.prog 60 #[.agg (jjP p)] w fun e w' => e = .returned (.bool r) ∧ Below w.heap.size w w' := by
 have HN : Hk (0 < p.hn ∧ p.hn ≤ 1048576) := ⟨h0, hs.h⟩
 obtain ⟨lo, hlo⟩ : ∃ lo, minL p.hl = lo := ⟨_, rfl⟩
 rw [hlo] at E
 have HLOW := Hk.mk hlo
 have HWB : Hk (Below w.heap.size w (w.alloc (.cells (jjP p) 26))) := ⟨(Below.refl _ _).alloc (Nat.le_refl _) _⟩
 have hNW : (w.heap.size + 1) ≤ (w.alloc (.cells (jjP p) 26)).heap.size := by simp
 have HB : Hk (Below (w.heap.size + 1) (w.alloc (.cells (jjP p) 26)) (w.alloc (.cells (jjP p) 26))) := ⟨Below.refl _ _⟩
 have HTR : Hk (∀ X, Below (w.heap.size + 1) (w.alloc (.cells (jjP p) 26)) X → Below w.heap.size w X) := ⟨fun X hX => HWB.out.trans (hX.mono (by omega))⟩
 have HPB : Hk (Bk (w.alloc (.cells (jjP p) 26)) w.heap.size (jjP p)) := ⟨Bk.new w (jjP p) 26⟩
 have HAA : Hk (∀ X, Below (w.alloc (.cells (jjP p) 26)).heap.size (w.alloc (.cells (jjP p) 26)) X → Nq X X.heap.size p.ha p.hn p.hl) := ⟨fun X hX => (h.later (HWB.out.trans (hX.mono HWB.out.size))).h⟩
 clear h hs h0 hlo
 go_enter Tryz.func60, Tryz.ntmps60
 go_upto_region 1 with fail
 generalize (w.alloc (.cells (jjP p) 26)) = V at *
 have HV : Hk (Below V.heap.size V V) := ⟨Below.refl _ _⟩
 have c3 : V.cell? ⟨w.heap.size, 3, none⟩ = some (.int .i64 p.t) := HPB.out.c 3
 have c7 : V.cell? ⟨w.heap.size, 7, none⟩ = some (.slice p.ha p.hn p.hc) := HPB.out.c 7
 have hl := HPB.out.lt
 clear HB hNW HTR HPB
 by_cases h1 : p.t < 1099511627776
 ·have f1 : decide (p.t < 1099511627776) = true := by rw [decide_eq_true_iff]; exact h1
  have HT := Hk.mk h1
  clear h1
  refine wp_region_held_drew (S := (fun X => (∀ b o, b < V.heap.size → X.cell? ⟨b, o, none⟩ = V.cell? ⟨b, o, none⟩) ∧ Below V.heap.size V X)) (by kernel_rfl) ?_ (fun hHeld => ?_)
  ·exact kw_S (kw_drew HV.out)
  have HI : Ix [0, 1, 2, 3, 4, 5, 7, 8] := trivial
  iterate 8 (refine tkA HI (v := ?_) rfl (by kernel_rfl) (fun _ _ _ h => h) (.inl ⟨by rfl, fun wX hSw => ?_⟩) hHeld (fun HJ => ?_); rotate_left; (focus ((try dsimp only at hSw); go_simp; try with_reducible rfl)); clear HI; have HI := HJ; clear HJ; try simp only [Act.put, jjA, jjB, jjC, jjD, jjE, jjF])
  clear HI
  refine wpAnyH_ready (rs := [6]) (by kernel_rfl) (by simp) ?_
  refine AllReadyH.cons rfl (fun K hK => ?_) (AllReadyH.nil)
  go_simp
  ((go_at_call 57; (with_reducible refine (min_any p.ha p.hn p.hc p.hl _ (by first | exact HAA.out _ HV.out | exact HAA.out _ HV.out.drew) HN.out.1 HN.out.2).mono ?_); rintro e z ⟨rfl, hz⟩; rw [HLOW.out]; have hb := below_m hz; clear hz; have hB2 : Hk (Below V.heap.size V z) := ⟨by first | exact kw_step HV.out (Nat.le_refl _) hb | exact kw_step HV.out.drew (Nat.le_refl _) hb⟩; clear hb; replace HV := hB2; clear hB2))
  refine hK.out _ _ ?_ (fun hHeld => ?_)
  ·exact kw_S HV.out
  clear hK K
  (try simp only [Act.put, jjA, jjB, jjC, jjD, jjE, jjF])
  have HI : Ix [9, 10, 11] := trivial
  iterate 3 (refine tkA HI (v := ?_) rfl (by kernel_rfl) (fun _ _ _ h => h) (.inl ⟨by rfl, fun wX hSw => ?_⟩) hHeld (fun HJ => ?_); rotate_left; (focus ((try dsimp only at hSw); go_simp; try with_reducible rfl)); clear HI; have HI := HJ; clear HJ; try simp only [Act.put, jjA, jjB, jjC, jjD, jjE, jjF])
  clear HI
  refine wpAnyH_done (by kernel_rfl) ?_ _
  go_wp2
  go_ret
  exact ⟨dec_as E.out ⟨fun g => ⟨HT.out, g⟩, fun g => g.2⟩, HWB.out.trans (HV.out.mono HWB.out.size)⟩
 ·have f1 : decide (p.t < 1099511627776) = false := by rw [decide_eq_false_iff_not]; exact h1
  have HT := Hk.mk h1
  clear h1
  refine wp_region_held_drew (S := (fun X => (∀ b o, b < V.heap.size → X.cell? ⟨b, o, none⟩ = V.cell? ⟨b, o, none⟩) ∧ Below V.heap.size V X)) (by kernel_rfl) ?_ (fun hHeld => ?_)
  ·exact kw_S (kw_drew HV.out)
  have HI : Ix [0, 1, 2, 3] := trivial
  iterate 4 (refine tkA HI (v := ?_) rfl (by kernel_rfl) (fun _ _ _ h => h) (.inl ⟨by rfl, fun wX hSw => ?_⟩) hHeld (fun HJ => ?_); rotate_left; (focus ((try dsimp only at hSw); go_simp; try with_reducible rfl)); clear HI; have HI := HJ; clear HJ; try simp only [Act.put, jjA, jjB, jjC, jjD, jjE, jjF])
  clear HI
  have HI : Ix [4, 5, 6, 7, 8, 9] := trivial
  iterate 6 (refine tkA HI (v := undef) rfl (by kernel_rfl) (fun _ _ _ h => h) (.inr ⟨by rfl, rfl⟩) hHeld (fun HJ => ?_); clear HI; have HI := HJ; clear HJ; try simp only [Act.put, jjA, jjB, jjC, jjD, jjE, jjF])
  clear HI
  have HI : Ix [10, 11] := trivial
  iterate 2 (refine tkA HI (v := ?_) rfl (by kernel_rfl) (fun _ _ _ h => h) (.inl ⟨by rfl, fun wX hSw => ?_⟩) hHeld (fun HJ => ?_); rotate_left; (focus ((try dsimp only at hSw); go_simp; try with_reducible rfl)); clear HI; have HI := HJ; clear HJ; try simp only [Act.put, jjA, jjB, jjC, jjD, jjE, jjF])
  clear HI
  refine wpAnyH_done (by kernel_rfl) ?_ _
  go_wp2
  go_ret
  exact ⟨no_as E.out (fun g => by have := HT.out; have := g.1; omega), HWB.out.trans (HV.out.drew.mono HWB.out.size)⟩
end Go.Proofs.YtdpblimhfmfbnaaGreat
namespace Go.Proofs.YtdpblimhfmfbnaaGreat
open Go.ChangeShapes Go.WideShapes Go.ChangeAt Go.RowKit Go.Deep
def RdR (w : World) (p : Pv) (e : Ending) (z : World) : Prop := ∃ a2 c2 M, e = .returned (.tuple #[.slice a2 M.length c2, .bool true, .int .i64 0]) ∧ OwC z w.heap.size (.slice a2 M.length c2) M.length M ∧ abC M = flR (mergeN ((abI p.ll).filter (fun x => x.t == p.t))) ∧ Below w.heap.size w z
set_option maxRecDepth 100000 in
set_option maxHeartbeats 3200000 in
theorem pready_yes (p : Pv) (w : World) (h : PvD w w.heap.size p) (hs : PvS p) (hk : OkP p.ab) (E : p.t < 1099511627776 ∧ p.t ≤ minL p.hl) :
  Calls Tryz.prog 47 #[.agg (jjP p)] w (RdR w p) := by
 have HH := Hk.mk h
 have HS := Hk.mk hs
 have HE : Hk (Hk (OkP p.ab ↔ true = true)) := ⟨⟨fun g => rfl, fun g => hk⟩⟩
 have HN0 : Hk (0 < p.hn) := ⟨by have h1 := hk.k.h1; have h2 := hk.c.n1; have h3 := h.h.len; have h4 : p.ab.h.length = p.hl.length := rfl; omega⟩
 have HO : Hk (Hk (ordN none (abI p.ll) = true)) := ⟨⟨hk.w.o⟩⟩
 have HY := Hk.mk E
 have HWB : Hk (Below w.heap.size w (w.alloc (.cells (jjP p) 26))) := ⟨(Below.refl _ _).alloc (Nat.le_refl _) _⟩
 have hNW : (w.heap.size + 1) ≤ (w.alloc (.cells (jjP p) 26)).heap.size := by simp
 have HB : Hk (Below (w.heap.size + 1) (w.alloc (.cells (jjP p) 26)) (w.alloc (.cells (jjP p) 26))) := ⟨Below.refl _ _⟩
 have HTR : Hk (∀ X, Below (w.heap.size + 1) (w.alloc (.cells (jjP p) 26)) X → Below w.heap.size w X) := ⟨fun X hX => HWB.out.trans (hX.mono (by omega))⟩
 have HPB : Hk (Bk (w.alloc (.cells (jjP p) 26)) w.heap.size (jjP p)) := ⟨Bk.new w (jjP p) 26⟩
 have HVF : Hk (∀ X, Below (w.heap.size + 1) (w.alloc (.cells (jjP p) 26)) X → X.cell? ⟨w.heap.size, 0, none⟩ = some (.int .i64 p.i) ∧ X.cell? ⟨w.heap.size, 1, none⟩ = some (.int .i64 p.n) ∧ X.cell? ⟨w.heap.size, 2, none⟩ = some (.int .i64 p.d) ∧ X.cell? ⟨w.heap.size, 3, none⟩ = some (.int .i64 p.t) ∧ X.cell? ⟨w.heap.size, 4, none⟩ = some (.int .i64 p.s) ∧ X.cell? ⟨w.heap.size, 5, none⟩ = some (.slice p.ma p.mn p.mc) ∧ X.cell? ⟨w.heap.size, 6, none⟩ = some (.slice p.la p.ln p.lc) ∧ X.cell? ⟨w.heap.size, 7, none⟩ = some (.slice p.ha p.hn p.hc) ∧ X.cell? ⟨w.heap.size, 8, none⟩ = some (.slice p.aa p.an p.ac) ∧ X.cell? ⟨w.heap.size, 9, none⟩ = some (.slice p.xa p.xn p.xc) ∧ X.cell? ⟨w.heap.size, 10, none⟩ = some (.bool p.b) ∧ w.heap.size < X.heap.size) := ⟨fun X hX => by
  have hl : w.heap.size < w.heap.size + 1 := Nat.lt_succ_self _
  have c := fun i => (hX.cell (p := ⟨w.heap.size, i, none⟩) hl).trans (HPB.out.c i)
  exact ⟨c 0, c 1, c 2, c 3, c 4, c 5, c 6, c 7, c 8, c 9, c 10, World.block_lt_of_cell? _ _ (c 0)⟩⟩
 clear h hs hk E HPB
 obtain ⟨y0, y1, y2, y3, y4, y5, y6, y7, y8, y9, y10, yl⟩ := HVF.out _ HB.out
 go_enter Tryz.func47, Tryz.ntmps47
 go_wp2_with (first | (go_at_call 14; (with_reducible refine (pcheck_as true 0 p _ ((HH.out.below (HTR.out _ HB.out) (Nat.le_refl _)).mono (HTR.out _ HB.out).size) HS.out HE.out ⟨rfl⟩).mono ?_); rintro e z ⟨rfl, hb⟩; have HB2 := Hk.mk (kw_step HB.out hNW hb); clear y0 y1 y2 y3 y4 y5 y6 y7 y8 y9 y10 yl; clear hb; replace HB := HB2; clear HB2; obtain ⟨y0, y1, y2, y3, y4, y5, y6, y7, y8, y9, y10, yl⟩ := HVF.out _ HB.out) | (go_at_call 60; (with_reducible refine (ready_as true p _ ((HH.out.below (HTR.out _ HB.out) (Nat.le_refl _)).mono (HTR.out _ HB.out).size) HS.out HN0.out ⟨⟨fun _ => rfl, fun _ => HY.out⟩⟩).mono ?_); rintro e z ⟨rfl, hb⟩; have HB2 := Hk.mk (kw_step HB.out hNW hb); clear y0 y1 y2 y3 y4 y5 y6 y7 y8 y9 y10 yl; clear hb; replace HB := HB2; clear HB2; obtain ⟨y0, y1, y2, y3, y4, y5, y6, y7, y8, y9, y10, yl⟩ := HVF.out _ HB.out) | (go_at_call 61; go_loud (((with_reducible refine (take_yes p.t p.la p.ln p.lc p.ll _ ((HH.out.below (HTR.out _ HB.out) (Nat.le_refl _)).mono (HTR.out _ HB.out).size).l HS.out.l HO.out).mono ?_); rintro e z ⟨s1, n1, e1, s2, n2, e2, M1, M2, rfl, htk, ha1, ha2, hb⟩; have HTK := Hk.mk (htk.a.weak (base' := w.heap.size) (HTR.out _ HB.out).size); have HA1 := Hk.mk ha1; have HD1 := Hk.mk (smI_of htk.a.d ((HH.out.below (HTR.out _ HB.out) (Nat.le_refl _)).mono (HTR.out _ HB.out).size).l HS.out.l (fun x hx => by rw [ha1] at hx; exact (List.mem_filter.1 hx).1) (by have h1 := congrArg List.length ha1; have h2 := List.length_filter_le (fun x : In => x.t == p.t) (abI p.ll); rw [abI_len] at h1; rw [abI_len] at h2; omega)); clear htk ha1 ha2; have HB2 := Hk.mk (kw_step HB.out hNW hb); clear y0 y1 y2 y3 y4 y5 y6 y7 y8 y9 y10 yl; clear hb; replace HB := HB2; clear HB2; obtain ⟨y0, y1, y2, y3, y4, y5, y6, y7, y8, y9, y10, yl⟩ := HVF.out _ HB.out))) | (go_at_call 77; (with_reducible refine (merge27_u _ s1 n1 e1 M1 _ HTK.out.d HD1.out ⟨rfl⟩).mono ?_); rintro e z ⟨a2, c2, M, rfl, hoc, hab, hb⟩; have HOC := Hk.mk (hoc.weak (base' := w.heap.size) (HTR.out _ HB.out).size); have HAB := Hk.mk hab; clear hoc hab; have HB2 := Hk.mk (kw_step HB.out hNW hb); clear y0 y1 y2 y3 y4 y5 y6 y7 y8 y9 y10 yl; clear hb; replace HB := HB2; clear HB2; obtain ⟨y0, y1, y2, y3, y4, y5, y6, y7, y8, y9, y10, yl⟩ := HVF.out _ HB.out))
 go_ret3
 exact ⟨a2, c2, M, rfl, HOC.out, by rw [HAB.out, HA1.out], HTR.out _ HB.out⟩
end Go.Proofs.YtdpblimhfmfbnaaGreat
