import Derived.Deep.QuietTactic
import Derived.BigQuiet
import Derived.Deep.RegionWith
import Derived.Deep.RegionHeld3
import Derived.Deep.DeepCutAuto
import Derived.Deep.DeepFit
import Derived.Outline
import Derived.Test.YtdpblimhfmfbnaaGreatZual
import Derived.Test.YtdpblimhfmfbnaaGreatZuao
set_option linter.unusedVariables false
set_option linter.unusedSimpArgs false
namespace Go.Proofs.YtdpblimhfmfbnaaGreat
open Go.ChangeShapes Go.WideShapes Go.ChangeAt Go.RowKit Go.Deep
def StepD (p : Pv) (r : Int) : Prop := ∀ (q : Av) (X : World), PvD X X.heap.size p → PvS p → AvD X X.heap.size q → SmC q.ll → SmC q.e.q.l → Calls Tryz.prog 15 #[.agg #[.int .i64 p.i, .int .i64 p.n, .int .i64 p.d, .int .i64 p.t, .int .i64 p.s, .slice p.ma p.mn p.mc, .slice p.la p.ln p.lc, .slice p.ha p.hn p.hc, .slice p.aa p.an p.ac, .slice p.xa p.xn p.xc, .bool p.b], .agg #[.int .i64 r, .slice q.la q.ln q.lc, .int .i64 q.e.f, .int .i64 q.e.t, .int .i64 q.e.q.t, .int .i64 q.e.q.p, .slice q.e.q.a q.e.q.n q.e.q.c, .int .i64 q.e.d, .int .u64 q.e.h, .int .i64 q.e.v, .bool q.b, .int .u64 q.h]] X fun e z => (∃ u : Pv, e = .returned (.tuple #[.agg #[.int .i64 u.i, .int .i64 u.n, .int .i64 u.d, .int .i64 u.t, .int .i64 u.s, .slice u.ma u.mn u.mc, .slice u.la u.ln u.lc, .slice u.ha u.hn u.hc, .slice u.aa u.an u.ac, .slice u.xa u.xn u.xc, .bool u.b], .bool true])) ∧ Below X.heap.size X z
theorem AsD.act {w : World} {B : Nat} {a : Option Addr} {n : Nat} {l : List Av} (h : AsD w B a n l) {k : Nat} (hk : k < n) {q : Av} (hq : l.getD k default = q) : AvD w B q ∧ q ∈ l ∧ ∃ b off, a = some ⟨b, off, none⟩ ∧ b < B ∧ ∀ j, j < 12 → w.cell? ⟨b, off + k * 12 + j, none⟩ = q.cs[j]? := by
 obtain ⟨b, off, e, hlt, hc⟩ := h.q.rd (by omega)
 have hk' : k < l.length := by rw [h.q.len]; exact hk
 have hg : l.getD k default = l[k] := by simp [List.getD, hk']
 rw [hg] at hq
 subst hq
 exact ⟨h.u _ (List.getElem_mem hk'), List.getElem_mem hk', b, off, e, hlt, fun j hj => hc k hk' j hj⟩
set_option maxRecDepth 100000 in
set_option maxHeartbeats 3200000 in
theorem only28_any (r : Int) (p : Pv) (la : Option Addr) (ln lc : Nat) (l : List Av) (w : World) (h : PvD w w.heap.size p) (hp : BdP p) (hl : ln ≤ 17592186044416) (ha : AsD w w.heap.size la ln l) (hst : Hk (∀ (q : Av) (X : World), PvD X X.heap.size p → PvS p → AvD X X.heap.size q → SmC q.ll → SmC q.e.q.l → Calls Tryz.prog 15 #[.agg #[.int .i64 p.i, .int .i64 p.n, .int .i64 p.d, .int .i64 p.t, .int .i64 p.s, .slice p.ma p.mn p.mc, .slice p.la p.ln p.lc, .slice p.ha p.hn p.hc, .slice p.aa p.an p.ac, .slice p.xa p.xn p.xc, .bool p.b], .agg #[.int .i64 r, .slice q.la q.ln q.lc, .int .i64 q.e.f, .int .i64 q.e.t, .int .i64 q.e.q.t, .int .i64 q.e.q.p, .slice q.e.q.a q.e.q.n q.e.q.c, .int .i64 q.e.d, .int .u64 q.e.h, .int .i64 q.e.v, .bool q.b, .int .u64 q.h]] X fun e z => (∃ u : Pv, e = .returned (.tuple #[.agg #[.int .i64 u.i, .int .i64 u.n, .int .i64 u.d, .int .i64 u.t, .int .i64 u.s, .slice u.ma u.mn u.mc, .slice u.la u.ln u.lc, .slice u.ha u.hn u.hc, .slice u.aa u.an u.ac, .slice u.xa u.xn u.xc, .bool u.b], .bool true])) ∧ Below X.heap.size X z)) :
  Calls Tryz.prog 17 #[.agg #[.int .i64 p.i, .int .i64 p.n, .int .i64 p.d, .int .i64 p.t, .int .i64 p.s, .slice p.ma p.mn p.mc, .slice p.la p.ln p.lc, .slice p.ha p.hn p.hc, .slice p.aa p.an p.ac, .slice p.xa p.xn p.xc, .bool p.b, .slice la ln lc], .int .i64 r] w fun e z => e = .returned (.bool true) ∧ Below w.heap.size w z := by
 have HST := hst
 have HBW : Hk (Below w.heap.size w (w.alloc (.cells #[.int .i64 p.i, .int .i64 p.n, .int .i64 p.d, .int .i64 p.t, .int .i64 p.s, .slice p.ma p.mn p.mc, .slice p.la p.ln p.lc, .slice p.ha p.hn p.hc, .slice p.aa p.an p.ac, .slice p.xa p.xn p.xc, .bool p.b, .slice la ln lc] 29))) := ⟨(Below.refl _ _).alloc (Nat.le_refl _) _⟩
 have HPX := Hk.mk (Bk.new w #[.int .i64 p.i, .int .i64 p.n, .int .i64 p.d, .int .i64 p.t, .int .i64 p.s, .slice p.ma p.mn p.mc, .slice p.la p.ln p.lc, .slice p.ha p.hn p.hc, .slice p.aa p.an p.ac, .slice p.xa p.xn p.xc, .bool p.b, .slice la ln lc] 29)
 have HDD : Hk (∀ X, Below w.heap.size w X → PvD X X.heap.size p) := ⟨fun X hX => h.later hX⟩
 have HAA : Hk (∀ X, Below w.heap.size w X → AsD X X.heap.size la ln l) := ⟨fun X hX => ha.later hX⟩
 have HP := Hk.mk hp
 have HLN := Hk.mk hl
 clear h hp hl ha hst
 go_enter Tryz.func17, Tryz.ntmps17
 go_upto_region 1 with fail
 generalize (w.alloc (.cells #[.int .i64 p.i, .int .i64 p.n, .int .i64 p.d, .int .i64 p.t, .int .i64 p.s, .slice p.ma p.mn p.mc, .slice p.la p.ln p.lc, .slice p.ha p.hn p.hc, .slice p.aa p.an p.ac, .slice p.xa p.xn p.xc, .bool p.b, .slice la ln lc] 29)) = V at *
 have c0 := HPX.out.c 0; have c1 := HPX.out.c 1; have c2 := HPX.out.c 2; have c3 := HPX.out.c 3; have c4 := HPX.out.c 4; have c5 := HPX.out.c 5; have c6 := HPX.out.c 6; have c7 := HPX.out.c 7; have c8 := HPX.out.c 8; have c9 := HPX.out.c 9; have c10 := HPX.out.c 10; have c11 := HPX.out.c 11; have cl := HPX.out.lt; simp at c0 c1 c2 c3 c4 c5 c6 c7 c8 c9 c10 c11
 go_upto_if 10 with (go_at_call 10; (with_reducible refine (heavy28_any p la ln lc l _ (HDD.out _ HBW.out) HP.out HLN.out (HAA.out _ HBW.out)).mono ?_); rintro e z ⟨hvy, rfl, hb, hh⟩; have HB := Hk.mk hb; clear hb)
 clear c0 c1 c2 c3 c4 c5 c6 c7 c8 c9 c10 c11 cl
 have HTR : Hk (∀ X, Below V.heap.size V X → Below w.heap.size w X) := ⟨fun X hX => HBW.out.trans (hX.mono HBW.out.size)⟩
 cases hvy
 ·obtain ⟨hs, -, -, hsm⟩ := hh.out rfl
  have HS := Hk.mk hs
  have HSM := Hk.mk hsm
  have HAV := Hk.mk (HAA.out V HBW.out)
  clear hs hsm hh HP HAA
  go_wp2
  go_loopw [5] (fun i wr => ∃ (j : Nat), i = .int .i64 j ∧ j ≤ ln ∧ j ≤ 12 ∧ Hk (Below V.heap.size V wr)) (fun i _ => ln - (intOf i).toNat)
  case atStart => exact ⟨0, rfl, Nat.zero_le _, by omega, HB⟩
  case round =>
   clear HB
   obtain ⟨j, rfl, hj, hj12, HB⟩ := hrel
   have HPY := Hk.mk (HPX.out.below HB.out)
   have c11 := HPY.out.c 11
   have cl := HPY.out.lt
   simp at c11
   by_cases hlt : j < ln
   ·by_cases h12 : j < 12
    ·have d12 : decide ((j : Int) < 12) = true := by rw [decide_eq_true_iff]; omega
     obtain ⟨q, hq⟩ : ∃ q, l.getD j default = q := ⟨_, rfl⟩
     obtain ⟨hqd, hqm, b, off, rfl, hbl, hcc⟩ := HAV.out.act hlt hq
     have HQ : Hk (∀ X, Below V.heap.size V X → AvD X X.heap.size q) := ⟨fun X hX => hqd.later hX⟩
     have HC1 := Hk.mk (HSM.out q hqm).1
     have HC2 := Hk.mk (HSM.out q hqm).2
     have cc := fun i hi => (HB.out.cell (p := ⟨b, off + j * 12 + i, none⟩) hbl).trans (hcc i hi)
     have k0 : wr.cell? ⟨b, off + j * 12, none⟩ = some (.int .i64 q.o) := cc 0 (by decide)
     have k1 : wr.cell? ⟨b, off + j * 12 + 1, none⟩ = some (.slice q.la q.ln q.lc) := cc 1 (by decide)
     have k2 : wr.cell? ⟨b, off + j * 12 + 2, none⟩ = some (.int .i64 q.e.f) := cc 2 (by decide)
     have k3 : wr.cell? ⟨b, off + j * 12 + 3, none⟩ = some (.int .i64 q.e.t) := cc 3 (by decide)
     have k4 : wr.cell? ⟨b, off + j * 12 + 4, none⟩ = some (.int .i64 q.e.q.t) := cc 4 (by decide)
     have k5 : wr.cell? ⟨b, off + j * 12 + 5, none⟩ = some (.int .i64 q.e.q.p) := cc 5 (by decide)
     have k6 : wr.cell? ⟨b, off + j * 12 + 6, none⟩ = some (.slice q.e.q.a q.e.q.n q.e.q.c) := cc 6 (by decide)
     have k7 : wr.cell? ⟨b, off + j * 12 + 7, none⟩ = some (.int .i64 q.e.d) := cc 7 (by decide)
     have k8 : wr.cell? ⟨b, off + j * 12 + 8, none⟩ = some (.int .u64 q.e.h) := cc 8 (by decide)
     have k9 : wr.cell? ⟨b, off + j * 12 + 9, none⟩ = some (.int .i64 q.e.v) := cc 9 (by decide)
     have k10 : wr.cell? ⟨b, off + j * 12 + 10, none⟩ = some (.bool q.b) := cc 10 (by decide)
     have k11 : wr.cell? ⟨b, off + j * 12 + 11, none⟩ = some (.int .u64 q.h) := cc 11 (by decide)
     have bl : b < wr.heap.size := Nat.lt_of_lt_of_le hbl HB.out.size
     have i1 : (0 : Int) ≤ (j : Int) := by omega
     have i2 : (j : Int) < (ln : Int) := by omega
     have HLT : Hk (j < ln ∧ j < 12) := ⟨hlt, h12⟩
     have gj : IntKind.i64.wrap ((j : Int) + 1) = ((j + 1 : Nat) : Int) := by push_cast; exact wr27 (by omega) (by omega)
     clear cc hcc hqd hqm hq hbl hj hj12 hlt h12
     go_upto_region 8 with fail
     have HA8 : Hk (Bk (wr.alloc (.cells #[.int .i64 r, .slice q.la q.ln q.lc, .int .i64 q.e.f, .int .i64 q.e.t, .int .i64 q.e.q.t, .int .i64 q.e.q.p, .slice q.e.q.a q.e.q.n q.e.q.c, .int .i64 q.e.d, .int .u64 q.e.h, .int .i64 q.e.v, .bool q.b, .int .u64 q.h] 45)) wr.heap.size #[.int .i64 r, .slice q.la q.ln q.lc, .int .i64 q.e.f, .int .i64 q.e.t, .int .i64 q.e.q.t, .int .i64 q.e.q.p, .slice q.e.q.a q.e.q.n q.e.q.c, .int .i64 q.e.d, .int .u64 q.e.h, .int .i64 q.e.v, .bool q.b, .int .u64 q.h]) := ⟨Bk.new wr #[.int .i64 r, .slice q.la q.ln q.lc, .int .i64 q.e.f, .int .i64 q.e.t, .int .i64 q.e.q.t, .int .i64 q.e.q.p, .slice q.e.q.a q.e.q.n q.e.q.c, .int .i64 q.e.d, .int .u64 q.e.h, .int .i64 q.e.v, .bool q.b, .int .u64 q.h] 45⟩
     have HB8 : Hk (Below V.heap.size V (wr.alloc (.cells #[.int .i64 r, .slice q.la q.ln q.lc, .int .i64 q.e.f, .int .i64 q.e.t, .int .i64 q.e.q.t, .int .i64 q.e.q.p, .slice q.e.q.a q.e.q.n q.e.q.c, .int .i64 q.e.d, .int .u64 q.e.h, .int .i64 q.e.v, .bool q.b, .int .u64 q.h] 45))) := ⟨kw_al HB.out (Nat.le_refl _) _⟩
     clear k0 k1 k2 k3 k4 k5 k6 k7 k8 k9 k10 k11 c11 cl bl i1 i2 HPY HB
     generalize wr.heap.size = A at *
     generalize (wr.alloc (.cells #[.int .i64 r, .slice q.la q.ln q.lc, .int .i64 q.e.f, .int .i64 q.e.t, .int .i64 q.e.q.t, .int .i64 q.e.q.p, .slice q.e.q.a q.e.q.n q.e.q.c, .int .i64 q.e.d, .int .u64 q.e.h, .int .i64 q.e.v, .bool q.b, .int .u64 q.h] 45)) = V8 at *
     have HPY := Hk.mk (HPX.out.below HB8.out)
     have y0 := HPY.out.c 0; have y1 := HPY.out.c 1; have y2 := HPY.out.c 2; have y3 := HPY.out.c 3; have y4 := HPY.out.c 4; have y5 := HPY.out.c 5; have y6 := HPY.out.c 6; have y7 := HPY.out.c 7; have y8 := HPY.out.c 8; have y9 := HPY.out.c 9; have y10 := HPY.out.c 10; have yl := HPY.out.lt; simp at y0 y1 y2 y3 y4 y5 y6 y7 y8 y9 y10
     have c0 := HA8.out.c 0; have c1 := HA8.out.c 1; have c2 := HA8.out.c 2; have c3 := HA8.out.c 3; have c4 := HA8.out.c 4; have c5 := HA8.out.c 5; have c6 := HA8.out.c 6; have c7 := HA8.out.c 7; have c8 := HA8.out.c 8; have c9 := HA8.out.c 9; have c10 := HA8.out.c 10; have c11 := HA8.out.c 11; have cl := HA8.out.lt; simp at c0 c1 c2 c3 c4 c5 c6 c7 c8 c9 c10 c11
     go_wp2_with (go_at_call 15; (with_reducible refine (HST.out q _ (HDD.out _ (HTR.out _ HB8.out)) HS.out ((HQ.out _ HB8.out)) HC1.out HC2.out).mono ?_); rintro e z9 ⟨⟨u, rfl⟩, hb⟩; have HB9 : Hk (Below V.heap.size V (z9.alloc (.cells #[.int .i64 u.i, .int .i64 u.n, .int .i64 u.d, .int .i64 u.t, .int .i64 u.s, .slice u.ma u.mn u.mc, .slice u.la u.ln u.lc, .slice u.ha u.hn u.hc, .slice u.aa u.an u.ac, .slice u.xa u.xn u.xc, .bool u.b] 26))) := ⟨kw_al (kw_step HB8.out (Nat.le_refl _) hb) (Nat.le_refl _) _⟩; clear hb)
     exact ⟨⟨j + 1, rfl, by have := HLT.out; omega, by have := HLT.out; omega, HB9⟩, by have := HLT.out; simp only [intOf]; omega⟩
    ·have d12 : decide ((j : Int) < 12) = false := by rw [decide_eq_false_iff_not]; omega
     have i2 : (j : Int) < (ln : Int) := by omega
     go_wp2_with (go_at_call 16; (with_reducible refine (wakes28_any _).mono ?_); rintro e z9 ⟨rfl, hb⟩; replace HB := Hk.mk (kw_step HB.out (Nat.le_refl _) hb); clear hb)
     go_ret
     exact ⟨rfl, HTR.out _ HB.out⟩
   ·obtain rfl : j = ln := by omega
    go_wp2_with (go_at_call 16; (with_reducible refine (wakes28_any _).mono ?_); rintro e z9 ⟨rfl, hb⟩; replace HB := Hk.mk (kw_step HB.out (Nat.le_refl _) hb); clear hb)
    go_ret
    exact ⟨rfl, HTR.out _ HB.out⟩
 ·go_wp2
  go_ret
  exact ⟨rfl, HTR.out _ HB.out⟩
end Go.Proofs.YtdpblimhfmfbnaaGreat
