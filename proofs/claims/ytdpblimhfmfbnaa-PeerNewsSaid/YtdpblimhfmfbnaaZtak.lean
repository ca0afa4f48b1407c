import Derived.Deep.QuietTactic
import Derived.BigQuiet
import Derived.Deep.RegionWith
import Derived.Deep.RegionHeld3
import Derived.Deep.DeepCutAuto
import Derived.Deep.DeepFit
import Derived.Outline
import Derived.Test.YtdpblimhfmfbnaaZtaj
import Derived.Test.YtdpblimhfmfbnaaZtf
import Derived.Test.YtdpblimhfmfbnaaZtb
/- Package peer: Ready. -/
namespace Go.Proofs.Ytdpblimhfmfbnaa
open Go.ChangeShapes Go.WideShapes Go.ChangeAt Go.RowKit Go.Deep
set_option linter.unusedVariables false
set_option linter.unusedSimpArgs false
set_option maxRecDepth 100000 in
set_option maxHeartbeats 3200000 in
theorem pready_no (p : Pv) (w : World) (h : PvD w w.heap.size p) (hs : PvS p) (E : ¬ OkP p.ab) :
    Calls Try.prog 16 #[.agg #[.int .i64 p.i, .int .i64 p.n, .int .i64 p.d, .int .i64 p.t, .int .i64 p.s, .slice p.ma p.mn p.mc, .slice p.la p.ln p.lc, .slice p.ha p.hn p.hc, .slice p.aa p.an p.ac, .slice p.xa p.xn p.xc, .bool p.b]] w fun e w' => e = .returned (.tuple #[.slice none 0 0, .bool false, .int .i64 1]) ∧ Below w.heap.size w w' := by
  have HH := Hk.mk h
  have HS := Hk.mk hs
  have HE : Hk (Hk (OkP p.ab ↔ false = true)) := ⟨⟨fun g => absurd g E, fun g => by cases g⟩⟩
  have HWB : Hk (Below w.heap.size w (w.alloc (.cells #[.int .i64 p.i, .int .i64 p.n, .int .i64 p.d, .int .i64 p.t, .int .i64 p.s, .slice p.ma p.mn p.mc, .slice p.la p.ln p.lc, .slice p.ha p.hn p.hc, .slice p.aa p.an p.ac, .slice p.xa p.xn p.xc, .bool p.b] 28))) := ⟨(Below.refl _ _).alloc (Nat.le_refl _) _⟩
  have hNW : (w.heap.size + 1) ≤ (w.alloc (.cells #[.int .i64 p.i, .int .i64 p.n, .int .i64 p.d, .int .i64 p.t, .int .i64 p.s, .slice p.ma p.mn p.mc, .slice p.la p.ln p.lc, .slice p.ha p.hn p.hc, .slice p.aa p.an p.ac, .slice p.xa p.xn p.xc, .bool p.b] 28)).heap.size := by simp
  have HB : Hk (Below (w.heap.size + 1) (w.alloc (.cells #[.int .i64 p.i, .int .i64 p.n, .int .i64 p.d, .int .i64 p.t, .int .i64 p.s, .slice p.ma p.mn p.mc, .slice p.la p.ln p.lc, .slice p.ha p.hn p.hc, .slice p.aa p.an p.ac, .slice p.xa p.xn p.xc, .bool p.b] 28)) (w.alloc (.cells #[.int .i64 p.i, .int .i64 p.n, .int .i64 p.d, .int .i64 p.t, .int .i64 p.s, .slice p.ma p.mn p.mc, .slice p.la p.ln p.lc, .slice p.ha p.hn p.hc, .slice p.aa p.an p.ac, .slice p.xa p.xn p.xc, .bool p.b] 28))) := ⟨Below.refl _ _⟩
  have HTR : Hk (∀ X, Below (w.heap.size + 1) (w.alloc (.cells #[.int .i64 p.i, .int .i64 p.n, .int .i64 p.d, .int .i64 p.t, .int .i64 p.s, .slice p.ma p.mn p.mc, .slice p.la p.ln p.lc, .slice p.ha p.hn p.hc, .slice p.aa p.an p.ac, .slice p.xa p.xn p.xc, .bool p.b] 28)) X → Below w.heap.size w X) := ⟨fun X hX => HWB.out.trans (hX.mono (by omega))⟩
  have HPB : Hk (Bk (w.alloc (.cells #[.int .i64 p.i, .int .i64 p.n, .int .i64 p.d, .int .i64 p.t, .int .i64 p.s, .slice p.ma p.mn p.mc, .slice p.la p.ln p.lc, .slice p.ha p.hn p.hc, .slice p.aa p.an p.ac, .slice p.xa p.xn p.xc, .bool p.b] 28)) w.heap.size #[.int .i64 p.i, .int .i64 p.n, .int .i64 p.d, .int .i64 p.t, .int .i64 p.s, .slice p.ma p.mn p.mc, .slice p.la p.ln p.lc, .slice p.ha p.hn p.hc, .slice p.aa p.an p.ac, .slice p.xa p.xn p.xc, .bool p.b]) := ⟨Bk.new w #[.int .i64 p.i, .int .i64 p.n, .int .i64 p.d, .int .i64 p.t, .int .i64 p.s, .slice p.ma p.mn p.mc, .slice p.la p.ln p.lc, .slice p.ha p.hn p.hc, .slice p.aa p.an p.ac, .slice p.xa p.xn p.xc, .bool p.b] 28⟩
  have HVF : Hk (∀ X, Below (w.heap.size + 1) (w.alloc (.cells #[.int .i64 p.i, .int .i64 p.n, .int .i64 p.d, .int .i64 p.t, .int .i64 p.s, .slice p.ma p.mn p.mc, .slice p.la p.ln p.lc, .slice p.ha p.hn p.hc, .slice p.aa p.an p.ac, .slice p.xa p.xn p.xc, .bool p.b] 28)) X → X.cell? ⟨w.heap.size, 0, none⟩ = some (.int .i64 p.i) ∧ X.cell? ⟨w.heap.size, 1, none⟩ = some (.int .i64 p.n) ∧ X.cell? ⟨w.heap.size, 2, none⟩ = some (.int .i64 p.d) ∧ X.cell? ⟨w.heap.size, 3, none⟩ = some (.int .i64 p.t) ∧ X.cell? ⟨w.heap.size, 4, none⟩ = some (.int .i64 p.s) ∧ X.cell? ⟨w.heap.size, 5, none⟩ = some (.slice p.ma p.mn p.mc) ∧ X.cell? ⟨w.heap.size, 6, none⟩ = some (.slice p.la p.ln p.lc) ∧ X.cell? ⟨w.heap.size, 7, none⟩ = some (.slice p.ha p.hn p.hc) ∧ X.cell? ⟨w.heap.size, 8, none⟩ = some (.slice p.aa p.an p.ac) ∧ X.cell? ⟨w.heap.size, 9, none⟩ = some (.slice p.xa p.xn p.xc) ∧ X.cell? ⟨w.heap.size, 10, none⟩ = some (.bool p.b) ∧ w.heap.size < X.heap.size) := ⟨fun X hX => by
    have hl : w.heap.size < w.heap.size + 1 := Nat.lt_succ_self _
    have c := fun i => (hX.cell (p := ⟨w.heap.size, i, none⟩) hl).trans (HPB.out.c i)
    exact ⟨c 0, c 1, c 2, c 3, c 4, c 5, c 6, c 7, c 8, c 9, c 10, World.block_lt_of_cell? _ _ (c 0)⟩⟩
  clear h hs E HPB
  obtain ⟨y0, y1, y2, y3, y4, y5, y6, y7, y8, y9, y10, yl⟩ := HVF.out _ HB.out
  go_enter Try.func16, Try.ntmps16
  go_wp2_with (go_at_call 25; (with_reducible refine (pcheck_as false 1 p _ ((HH.out.below (HTR.out _ HB.out) (Nat.le_refl _)).mono (HTR.out _ HB.out).size) HS.out HE.out ⟨rfl⟩).mono ?_); rintro e z ⟨rfl, hb⟩; have HB2 := Hk.mk (kw_step HB.out hNW hb); clear y0 y1 y2 y3 y4 y5 y6 y7 y8 y9 y10 yl; clear hb; replace HB := HB2; clear HB2; obtain ⟨y0, y1, y2, y3, y4, y5, y6, y7, y8, y9, y10, yl⟩ := HVF.out _ HB.out)
  go_ret3
  exact ⟨rfl, HTR.out _ HB.out⟩
set_option maxRecDepth 100000 in
set_option maxHeartbeats 3200000 in
theorem pready_wait (p : Pv) (w : World) (h : PvD w w.heap.size p) (hs : PvS p) (hk : OkP p.ab) (E : ¬ (p.t < 1099511627776 ∧ p.t ≤ minL p.hl)) :
    Calls Try.prog 16 #[.agg #[.int .i64 p.i, .int .i64 p.n, .int .i64 p.d, .int .i64 p.t, .int .i64 p.s, .slice p.ma p.mn p.mc, .slice p.la p.ln p.lc, .slice p.ha p.hn p.hc, .slice p.aa p.an p.ac, .slice p.xa p.xn p.xc, .bool p.b]] w fun e w' => e = .returned (.tuple #[.slice none 0 0, .bool false, .int .i64 0]) ∧ Below w.heap.size w w' := by
  have HH := Hk.mk h
  have HS := Hk.mk hs
  have HE : Hk (Hk (OkP p.ab ↔ true = true)) := ⟨⟨fun g => rfl, fun g => hk⟩⟩
  have HN0 : Hk (0 < p.hn) := ⟨by have h1 := hk.k.h1; have h2 := hk.c.n1; have h3 := h.h.len; have h4 : p.ab.h.length = p.hl.length := rfl; omega⟩
  have HN := Hk.mk E
  have HWB : Hk (Below w.heap.size w (w.alloc (.cells #[.int .i64 p.i, .int .i64 p.n, .int .i64 p.d, .int .i64 p.t, .int .i64 p.s, .slice p.ma p.mn p.mc, .slice p.la p.ln p.lc, .slice p.ha p.hn p.hc, .slice p.aa p.an p.ac, .slice p.xa p.xn p.xc, .bool p.b] 28))) := ⟨(Below.refl _ _).alloc (Nat.le_refl _) _⟩
  have hNW : (w.heap.size + 1) ≤ (w.alloc (.cells #[.int .i64 p.i, .int .i64 p.n, .int .i64 p.d, .int .i64 p.t, .int .i64 p.s, .slice p.ma p.mn p.mc, .slice p.la p.ln p.lc, .slice p.ha p.hn p.hc, .slice p.aa p.an p.ac, .slice p.xa p.xn p.xc, .bool p.b] 28)).heap.size := by simp
  have HB : Hk (Below (w.heap.size + 1) (w.alloc (.cells #[.int .i64 p.i, .int .i64 p.n, .int .i64 p.d, .int .i64 p.t, .int .i64 p.s, .slice p.ma p.mn p.mc, .slice p.la p.ln p.lc, .slice p.ha p.hn p.hc, .slice p.aa p.an p.ac, .slice p.xa p.xn p.xc, .bool p.b] 28)) (w.alloc (.cells #[.int .i64 p.i, .int .i64 p.n, .int .i64 p.d, .int .i64 p.t, .int .i64 p.s, .slice p.ma p.mn p.mc, .slice p.la p.ln p.lc, .slice p.ha p.hn p.hc, .slice p.aa p.an p.ac, .slice p.xa p.xn p.xc, .bool p.b] 28))) := ⟨Below.refl _ _⟩
  have HTR : Hk (∀ X, Below (w.heap.size + 1) (w.alloc (.cells #[.int .i64 p.i, .int .i64 p.n, .int .i64 p.d, .int .i64 p.t, .int .i64 p.s, .slice p.ma p.mn p.mc, .slice p.la p.ln p.lc, .slice p.ha p.hn p.hc, .slice p.aa p.an p.ac, .slice p.xa p.xn p.xc, .bool p.b] 28)) X → Below w.heap.size w X) := ⟨fun X hX => HWB.out.trans (hX.mono (by omega))⟩
  have HPB : Hk (Bk (w.alloc (.cells #[.int .i64 p.i, .int .i64 p.n, .int .i64 p.d, .int .i64 p.t, .int .i64 p.s, .slice p.ma p.mn p.mc, .slice p.la p.ln p.lc, .slice p.ha p.hn p.hc, .slice p.aa p.an p.ac, .slice p.xa p.xn p.xc, .bool p.b] 28)) w.heap.size #[.int .i64 p.i, .int .i64 p.n, .int .i64 p.d, .int .i64 p.t, .int .i64 p.s, .slice p.ma p.mn p.mc, .slice p.la p.ln p.lc, .slice p.ha p.hn p.hc, .slice p.aa p.an p.ac, .slice p.xa p.xn p.xc, .bool p.b]) := ⟨Bk.new w #[.int .i64 p.i, .int .i64 p.n, .int .i64 p.d, .int .i64 p.t, .int .i64 p.s, .slice p.ma p.mn p.mc, .slice p.la p.ln p.lc, .slice p.ha p.hn p.hc, .slice p.aa p.an p.ac, .slice p.xa p.xn p.xc, .bool p.b] 28⟩
  have HVF : Hk (∀ X, Below (w.heap.size + 1) (w.alloc (.cells #[.int .i64 p.i, .int .i64 p.n, .int .i64 p.d, .int .i64 p.t, .int .i64 p.s, .slice p.ma p.mn p.mc, .slice p.la p.ln p.lc, .slice p.ha p.hn p.hc, .slice p.aa p.an p.ac, .slice p.xa p.xn p.xc, .bool p.b] 28)) X → X.cell? ⟨w.heap.size, 0, none⟩ = some (.int .i64 p.i) ∧ X.cell? ⟨w.heap.size, 1, none⟩ = some (.int .i64 p.n) ∧ X.cell? ⟨w.heap.size, 2, none⟩ = some (.int .i64 p.d) ∧ X.cell? ⟨w.heap.size, 3, none⟩ = some (.int .i64 p.t) ∧ X.cell? ⟨w.heap.size, 4, none⟩ = some (.int .i64 p.s) ∧ X.cell? ⟨w.heap.size, 5, none⟩ = some (.slice p.ma p.mn p.mc) ∧ X.cell? ⟨w.heap.size, 6, none⟩ = some (.slice p.la p.ln p.lc) ∧ X.cell? ⟨w.heap.size, 7, none⟩ = some (.slice p.ha p.hn p.hc) ∧ X.cell? ⟨w.heap.size, 8, none⟩ = some (.slice p.aa p.an p.ac) ∧ X.cell? ⟨w.heap.size, 9, none⟩ = some (.slice p.xa p.xn p.xc) ∧ X.cell? ⟨w.heap.size, 10, none⟩ = some (.bool p.b) ∧ w.heap.size < X.heap.size) := ⟨fun X hX => by
    have hl : w.heap.size < w.heap.size + 1 := Nat.lt_succ_self _
    have c := fun i => (hX.cell (p := ⟨w.heap.size, i, none⟩) hl).trans (HPB.out.c i)
    exact ⟨c 0, c 1, c 2, c 3, c 4, c 5, c 6, c 7, c 8, c 9, c 10, World.block_lt_of_cell? _ _ (c 0)⟩⟩
  clear h hs hk E HPB
  obtain ⟨y0, y1, y2, y3, y4, y5, y6, y7, y8, y9, y10, yl⟩ := HVF.out _ HB.out
  go_enter Try.func16, Try.ntmps16
  go_wp2_with (first | (go_at_call 25; (with_reducible refine (pcheck_as true 0 p _ ((HH.out.below (HTR.out _ HB.out) (Nat.le_refl _)).mono (HTR.out _ HB.out).size) HS.out HE.out ⟨rfl⟩).mono ?_); rintro e z ⟨rfl, hb⟩; have HB2 := Hk.mk (kw_step HB.out hNW hb); clear y0 y1 y2 y3 y4 y5 y6 y7 y8 y9 y10 yl; clear hb; replace HB := HB2; clear HB2; obtain ⟨y0, y1, y2, y3, y4, y5, y6, y7, y8, y9, y10, yl⟩ := HVF.out _ HB.out) | (go_at_call 34; (with_reducible refine (ready_as false p _ ((HH.out.below (HTR.out _ HB.out) (Nat.le_refl _)).mono (HTR.out _ HB.out).size) HS.out HN0.out ⟨⟨fun g => absurd g HN.out, fun g => by cases g⟩⟩).mono ?_); rintro e z ⟨rfl, hb⟩; have HB2 := Hk.mk (kw_step HB.out hNW hb); clear y0 y1 y2 y3 y4 y5 y6 y7 y8 y9 y10 yl; clear hb; replace HB := HB2; clear HB2; obtain ⟨y0, y1, y2, y3, y4, y5, y6, y7, y8, y9, y10, yl⟩ := HVF.out _ HB.out))
  go_ret3
  exact ⟨rfl, HTR.out _ HB.out⟩
/-- What Ready answers where a turn can be executed. -/
def RdR (w : World) (p : Pv) (e : Ending) (z : World) : Prop := ∃ a2 c2 M, e = .returned (.tuple #[.slice a2 M.length c2, .bool true, .int .i64 0]) ∧ OwC z w.heap.size (.slice a2 M.length c2) M.length M ∧ abC M = flR (mergeN ((abI p.ll).filter (fun x => x.t == p.t))) ∧ Below w.heap.size w z
set_option maxRecDepth 100000 in
set_option maxHeartbeats 3200000 in
theorem pready_yes (p : Pv) (w : World) (h : PvD w w.heap.size p) (hs : PvS p) (hk : OkP p.ab) (E : p.t < 1099511627776 ∧ p.t ≤ minL p.hl) :
    Calls Try.prog 16 #[.agg #[.int .i64 p.i, .int .i64 p.n, .int .i64 p.d, .int .i64 p.t, .int .i64 p.s, .slice p.ma p.mn p.mc, .slice p.la p.ln p.lc, .slice p.ha p.hn p.hc, .slice p.aa p.an p.ac, .slice p.xa p.xn p.xc, .bool p.b]] w (RdR w p) := by
  have HH := Hk.mk h
  have HS := Hk.mk hs
  have HE : Hk (Hk (OkP p.ab ↔ true = true)) := ⟨⟨fun g => rfl, fun g => hk⟩⟩
  have HN0 : Hk (0 < p.hn) := ⟨by have h1 := hk.k.h1; have h2 := hk.c.n1; have h3 := h.h.len; have h4 : p.ab.h.length = p.hl.length := rfl; omega⟩
  have HO : Hk (Hk (ordN none (abI p.ll) = true)) := ⟨⟨hk.w.o⟩⟩
  have HY := Hk.mk E
  have HWB : Hk (Below w.heap.size w (w.alloc (.cells #[.int .i64 p.i, .int .i64 p.n, .int .i64 p.d, .int .i64 p.t, .int .i64 p.s, .slice p.ma p.mn p.mc, .slice p.la p.ln p.lc, .slice p.ha p.hn p.hc, .slice p.aa p.an p.ac, .slice p.xa p.xn p.xc, .bool p.b] 28))) := ⟨(Below.refl _ _).alloc (Nat.le_refl _) _⟩
  have hNW : (w.heap.size + 1) ≤ (w.alloc (.cells #[.int .i64 p.i, .int .i64 p.n, .int .i64 p.d, .int .i64 p.t, .int .i64 p.s, .slice p.ma p.mn p.mc, .slice p.la p.ln p.lc, .slice p.ha p.hn p.hc, .slice p.aa p.an p.ac, .slice p.xa p.xn p.xc, .bool p.b] 28)).heap.size := by simp
  have HB : Hk (Below (w.heap.size + 1) (w.alloc (.cells #[.int .i64 p.i, .int .i64 p.n, .int .i64 p.d, .int .i64 p.t, .int .i64 p.s, .slice p.ma p.mn p.mc, .slice p.la p.ln p.lc, .slice p.ha p.hn p.hc, .slice p.aa p.an p.ac, .slice p.xa p.xn p.xc, .bool p.b] 28)) (w.alloc (.cells #[.int .i64 p.i, .int .i64 p.n, .int .i64 p.d, .int .i64 p.t, .int .i64 p.s, .slice p.ma p.mn p.mc, .slice p.la p.ln p.lc, .slice p.ha p.hn p.hc, .slice p.aa p.an p.ac, .slice p.xa p.xn p.xc, .bool p.b] 28))) := ⟨Below.refl _ _⟩
  have HTR : Hk (∀ X, Below (w.heap.size + 1) (w.alloc (.cells #[.int .i64 p.i, .int .i64 p.n, .int .i64 p.d, .int .i64 p.t, .int .i64 p.s, .slice p.ma p.mn p.mc, .slice p.la p.ln p.lc, .slice p.ha p.hn p.hc, .slice p.aa p.an p.ac, .slice p.xa p.xn p.xc, .bool p.b] 28)) X → Below w.heap.size w X) := ⟨fun X hX => HWB.out.trans (hX.mono (by omega))⟩
  have HPB : Hk (Bk (w.alloc (.cells #[.int .i64 p.i, .int .i64 p.n, .int .i64 p.d, .int .i64 p.t, .int .i64 p.s, .slice p.ma p.mn p.mc, .slice p.la p.ln p.lc, .slice p.ha p.hn p.hc, .slice p.aa p.an p.ac, .slice p.xa p.xn p.xc, .bool p.b] 28)) w.heap.size #[.int .i64 p.i, .int .i64 p.n, .int .i64 p.d, .int .i64 p.t, .int .i64 p.s, .slice p.ma p.mn p.mc, .slice p.la p.ln p.lc, .slice p.ha p.hn p.hc, .slice p.aa p.an p.ac, .slice p.xa p.xn p.xc, .bool p.b]) := ⟨Bk.new w #[.int .i64 p.i, .int .i64 p.n, .int .i64 p.d, .int .i64 p.t, .int .i64 p.s, .slice p.ma p.mn p.mc, .slice p.la p.ln p.lc, .slice p.ha p.hn p.hc, .slice p.aa p.an p.ac, .slice p.xa p.xn p.xc, .bool p.b] 28⟩
  have HVF : Hk (∀ X, Below (w.heap.size + 1) (w.alloc (.cells #[.int .i64 p.i, .int .i64 p.n, .int .i64 p.d, .int .i64 p.t, .int .i64 p.s, .slice p.ma p.mn p.mc, .slice p.la p.ln p.lc, .slice p.ha p.hn p.hc, .slice p.aa p.an p.ac, .slice p.xa p.xn p.xc, .bool p.b] 28)) X → X.cell? ⟨w.heap.size, 0, none⟩ = some (.int .i64 p.i) ∧ X.cell? ⟨w.heap.size, 1, none⟩ = some (.int .i64 p.n) ∧ X.cell? ⟨w.heap.size, 2, none⟩ = some (.int .i64 p.d) ∧ X.cell? ⟨w.heap.size, 3, none⟩ = some (.int .i64 p.t) ∧ X.cell? ⟨w.heap.size, 4, none⟩ = some (.int .i64 p.s) ∧ X.cell? ⟨w.heap.size, 5, none⟩ = some (.slice p.ma p.mn p.mc) ∧ X.cell? ⟨w.heap.size, 6, none⟩ = some (.slice p.la p.ln p.lc) ∧ X.cell? ⟨w.heap.size, 7, none⟩ = some (.slice p.ha p.hn p.hc) ∧ X.cell? ⟨w.heap.size, 8, none⟩ = some (.slice p.aa p.an p.ac) ∧ X.cell? ⟨w.heap.size, 9, none⟩ = some (.slice p.xa p.xn p.xc) ∧ X.cell? ⟨w.heap.size, 10, none⟩ = some (.bool p.b) ∧ w.heap.size < X.heap.size) := ⟨fun X hX => by
    have hl : w.heap.size < w.heap.size + 1 := Nat.lt_succ_self _
    have c := fun i => (hX.cell (p := ⟨w.heap.size, i, none⟩) hl).trans (HPB.out.c i)
    exact ⟨c 0, c 1, c 2, c 3, c 4, c 5, c 6, c 7, c 8, c 9, c 10, World.block_lt_of_cell? _ _ (c 0)⟩⟩
  clear h hs hk E HPB
  obtain ⟨y0, y1, y2, y3, y4, y5, y6, y7, y8, y9, y10, yl⟩ := HVF.out _ HB.out
  go_enter Try.func16, Try.ntmps16
  go_wp2_with (first | (go_at_call 25; (with_reducible refine (pcheck_as true 0 p _ ((HH.out.below (HTR.out _ HB.out) (Nat.le_refl _)).mono (HTR.out _ HB.out).size) HS.out HE.out ⟨rfl⟩).mono ?_); rintro e z ⟨rfl, hb⟩; have HB2 := Hk.mk (kw_step HB.out hNW hb); clear y0 y1 y2 y3 y4 y5 y6 y7 y8 y9 y10 yl; clear hb; replace HB := HB2; clear HB2; obtain ⟨y0, y1, y2, y3, y4, y5, y6, y7, y8, y9, y10, yl⟩ := HVF.out _ HB.out) | (go_at_call 34; (with_reducible refine (ready_as true p _ ((HH.out.below (HTR.out _ HB.out) (Nat.le_refl _)).mono (HTR.out _ HB.out).size) HS.out HN0.out ⟨⟨fun _ => rfl, fun _ => HY.out⟩⟩).mono ?_); rintro e z ⟨rfl, hb⟩; have HB2 := Hk.mk (kw_step HB.out hNW hb); clear y0 y1 y2 y3 y4 y5 y6 y7 y8 y9 y10 yl; clear hb; replace HB := HB2; clear HB2; obtain ⟨y0, y1, y2, y3, y4, y5, y6, y7, y8, y9, y10, yl⟩ := HVF.out _ HB.out) | (go_at_call 35; go_loud (((with_reducible refine (take_yes p.t p.la p.ln p.lc p.ll _ ((HH.out.below (HTR.out _ HB.out) (Nat.le_refl _)).mono (HTR.out _ HB.out).size).l HS.out.l HO.out).mono ?_); rintro e z ⟨s1, n1, e1, s2, n2, e2, M1, M2, rfl, htk, ha1, ha2, hb⟩; have HTK := Hk.mk (htk.a.weak (base' := w.heap.size) (HTR.out _ HB.out).size); have HA1 := Hk.mk ha1; have HD1 := Hk.mk (smI_of htk.a.d ((HH.out.below (HTR.out _ HB.out) (Nat.le_refl _)).mono (HTR.out _ HB.out).size).l HS.out.l (fun x hx => by rw [ha1] at hx; exact (List.mem_filter.1 hx).1) (by have h1 := congrArg List.length ha1; have h2 := List.length_filter_le (fun x : In => x.t == p.t) (abI p.ll); rw [abI_len] at h1; rw [abI_len] at h2; omega)); clear htk ha1 ha2; have HB2 := Hk.mk (kw_step HB.out hNW hb); clear y0 y1 y2 y3 y4 y5 y6 y7 y8 y9 y10 yl; clear hb; replace HB := HB2; clear HB2; obtain ⟨y0, y1, y2, y3, y4, y5, y6, y7, y8, y9, y10, yl⟩ := HVF.out _ HB.out))) | (go_at_call 36; (with_reducible refine (merge27_u _ s1 n1 e1 M1 _ HTK.out.d HD1.out ⟨rfl⟩).mono ?_); rintro e z ⟨a2, c2, M, rfl, hoc, hab, hb⟩; have HOC := Hk.mk (hoc.weak (base' := w.heap.size) (HTR.out _ HB.out).size); have HAB := Hk.mk hab; clear hoc hab; have HB2 := Hk.mk (kw_step HB.out hNW hb); clear y0 y1 y2 y3 y4 y5 y6 y7 y8 y9 y10 yl; clear hb; replace HB := HB2; clear HB2; obtain ⟨y0, y1, y2, y3, y4, y5, y6, y7, y8, y9, y10, yl⟩ := HVF.out _ HB.out))
  go_ret3
  exact ⟨a2, c2, M, rfl, HOC.out, by rw [HAB.out, HA1.out], HTR.out _ HB.out⟩
end Go.Proofs.Ytdpblimhfmfbnaa
/- Two rows of one's own in which the same number stands, growing side by side. -/
namespace Go.Proofs.Ytdpblimhfmfbnaa
open Go.ChangeShapes Go.WideShapes Go.ChangeAt Go.RowKit Go.Deep
set_option linter.unusedVariables false
set_option linter.unusedSimpArgs false
structure Tw (w : World) (S : Nat) (v v' : Value) (n m : Nat) (x : Int) : Prop where
  a : w.ownsRow S 3 1 v n ((List.replicate n x).map (Value.int .i64))
  b : w.ownsRow S 3 1 v' m ((List.replicate m x).map (Value.int .i64))
  ap : v.ownBlock = none ∨ v.ownBlock ≠ v'.ownBlock
theorem rep_one (n : Nat) (x : Int) : (List.replicate n x).map (Value.int .i64) ++ [.int .i64 x] = (List.replicate (n + 1) x).map (Value.int .i64) := by
  rw [List.replicate_succ', List.map_append]
  rfl
theorem Tw.nil (w : World) (S : Nat) (x : Int) : Tw w S (.slice none 0 0) (.slice none 0 0) 0 0 x := ⟨⟨rfl, Or.inl ⟨rfl, rfl⟩⟩, ⟨rfl, Or.inl ⟨rfl, rfl⟩⟩, Or.inl rfl⟩
theorem Tw.fr {w w' : World} {S n m : Nat} {v v' : Value} {x : Int} {M : Nat → Prop} (h : Tw w S v v' n m x) (k : Fr M w w') (hM : ∀ j, M j → j < S) : Tw w' S v v' n m x :=
  ⟨k.row h.a (fun j hj hm => by have := (h.a.lt j hj).1; have := hM j hm; omega), k.row h.b (fun j hj hm => by have := (h.b.lt j hj).1; have := hM j hm; omega), h.ap⟩
theorem Tw.step1 {w z : World} {S n m : Nat} {v v' u : Value} {x : Int} {o : Obj} (h : Tw w S v v' n m x) (hown : z.ownsRow S 3 1 u (n + 1) ((List.replicate n x).map (Value.int .i64) ++ [.int .i64 x])) (hg : (w.alloc o).grownBy z v.ownBlock) (hat : u.ownBlock = v.ownBlock ∨ u.ownBlock = some (w.alloc o).heap.size) : Tw z S u v' (n + 1) m x := by
  rw [rep_one] at hown
  refine ⟨hown, (h.b.alloc o).kept hg ?_, ?_⟩
  · rcases h.ap with e | e
    · by_cases c : v'.ownBlock = none
      · exact Or.inl c
      · right; rw [e]; exact c
    · exact Or.inr fun e' => e e'.symm
  · rcases hat with e | e
    · rw [e]; exact h.ap
    · right
      rw [e]
      intro e'
      have := ((h.b.alloc o).lt _ e'.symm).2
      omega
theorem Tw.step2 {w z : World} {S n m : Nat} {v v' u : Value} {x : Int} {o : Obj} (h : Tw w S v v' n m x) (hown : z.ownsRow S 3 1 u (m + 1) ((List.replicate m x).map (Value.int .i64) ++ [.int .i64 x])) (hg : (w.alloc o).grownBy z v'.ownBlock) (hat : u.ownBlock = v'.ownBlock ∨ u.ownBlock = some (w.alloc o).heap.size) : Tw z S v u n (m + 1) x := by
  rw [rep_one] at hown
  refine ⟨(h.a.alloc o).kept hg h.ap, hown, ?_⟩
  rcases hat with e | e
  · rw [e]; exact h.ap
  · right
    rw [e]
    intro e'
    have := ((h.a.alloc o).lt _ e').2
    omega
theorem Tw.o1 {w : World} {S n m : Nat} {v v' : Value} {x : Int} (h : Tw w S v v' n m x) : OwnI w S v n (List.replicate n x) := ⟨by simp, h.a⟩
theorem Tw.o2 {w : World} {S n m : Nat} {v v' : Value} {x : Int} (h : Tw w S v v' n m x) : OwnI w S v' m (List.replicate m x) := ⟨by simp, h.b⟩
theorem Tw.form {w : World} {S n m : Nat} {v v' : Value} {x : Int} (h : Tw w S v v' n m x) : ∃ a c a' c', v = .slice a n c ∧ v' = .slice a' m c' := by
  obtain ⟨a, c, e, _⟩ := h.o1.nq
  obtain ⟨a', c', e', _⟩ := h.o2.nq
  exact ⟨a, c, a', c', e, e'⟩
end Go.Proofs.Ytdpblimhfmfbnaa
/- num, wakes of the statements of layer 28. -/
namespace Go.Proofs.Ytdpblimhfmfbnaa
open Go.ChangeShapes Go.WideShapes Go.ChangeAt Go.RowKit Go.Deep
set_option linter.unusedVariables false
set_option linter.unusedSimpArgs false
theorem num28_any (x : Int) (w : World) : Calls Try.prog 9 #[.int .i64 x] w fun e w' => e = .returned (.int .i64 x) ∧ w' = w := by
  go_enter Try.func9, Try.ntmps9
  go_wp2
  go_ret
  exact ⟨rfl, rfl⟩
theorem beg_one : OkP (begP 1 1 1) := by
  refine ⟨⟨by decide, by decide, by decide, by decide, by decide, by decide, by decide, by decide, by decide, by decide, by decide⟩, ⟨by decide, by decide, by decide, by decide, ?_⟩, ⟨rfl, fun x hx => by cases hx⟩, ⟨by decide, fun k x hx => by cases hx⟩, by decide, by decide⟩
  intro k hk
  obtain rfl : k = 0 := by
    have : (begP 1 1 1).h.length = 1 := rfl
    omega
  decide
set_option maxRecDepth 100000 in
set_option maxHeartbeats 3200000 in
theorem wakes28_any (w : World) : Calls Try.prog 11 #[] w fun e w' => e = .returned (.bool true) ∧ Below w.heap.size w w' := by
  have HM : Hk (MayP 1 1 1) := ⟨by unfold MayP; omega⟩
  go_enter Try.func11, Try.ntmps11
  go_upto_region 2 with (go_at_call 8; (with_reducible refine (pnew_yes 1 1 1 _ HM.out).mono ?_); rintro e z ⟨q, rfl, ho, hab, hs, hb⟩; have HB0 := Hk.mk hb; have HD := Hk.mk ho.d; have HA := Hk.mk hab; have HS := Hk.mk hs; clear ho hab hs hb)
  have HP : Hk (Bk (z.alloc (.cells #[.int .i64 q.i, .int .i64 q.n, .int .i64 q.d, .int .i64 q.t, .int .i64 q.s, .slice q.ma q.mn q.mc, .slice q.la q.ln q.lc, .slice q.ha q.hn q.hc, .slice q.aa q.an q.ac, .slice q.xa q.xn q.xc, .bool q.b] 28)) z.heap.size #[.int .i64 q.i, .int .i64 q.n, .int .i64 q.d, .int .i64 q.t, .int .i64 q.s, .slice q.ma q.mn q.mc, .slice q.la q.ln q.lc, .slice q.ha q.hn q.hc, .slice q.aa q.an q.ac, .slice q.xa q.xn q.xc, .bool q.b]) := ⟨Bk.new z #[.int .i64 q.i, .int .i64 q.n, .int .i64 q.d, .int .i64 q.t, .int .i64 q.s, .slice q.ma q.mn q.mc, .slice q.la q.ln q.lc, .slice q.ha q.hn q.hc, .slice q.aa q.an q.ac, .slice q.xa q.xn q.xc, .bool q.b] 28⟩
  have HB : Hk (Below w.heap.size w (z.alloc (.cells #[.int .i64 q.i, .int .i64 q.n, .int .i64 q.d, .int .i64 q.t, .int .i64 q.s, .slice q.ma q.mn q.mc, .slice q.la q.ln q.lc, .slice q.ha q.hn q.hc, .slice q.aa q.an q.ac, .slice q.xa q.xn q.xc, .bool q.b] 28))) := ⟨HB0.out.alloc HB0.out.size _⟩
  have HDV : Hk (PvD (z.alloc (.cells #[.int .i64 q.i, .int .i64 q.n, .int .i64 q.d, .int .i64 q.t, .int .i64 q.s, .slice q.ma q.mn q.mc, .slice q.la q.ln q.lc, .slice q.ha q.hn q.hc, .slice q.aa q.an q.ac, .slice q.xa q.xn q.xc, .bool q.b] 28)) (z.alloc (.cells #[.int .i64 q.i, .int .i64 q.n, .int .i64 q.d, .int .i64 q.t, .int .i64 q.s, .slice q.ma q.mn q.mc, .slice q.la q.ln q.lc, .slice q.ha q.hn q.hc, .slice q.aa q.an q.ac, .slice q.xa q.xn q.xc, .bool q.b] 28)).heap.size q) := ⟨HD.out.later ((Below.refl _ _).alloc (Nat.le_refl _) _)⟩
  obtain ⟨PQ, hpq⟩ : ∃ PQ, z.heap.size = PQ := ⟨_, rfl⟩
  rw [hpq] at HP ⊢
  clear HB0 HD HM hpq
  generalize (z.alloc (.cells #[.int .i64 q.i, .int .i64 q.n, .int .i64 q.d, .int .i64 q.t, .int .i64 q.s, .slice q.ma q.mn q.mc, .slice q.la q.ln q.lc, .slice q.ha q.hn q.hc, .slice q.aa q.an q.ac, .slice q.xa q.xn q.xc, .bool q.b] 28)) = V at *
  have c0 := HP.out.c 0; have c1 := HP.out.c 1; have c2 := HP.out.c 2; have c3 := HP.out.c 3; have c4 := HP.out.c 4; have c5 := HP.out.c 5; have c6 := HP.out.c 6; have c7 := HP.out.c 7; have c8 := HP.out.c 8; have c9 := HP.out.c 9; have c10 := HP.out.c 10
  have cl := HP.out.lt
  simp at c0 c1 c2 c3 c4 c5 c6 c7 c8 c9 c10
  have HK : Hk (OkP q.ab) := ⟨by rw [HA.out]; exact beg_one⟩
  have HR : Hk (q.t < 1099511627776 ∧ q.t ≤ minL q.hl) := ⟨by
    have e1 : q.t = 0 := congrArg Pm.t HA.out
    have e2 : q.hl = [0] := congrArg Pm.h HA.out
    rw [e1, e2]
    decide⟩
  have HE : Hk (abI q.ll = []) := ⟨congrArg Pm.l HA.out⟩
  clear HA z
  go_wp2_with (first
    | (go_at_call 16; (with_reducible refine (pready_yes q _ HDV.out HS.out HK.out HR.out).mono ?_); rintro e z ⟨a2, c2, M, rfl, ho, hab, hb⟩; have hm0 : M = [] := (by rw [HE.out] at hab; exact List.map_eq_nil_iff.1 hab); subst hm0; have HB2 := Hk.mk (HB.out.trans (hb.mono HB.out.size)); clear ho hab hb)
    | (go_at_call 9; (with_reducible refine (num28_any _ _).mono ?_); rintro e z2 ⟨rfl, hz⟩; rw [hz]; clear hz z2))
  go_ret
  exact ⟨rfl, HB2.out⟩
end Go.Proofs.Ytdpblimhfmfbnaa
/- What type a block is of: so two blocks are told apart. -/
namespace Go.Proofs.Ytdpblimhfmfbnaa
open Go.RowKit
/-- The block is one of cells of this type. -/
structure Ty (w : World) (P : Nat) (T : TypeId) : Prop where
  ex : ∃ cs fr, w.heap[P]? = some (.cells cs T fr)
theorem Ty.lt {w : World} {P : Nat} {T : TypeId} (h : Ty w P T) : P < w.heap.size := by
  obtain ⟨cs, fr, h⟩ := h.ex; exact lt_of_block h
theorem Ty.new (w : World) (cs : Array Value) (T : TypeId) : Ty (w.alloc (.cells cs T)) w.heap.size T := ⟨cs, _, heap_alloc_new w _⟩
theorem Ty.of_block {w w' : World} {P : Nat} {T : TypeId} (h : Ty w P T) (e : w'.heap[P]? = w.heap[P]?) : Ty w' P T := by
  obtain ⟨cs, fr, h⟩ := h.ex; exact ⟨cs, fr, by rw [e]; exact h⟩
theorem Ty.al {w : World} {P : Nat} {T : TypeId} (h : Ty w P T) (o : Obj) : Ty (w.alloc o) P T := h.of_block (Below.heap_alloc w o P h.lt)
theorem Ty.below {w w' : World} {P : Nat} {T : TypeId} (h : Ty w P T) (hb : Below w.heap.size w w') : Ty w' P T := h.of_block (hb.block P h.lt)
theorem Ty.set {w : World} {P : Nat} {T : TypeId} (h : Ty w P T) (p : Addr) (v : Value) : Ty (w.setCell p v) P T := by
  by_cases e : P = p.block
  · subst e
    have hlt := h.lt
    obtain ⟨cs, fr, h⟩ := h.ex
    have h' : w.heap[p.block] = .cells cs T fr := by simpa [Array.getElem?_eq_getElem hlt] using h
    refine ⟨(if p.spot.isSome then cs else cs.setIfInBounds p.off v), fr, ?_⟩
    show (w.heap.modify p.block _)[p.block]? = _
    rw [Array.getElem?_eq_getElem (by simpa using hlt), Array.getElem_modify_self, h']
  · exact h.of_block (Below.heap_setCell _ _ _ _ e)
theorem Ty.grown {w w' : World} {P : Nat} {T : TypeId} {row : Option Nat} (h : Ty w P T) (hg : w.grownBy w' row) (hne : row ≠ some P) : Ty w' P T := h.of_block (hg.block P h.lt (fun e => hne e.symm))
theorem Bk.grown {w w' : World} {P : Nat} {cs : Array Value} {row : Option Nat} (h : Bk w P cs) (hg : w.grownBy w' row) (hne : row ≠ some P) : Bk w' P cs := by
  have hlt := h.lt
  obtain ⟨T, h⟩ := h.bl; exact ⟨T, by rw [hg.block P hlt (fun e => hne e.symm)]; exact h⟩
/-- A row of the call's own lies in a block of its own type. -/
theorem row_ty_ne {w : World} {base size n P : Nat} {e T : TypeId} {v : Value} {xs : List Value} (h : w.ownsRow base e size v n xs) (ht : Ty w P T) (hT : T ≠ e) : v.ownBlock ≠ some P := by
  intro hb
  rcases h.2 with ⟨rfl, _⟩ | ⟨g, cap, cur, rfl, _, hh, _⟩
  · cases hb
  · simp [Value.ownBlock] at hb
    subst hb
    obtain ⟨cs, fr, h2⟩ := ht.ex
    rw [hh] at h2
    simp at h2
    exact hT h2.2.1.symm
end Go.Proofs.Ytdpblimhfmfbnaa
/- The reference's New. -/
namespace Go.Proofs.Ytdpblimhfmfbnaa
open Go.ChangeShapes Go.WideShapes Go.ChangeAt Go.RowKit Go.Deep
set_option linter.unusedVariables false
set_option linter.unusedSimpArgs false
theorem info_i64p : (Try.prog.info? 3).map (fun i => (i.zero, i.size, i.bytes)) = some (some (.int .i64 0), 1, 8) := by kernel_rfl
set_option maxRecDepth 100000 in
set_option maxHeartbeats 3200000 in
theorem rnew_any (i d : Int) (k : Nat) (w : World) (h1 : 1 ≤ d) (h2 : d ≤ 8) (k8 : k ≤ 8) :
    Calls Try.prog 7 #[.int .i64 i, .int .i64 (k : Int), .int .i64 d] w fun e z => ∃ q : Pv, e = .returned (.agg #[.int .i64 q.i, .int .i64 q.n, .int .i64 q.d, .int .i64 q.t, .int .i64 q.s, .slice q.ma q.mn q.mc, .slice q.la q.ln q.lc, .slice q.ha q.hn q.hc, .slice q.aa q.an q.ac, .slice q.xa q.xn q.xc, .bool q.b]) ∧ PvO z w.heap.size q ∧ q.ab = begP i k d ∧ PvS q ∧ Below w.heap.size w z := by
  have gd : IntKind.i64.wrap (d - 1) = d - 1 := wr27 (by omega) (by omega)
  go_enter Try.func7, Try.ntmps7
  go_upto_region 2 with fail
  have HB : Hk (Below w.heap.size w ((w.alloc (.cells #[.int .i64 0, .int .i64 0, .int .i64 0, .int .i64 0, .int .i64 0, .slice none 0 0, .slice none 0 0, .slice none 0 0, .slice none 0 0, .slice none 0 0, .bool false] 28)).alloc (.cells #[.int .i64 i, .int .i64 k, .int .i64 d, .int .i64 0, .int .i64 (d - 1), .slice none 0 0, .slice none 0 0, (.slice none 0 0), (.slice none 0 0), .slice none 0 0, .bool false] 28))) := ⟨((Below.refl _ _).alloc (Nat.le_refl _) _).alloc (by simp) _⟩
  have HZ : Hk (Bk ((w.alloc (.cells #[.int .i64 0, .int .i64 0, .int .i64 0, .int .i64 0, .int .i64 0, .slice none 0 0, .slice none 0 0, .slice none 0 0, .slice none 0 0, .slice none 0 0, .bool false] 28)).alloc (.cells #[.int .i64 i, .int .i64 k, .int .i64 d, .int .i64 0, .int .i64 (d - 1), .slice none 0 0, .slice none 0 0, (.slice none 0 0), (.slice none 0 0), .slice none 0 0, .bool false] 28)) w.heap.size #[.int .i64 0, .int .i64 0, .int .i64 0, .int .i64 0, .int .i64 0, .slice none 0 0, .slice none 0 0, .slice none 0 0, .slice none 0 0, .slice none 0 0, .bool false]) := ⟨(Bk.new w #[.int .i64 0, .int .i64 0, .int .i64 0, .int .i64 0, .int .i64 0, .slice none 0 0, .slice none 0 0, .slice none 0 0, .slice none 0 0, .slice none 0 0, .bool false] 28).al _⟩
  have HX : Hk (Bk ((w.alloc (.cells #[.int .i64 0, .int .i64 0, .int .i64 0, .int .i64 0, .int .i64 0, .slice none 0 0, .slice none 0 0, .slice none 0 0, .slice none 0 0, .slice none 0 0, .bool false] 28)).alloc (.cells #[.int .i64 i, .int .i64 k, .int .i64 d, .int .i64 0, .int .i64 (d - 1), .slice none 0 0, .slice none 0 0, (.slice none 0 0), (.slice none 0 0), .slice none 0 0, .bool false] 28)) ((w.heap.size + 1)) #[.int .i64 i, .int .i64 k, .int .i64 d, .int .i64 0, .int .i64 (d - 1), .slice none 0 0, .slice none 0 0, (.slice none 0 0), (.slice none 0 0), .slice none 0 0, .bool false]) := ⟨by have := Bk.new (w.alloc (.cells #[.int .i64 0, .int .i64 0, .int .i64 0, .int .i64 0, .int .i64 0, .slice none 0 0, .slice none 0 0, .slice none 0 0, .slice none 0 0, .slice none 0 0, .bool false] 28)) #[.int .i64 i, .int .i64 k, .int .i64 d, .int .i64 0, .int .i64 (d - 1), .slice none 0 0, .slice none 0 0, (.slice none 0 0), (.slice none 0 0), .slice none 0 0, .bool false] 28; simpa using this⟩
  have HS : Hk (w.heap.size + 2 ≤ ((w.alloc (.cells #[.int .i64 0, .int .i64 0, .int .i64 0, .int .i64 0, .int .i64 0, .slice none 0 0, .slice none 0 0, .slice none 0 0, .slice none 0 0, .slice none 0 0, .bool false] 28)).alloc (.cells #[.int .i64 i, .int .i64 k, .int .i64 d, .int .i64 0, .int .i64 (d - 1), .slice none 0 0, .slice none 0 0, (.slice none 0 0), (.slice none 0 0), .slice none 0 0, .bool false] 28)).heap.size) := ⟨by simp⟩
  generalize ((w.alloc (.cells #[.int .i64 0, .int .i64 0, .int .i64 0, .int .i64 0, .int .i64 0, .slice none 0 0, .slice none 0 0, .slice none 0 0, .slice none 0 0, .slice none 0 0, .bool false] 28)).alloc (.cells #[.int .i64 i, .int .i64 k, .int .i64 d, .int .i64 0, .int .i64 (d - 1), .slice none 0 0, .slice none 0 0, (.slice none 0 0), (.slice none 0 0), .slice none 0 0, .bool false] 28)) = V at *
  obtain ⟨ii, hii, hiz0, hiz1, hiz2⟩ := info_parts info_i64p
  go_wp2
  go_loopw [8] (fun x wr => ∃ (j : Nat) (ha : Option Addr) (hc : Nat) (aa : Option Addr) (ac : Nat), x = .int .i64 j ∧ j ≤ k ∧ Hk (Bk wr ((w.heap.size + 1)) #[.int .i64 i, .int .i64 k, .int .i64 d, .int .i64 0, .int .i64 (d - 1), .slice none 0 0, .slice none 0 0, (.slice ha j hc), (.slice aa j ac), .slice none 0 0, .bool false]) ∧ Hk (Bk wr w.heap.size #[.int .i64 0, .int .i64 0, .int .i64 0, .int .i64 0, .int .i64 0, .slice none 0 0, .slice none 0 0, .slice none 0 0, .slice none 0 0, .slice none 0 0, .bool false]) ∧ Hk (Tw wr (w.heap.size + 2) (.slice ha j hc) (.slice aa j ac) j j (d - 1)) ∧ Hk (Below w.heap.size w wr) ∧ Hk (w.heap.size + 2 ≤ wr.heap.size)) (fun x _ => k - (intOf x).toNat)
  case atStart => exact ⟨0, none, 0, none, 0, rfl, Nat.zero_le _, HX, HZ, ⟨Tw.nil _ _ _⟩, HB, HS⟩
  case round =>
    clear HX HZ HB HS
    obtain ⟨j, ha, hc, aa, ac, rfl, hj, HX, HZ, HT, HB, HS⟩ := hrel
    by_cases hlt : j < k
    · have i2 : (j : Int) < (k : Int) := by omega
      have i3 : decide ((j : Int) < (k : Int)) = true := by rw [decide_eq_true_iff]; exact i2
      have gj : IntKind.i64.wrap ((j : Int) + 1) = ((j + 1 : Nat) : Int) := by push_cast; exact wr27 (by omega) (by omega)
      have x7 := HX.out.c 7; have x8 := HX.out.c 8; have xl := HX.out.lt; simp at x7 x8
      go_upto_region 6 with (at_builtin; ((refine wpList_append_own_at _ rfl _ _ 25 rfl (w.heap.size + 2) 3 ii (.int .i64 0) 1 8 Try.underlying25 hii hiz0 hiz1 hiz2 rfl (by decide) _ j _ rfl (HT.out.a.alloc _) ⟨(wr).heap.size, 0, none⟩ 1 1 [.int .i64 (d - 1)] rfl rfl (one_new wr _ _) (one_it (d - 1)) (by unfold maxLen; omega) (by omega) (by have := HS.out; simp; omega) ?_); intro v8 z8 hown8 hgrow8 hnil8 hat8; have HT8 := Hk.mk (HT.out.step1 hown8 hgrow8 hat8); have HX8 := Hk.mk ((HX.out.al _).grown hgrow8 (by intro e; have := (HT.out.a.lt _ e).1; omega)); have HZ8 := Hk.mk ((HZ.out.al _).grown hgrow8 (by intro e; have := (HT.out.a.lt _ e).1; omega)); have HB8 : Hk (Below w.heap.size w z8) := ⟨(HB.out.alloc HB.out.size _).grown hgrow8 (by have := HB.out.size; simp; omega) (fun q hq => by have := (HT.out.a.lt q hq).1; omega)⟩; have HS8 : Hk (w.heap.size + 2 ≤ z8.heap.size) := ⟨by have h1 := HS.out; have h2 := ((Below.refl (w.heap.size + 2) wr).alloc h1 (.cells #[.int .i64 (d - 1)] 3)).grown hgrow8 (by simp; omega) (fun q hq => (HT.out.a.lt q hq).1); have h3 := h2.size; omega⟩; obtain ⟨a8, c8, _, _, e8, _⟩ := HT8.out.form; (first | rw [e8] at HT8 ⊢ | rw [e9] at HT8 ⊢); clear hown8 hgrow8 hnil8 hat8; have x7 := HX8.out.c 7; have x8 := HX8.out.c 8; have g7 := HX8.out.f 7; have g8 := HX8.out.f 8; have xl := HX8.out.lt; simp at x7 x8))
      have HF8 : Hk (Fr (fun q => q < w.heap.size + 2) z8 (z8.setCell ⟨(w.heap.size + 1), 7, none⟩ (.slice a8 (j + 1) c8))) := ⟨Fr.setCell (p := ⟨(w.heap.size + 1), 7, none⟩) (Fr.refl _ z8) (fun _ => by show (w.heap.size + 1) < w.heap.size + 2; omega) _⟩
      have HT9 := Hk.mk (HT8.out.fr HF8.out (fun q hq => hq))
      have HX9 : Hk (Bk (z8.setCell ⟨(w.heap.size + 1), 7, none⟩ (.slice a8 (j + 1) c8)) ((w.heap.size + 1)) #[.int .i64 i, .int .i64 k, .int .i64 d, .int .i64 0, .int .i64 (d - 1), .slice none 0 0, .slice none 0 0, (.slice a8 (j + 1) c8), (.slice aa j ac), .slice none 0 0, .bool false]) := ⟨HX8.out.set 7 (.slice a8 (j + 1) c8)⟩
      have HZ9 : Hk (Bk (z8.setCell ⟨(w.heap.size + 1), 7, none⟩ (.slice a8 (j + 1) c8)) w.heap.size #[.int .i64 0, .int .i64 0, .int .i64 0, .int .i64 0, .int .i64 0, .slice none 0 0, .slice none 0 0, .slice none 0 0, .slice none 0 0, .slice none 0 0, .bool false]) := ⟨HZ8.out.oth (by omega) 7 _⟩
      have HB9 : Hk (Below w.heap.size w (z8.setCell ⟨(w.heap.size + 1), 7, none⟩ (.slice a8 (j + 1) c8))) := ⟨HB8.out.setCell (p := ⟨(w.heap.size + 1), 7, none⟩) (by show w.heap.size ≤ (w.heap.size + 1); omega) _⟩
      have HS9 : Hk (w.heap.size + 2 ≤ (z8.setCell ⟨(w.heap.size + 1), 7, none⟩ (.slice a8 (j + 1) c8)).heap.size) := ⟨by have := HS8.out; simpa using this⟩
      clear HX HZ HB HS HT x7 x8 xl HX8 HZ8 HB8 HS8 HT8 HF8 g7 g8
      generalize (z8.setCell ⟨(w.heap.size + 1), 7, none⟩ (.slice a8 (j + 1) c8)) = V9 at *
      obtain ⟨HX, HZ, HT, HB, HS⟩ : Hk (Bk V9 ((w.heap.size + 1)) #[.int .i64 i, .int .i64 k, .int .i64 d, .int .i64 0, .int .i64 (d - 1), .slice none 0 0, .slice none 0 0, (.slice a8 (j + 1) c8), (.slice aa j ac), .slice none 0 0, .bool false]) ∧ Hk (Bk V9 w.heap.size #[.int .i64 0, .int .i64 0, .int .i64 0, .int .i64 0, .int .i64 0, .slice none 0 0, .slice none 0 0, .slice none 0 0, .slice none 0 0, .slice none 0 0, .bool false]) ∧ Hk (Tw V9 (w.heap.size + 2) (.slice a8 (j + 1) c8) (.slice aa j ac) (j + 1) j (d - 1)) ∧ Hk (Below w.heap.size w V9) ∧ Hk (w.heap.size + 2 ≤ V9.heap.size) := ⟨HX9, HZ9, HT9, HB9, HS9⟩
      clear HX9 HZ9 HT9 HB9 HS9
      have x7 := HX.out.c 7; have x8 := HX.out.c 8; have xl := HX.out.lt; simp at x7 x8
      clear z8
      go_wp2_with (at_builtin; ((refine wpList_append_own_at _ rfl _ _ 25 rfl (w.heap.size + 2) 3 ii (.int .i64 0) 1 8 Try.underlying25 hii hiz0 hiz1 hiz2 rfl (by decide) _ j _ rfl (HT.out.b.alloc _) ⟨(V9).heap.size, 0, none⟩ 1 1 [.int .i64 (d - 1)] rfl rfl (one_new V9 _ _) (one_it (d - 1)) (by unfold maxLen; omega) (by omega) (by have := HS.out; simp; omega) ?_); intro v8 z8 hown8 hgrow8 hnil8 hat8; have HT8 := Hk.mk (HT.out.step2 hown8 hgrow8 hat8); have HX8 := Hk.mk ((HX.out.al _).grown hgrow8 (by intro e; have := (HT.out.b.lt _ e).1; omega)); have HZ8 := Hk.mk ((HZ.out.al _).grown hgrow8 (by intro e; have := (HT.out.b.lt _ e).1; omega)); have HB8 : Hk (Below w.heap.size w z8) := ⟨(HB.out.alloc HB.out.size _).grown hgrow8 (by have := HB.out.size; simp; omega) (fun q hq => by have := (HT.out.b.lt q hq).1; omega)⟩; have HS8 : Hk (w.heap.size + 2 ≤ z8.heap.size) := ⟨by have h1 := HS.out; have h2 := ((Below.refl (w.heap.size + 2) V9).alloc h1 (.cells #[.int .i64 (d - 1)] 3)).grown hgrow8 (by simp; omega) (fun q hq => (HT.out.b.lt q hq).1); have h3 := h2.size; omega⟩; obtain ⟨_, _, a9, c9, _, e9⟩ := HT8.out.form; (first | rw [e8] at HT8 ⊢ | rw [e9] at HT8 ⊢); clear hown8 hgrow8 hnil8 hat8; have x7 := HX8.out.c 7; have x8 := HX8.out.c 8; have g7 := HX8.out.f 7; have g8 := HX8.out.f 8; have xl := HX8.out.lt; simp at x7 x8))
      have HF9 : Hk (Fr (fun q => q < w.heap.size + 2) z8 (z8.setCell ⟨(w.heap.size + 1), 8, none⟩ (.slice a9 (j + 1) c9))) := ⟨Fr.setCell (p := ⟨(w.heap.size + 1), 8, none⟩) (Fr.refl _ z8) (fun _ => by show (w.heap.size + 1) < w.heap.size + 2; omega) _⟩
      exact ⟨⟨j + 1, a8, c8, a9, c9, by push_cast; rfl, by omega, ⟨HX8.out.set 8 (.slice a9 (j + 1) c9)⟩, ⟨HZ8.out.oth (by omega) 8 _⟩, ⟨HT8.out.fr HF9.out (fun q hq => hq)⟩, ⟨HB8.out.setCell (p := ⟨(w.heap.size + 1), 8, none⟩) (by show w.heap.size ≤ (w.heap.size + 1); omega) _⟩, ⟨by have := HS8.out; simpa using this⟩⟩, by simp only [intOf]; omega⟩
    · have hjk : k = j := by omega
      subst hjk
      have i3 : decide ((k : Int) < (k : Int)) = false := by rw [decide_eq_false_iff_not]; omega
      have z0 := HZ.out.c 0; have q0 := HZ.out.f 0; have z1 := HZ.out.c 1; have q1 := HZ.out.f 1; have z2 := HZ.out.c 2; have q2 := HZ.out.f 2; have z3 := HZ.out.c 3; have q3 := HZ.out.f 3; have z4 := HZ.out.c 4; have q4 := HZ.out.f 4; have z5 := HZ.out.c 5; have q5 := HZ.out.f 5; have z6 := HZ.out.c 6; have q6 := HZ.out.f 6; have z7 := HZ.out.c 7; have q7 := HZ.out.f 7; have z8 := HZ.out.c 8; have q8 := HZ.out.f 8; have z9 := HZ.out.c 9; have q9 := HZ.out.f 9; have z10 := HZ.out.c 10; have q10 := HZ.out.f 10; have x0 := HX.out.c 0; have x1 := HX.out.c 1; have x2 := HX.out.c 2; have x3 := HX.out.c 3; have x4 := HX.out.c 4; have x5 := HX.out.c 5; have x6 := HX.out.c 6; have x7 := HX.out.c 7; have x8 := HX.out.c 8; have x9 := HX.out.c 9; have x10 := HX.out.c 10; have hzl := HZ.out.lt; have hxl := HX.out.lt; simp at z0 x0 z1 x1 z2 x2 z3 x3 z4 x4 z5 x5 z6 x6 z7 x7 z8 x8 z9 x9 z10 x10
      go_wp2
      refine bodyPost_ret (v := .agg #[.int .i64 i, .int .i64 k, .int .i64 d, .int .i64 0, .int .i64 (d - 1), .slice none 0 0, .slice none 0 0, (.slice ha k hc), (.slice aa k ac), .slice none 0 0, .bool false]) (by simp [results, Try.results7, go_sem, z0, z1, z2, z3, z4, z5, z6, z7, z8, z9, z10]) rfl ⟨⟨i, k, d, 0, d - 1, none, 0, 0, [], none, 0, 0, [], ha, k, hc, List.replicate k (d - 1), aa, k, ac, List.replicate k (d - 1), none, 0, 0, [], false⟩, rfl, ⟨OwN.nil _ _, OwN.nil _ _, ?_, ?_, Ow.nil _ _⟩, rfl, ⟨SmI.nil, SmI.nil, ?_, ?_, Nat.zero_le _⟩, ?_⟩
      · exact (HT.out.fr (by refine Fr.setCell (p := ⟨w.heap.size, 10, none⟩) ?_ (fun _ => by show w.heap.size < (w.heap.size + 2); omega) _; refine Fr.setCell (p := ⟨w.heap.size, 9, none⟩) ?_ (fun _ => by show w.heap.size < (w.heap.size + 2); omega) _; refine Fr.setCell (p := ⟨w.heap.size, 8, none⟩) ?_ (fun _ => by show w.heap.size < (w.heap.size + 2); omega) _; refine Fr.setCell (p := ⟨w.heap.size, 7, none⟩) ?_ (fun _ => by show w.heap.size < (w.heap.size + 2); omega) _; refine Fr.setCell (p := ⟨w.heap.size, 6, none⟩) ?_ (fun _ => by show w.heap.size < (w.heap.size + 2); omega) _; refine Fr.setCell (p := ⟨w.heap.size, 5, none⟩) ?_ (fun _ => by show w.heap.size < (w.heap.size + 2); omega) _; refine Fr.setCell (p := ⟨w.heap.size, 4, none⟩) ?_ (fun _ => by show w.heap.size < (w.heap.size + 2); omega) _; refine Fr.setCell (p := ⟨w.heap.size, 3, none⟩) ?_ (fun _ => by show w.heap.size < (w.heap.size + 2); omega) _; refine Fr.setCell (p := ⟨w.heap.size, 2, none⟩) ?_ (fun _ => by show w.heap.size < (w.heap.size + 2); omega) _; refine Fr.setCell (p := ⟨w.heap.size, 1, none⟩) ?_ (fun _ => by show w.heap.size < (w.heap.size + 2); omega) _; refine Fr.setCell (p := ⟨w.heap.size, 0, none⟩) ?_ (fun _ => by show w.heap.size < (w.heap.size + 2); omega) _; exact Fr.refl _ _ : Fr (fun j => j < (w.heap.size + 2)) wr _) (fun j hj => hj)).o1.weak (by omega)
      · exact (HT.out.fr (by refine Fr.setCell (p := ⟨w.heap.size, 10, none⟩) ?_ (fun _ => by show w.heap.size < (w.heap.size + 2); omega) _; refine Fr.setCell (p := ⟨w.heap.size, 9, none⟩) ?_ (fun _ => by show w.heap.size < (w.heap.size + 2); omega) _; refine Fr.setCell (p := ⟨w.heap.size, 8, none⟩) ?_ (fun _ => by show w.heap.size < (w.heap.size + 2); omega) _; refine Fr.setCell (p := ⟨w.heap.size, 7, none⟩) ?_ (fun _ => by show w.heap.size < (w.heap.size + 2); omega) _; refine Fr.setCell (p := ⟨w.heap.size, 6, none⟩) ?_ (fun _ => by show w.heap.size < (w.heap.size + 2); omega) _; refine Fr.setCell (p := ⟨w.heap.size, 5, none⟩) ?_ (fun _ => by show w.heap.size < (w.heap.size + 2); omega) _; refine Fr.setCell (p := ⟨w.heap.size, 4, none⟩) ?_ (fun _ => by show w.heap.size < (w.heap.size + 2); omega) _; refine Fr.setCell (p := ⟨w.heap.size, 3, none⟩) ?_ (fun _ => by show w.heap.size < (w.heap.size + 2); omega) _; refine Fr.setCell (p := ⟨w.heap.size, 2, none⟩) ?_ (fun _ => by show w.heap.size < (w.heap.size + 2); omega) _; refine Fr.setCell (p := ⟨w.heap.size, 1, none⟩) ?_ (fun _ => by show w.heap.size < (w.heap.size + 2); omega) _; refine Fr.setCell (p := ⟨w.heap.size, 0, none⟩) ?_ (fun _ => by show w.heap.size < (w.heap.size + 2); omega) _; exact Fr.refl _ _ : Fr (fun j => j < (w.heap.size + 2)) wr _) (fun j hj => hj)).o2.weak (by omega)
      · show k ≤ 1048576
        omega
      · show k ≤ 1048576
        omega
      · refine Below.setCell ?_ (p := ⟨w.heap.size, 10, none⟩) (by show w.heap.size ≤ w.heap.size; omega) _; refine Below.setCell ?_ (p := ⟨w.heap.size, 9, none⟩) (by show w.heap.size ≤ w.heap.size; omega) _; refine Below.setCell ?_ (p := ⟨w.heap.size, 8, none⟩) (by show w.heap.size ≤ w.heap.size; omega) _; refine Below.setCell ?_ (p := ⟨w.heap.size, 7, none⟩) (by show w.heap.size ≤ w.heap.size; omega) _; refine Below.setCell ?_ (p := ⟨w.heap.size, 6, none⟩) (by show w.heap.size ≤ w.heap.size; omega) _; refine Below.setCell ?_ (p := ⟨w.heap.size, 5, none⟩) (by show w.heap.size ≤ w.heap.size; omega) _; refine Below.setCell ?_ (p := ⟨w.heap.size, 4, none⟩) (by show w.heap.size ≤ w.heap.size; omega) _; refine Below.setCell ?_ (p := ⟨w.heap.size, 3, none⟩) (by show w.heap.size ≤ w.heap.size; omega) _; refine Below.setCell ?_ (p := ⟨w.heap.size, 2, none⟩) (by show w.heap.size ≤ w.heap.size; omega) _; refine Below.setCell ?_ (p := ⟨w.heap.size, 1, none⟩) (by show w.heap.size ≤ w.heap.size; omega) _; refine Below.setCell ?_ (p := ⟨w.heap.size, 0, none⟩) (by show w.heap.size ≤ w.heap.size; omega) _; exact HB.out
end Go.Proofs.Ytdpblimhfmfbnaa
/- The argument of PeerNews. -/
namespace Go.Proofs.Ytdpblimhfmfbnaa
open Go.ChangeShapes Go.WideShapes Go.ChangeAt Go.RowKit Go.Deep
set_option linter.unusedVariables false
set_option linter.unusedSimpArgs false
theorem three_of {H : Type} {enc : TypeId × Value → H} {w : World} {base : Nat} {spare : Nat → Bool} {held : Bool} {fuel : Nat} {x : DataW H × List MemPlace} {c0 c1 c2 : Value}
    (hf : DataW.trod enc Try.prog w base spare held fuel 23 [c0, c1, c2] = some x) : ∃ x y z : Int, c0 = .int .i64 x ∧ c1 = .int .i64 y ∧ c2 = .int .i64 z := by
  have h2 : Try.prog.cellsOf 3 = 1 := by kernel_rfl
  obtain ⟨ys, n', _, _, _, hyl, hg⟩ := DataW.trod_array Try.underlying23 hf
  match ys, hyl with
  | [y0, y1, y2], _ =>
    have g0 := hg 0 (by decide)
    have g1 := hg 1 (by decide)
    have g2 := hg 2 (by decide)
    simp [h2] at g0 g1 g2
    obtain ⟨x0, e0, _, w0⟩ := DataW.trod_int Try.underlying3 g0
    obtain ⟨x1, e1, _, w1⟩ := DataW.trod_int Try.underlying3 g1
    obtain ⟨x2, e2, _, w2⟩ := DataW.trod_int Try.underlying3 g2
    simp at e0 e1 e2
    exact ⟨x0, x1, x2, e0, e1, e2⟩
/-- A list of threes. -/
def Asks28 (w : World) (a0 : Option Addr) (len cap : Nat) : Prop :=
  len ≤ cap ∧ cap ≤ 9223372036854775807 ∧ ∀ i, i < len → ∃ (b off : Nat) (x y z : Int), a0 = some ⟨b, off, none⟩ ∧ b < w.heap.size ∧ w.cell? ⟨b, off + i * 3, none⟩ = some (.int .i64 x) ∧ w.cell? ⟨b, off + i * 3 + 1, none⟩ = some (.int .i64 y) ∧ w.cell? ⟨b, off + i * 3 + 2, none⟩ = some (.int .i64 z)
set_option maxRecDepth 100000 in
theorem asks28_of {H : Type} {enc : TypeId × Value → H} {w : World} {base : Nat} {held : Bool} {fuel : Nat} {x : DataW H × List MemPlace} {a : Option Addr} {len cap : Nat}
    (hf : DataW.trod enc Try.prog w base (fun _ => true) held fuel 22 [.slice a len cap] = some x) : Asks28 w a len cap := by
  rcases open_slice Try.underlying22 hf with ⟨hcs, _⟩ | ⟨a', l, c, m, n, D, Pl, hcs, _, hl, hm, hmm, _, hi⟩
  · simp at hcs
    obtain ⟨rfl, rfl, rfl⟩ := hcs
    exact ⟨Nat.le_refl _, by omega, fun i h => absurd h (by omega)⟩
  · simp at hcs
    obtain ⟨rfl, rfl, rfl⟩ := hcs
    refine ⟨hl, by unfold maxLen at hm; omega, fun i hlt => ?_⟩
    have hC : Try.prog.cellsOf 23 = 3 := by kernel_rfl
    obtain ⟨cs', hc, ht⟩ := hi i (by rw [hmm]; simp; omega)
    rw [hC] at hc
    obtain ⟨_, hcl, hat⟩ := World.cells?_some hc
    match cs', hcl with
    | [c0, c1, c2], _ =>
      obtain ⟨x, y, z, rfl, rfl, rfl⟩ := three_of ht
      have k0 := hat 0 (by omega)
      have k1 := hat 1 (by omega)
      have k2 := hat 2 (by omega)
      obtain ⟨b, off, spot⟩ := a'
      have hs : spot = none := by
        obtain ⟨cs2, hc2, _⟩ := hi 0 (by rw [hmm]; simp; omega)
        rw [hC] at hc2
        obtain ⟨_, hcl2, hat2⟩ := World.cells?_some hc2
        have h0 := hat2 0 (by omega)
        rw [List.getElem?_eq_getElem (by omega)] at h0
        simpa [Addr.add] using World.cell?_spot h0
      subst hs
      simp only [aq_plus, Nat.add_zero] at k0 k1 k2
      exact ⟨b, off, x, y, z, rfl, World.block_lt_of_cell? _ _ k0, k0, k1, k2⟩
/-- No peer. -/
def zeV : Pv := ⟨0, 0, 0, 0, 0, none, 0, 0, [], none, 0, 0, [], none, 0, 0, [], none, 0, 0, [], none, 0, 0, [], false⟩
def zeP : Pm := ⟨0, 0, 0, 0, 0, [], [], [], [], [], false⟩
theorem PvO.up {M : Nat → Prop} {w w' : World} {B : Nat} {p : Pv} (h : PvO w B p) (k : Fr M w w') (hm : ∀ j, B ≤ j → ¬ M j) : PvO w' B p :=
  ⟨h.m.up k hm, h.l.up k hm, Fr.owni h.h k fun j hj => hm j (h.h.lt j hj).1, Fr.owni h.a k fun j hj => hm j (h.a.lt j hj).1, Ow.fr h.x k fun j hj => hm j (h.x.lt j hj).1⟩
theorem zeV_o (w : World) (B : Nat) : PvO w B zeV := ⟨OwN.nil _ _, OwN.nil _ _, ⟨rfl, rfl, Or.inl ⟨rfl, rfl⟩⟩, ⟨rfl, rfl, Or.inl ⟨rfl, rfl⟩⟩, Ow.nil _ _⟩
theorem zeV_d (w : World) : PvD w w.heap.size zeV := (zeV_o w 0).d
theorem zeV_s : PvS zeV := ⟨SmI.nil, SmI.nil, Nat.zero_le _, Nat.zero_le _, Nat.zero_le _⟩
/-- What New answers: a peer's beginning, or none and a number. -/
def NewP (i n d : Int) (W0 : Pm) (e0 : Int) : Prop := (MayP i n d ∧ W0 = begP i n d ∧ e0 = 0) ∨ (¬ MayP i n d ∧ W0 = zeP ∧ e0 = 1)
set_option maxRecDepth 100000 in
theorem pnew_u (i n d : Int) (W0 : Pm) (e0 : Int) (w : World) (H : NewP i n d W0 e0) :
    Calls Try.prog 8 #[.int .i64 i, .int .i64 n, .int .i64 d] w fun e z => ∃ q : Pv, e = .returned (.tuple #[.agg #[.int .i64 q.i, .int .i64 q.n, .int .i64 q.d, .int .i64 q.t, .int .i64 q.s, .slice q.ma q.mn q.mc, .slice q.la q.ln q.lc, .slice q.ha q.hn q.hc, .slice q.aa q.an q.ac, .slice q.xa q.xn q.xc, .bool q.b], .int .i64 e0]) ∧ PvD z z.heap.size q ∧ q.ab = W0 ∧ PvS q ∧ Below w.heap.size w z := by
  rcases H with ⟨h, rfl, rfl⟩ | ⟨h, rfl, rfl⟩
  · refine (pnew_yes i n d w h).mono fun e z hz => ?_
    obtain ⟨q, rfl, ho, ha, hs, hb⟩ := hz
    exact ⟨q, rfl, ho.d, ha, hs, hb⟩
  · refine (pnew_no i n d w h).mono fun e z hz => ?_
    obtain ⟨rfl, hb⟩ := hz
    exact ⟨zeV, rfl, zeV_d z, rfl, zeV_s, hb⟩
end Go.Proofs.Ytdpblimhfmfbnaa
