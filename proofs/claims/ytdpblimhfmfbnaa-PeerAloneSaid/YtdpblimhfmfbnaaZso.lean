import Derived.Deep.QuietTactic
import Derived.BigQuiet
import Derived.Deep.RegionWith
import Derived.Deep.RegionHeld3
import Derived.Deep.DeepCutAuto
import Derived.Deep.DeepFit
import Derived.Outline
import Derived.Test.YtdpblimhfmfbnaaZsn
set_option linter.unusedVariables false
set_option linter.unusedSimpArgs false
namespace Go.Proofs.Ytdpblimhfmfbnaa
open Go.ChangeShapes Go.WideShapes Go.ChangeAt Go.RowKit Go.Deep
def okL (p : Int) : Int → List Cm → Bool
 | _, [] => true
 | last, c :: cs => (okC c.p c.s c.k c.f && (decide (c.p = p) && decide (last < c.s))) && okL p c.s cs
structure BdN (t p : Int) (n : Nat) : Prop where
 t1 : 0 ≤ t
 t2 : t ≤ 1099511627776
 p1 : 1 ≤ p
 p2 : p ≤ 8
 n : n ≤ 64
def okN (i : In) : Bool := decide (0 ≤ i.t ∧ i.t ≤ 1099511627776 ∧ 1 ≤ i.p ∧ i.p ≤ 8 ∧ i.l.length ≤ 64) && okL i.p (-1) i.l
theorem okN_no {t p : Int} {l : List Cv} (h : ¬ BdN t p l.length) : okN ⟨t, p, abC l⟩ = false := by
 unfold okN
 rw [decide_eq_false (fun e => h ⟨e.1, e.2.1, e.2.2.1, e.2.2.2.1, by have := e.2.2.2.2; rwa [abC_len] at this⟩)]; rfl
theorem okN_bd {t p : Int} {l : List Cv} (h : BdN t p l.length) : okN ⟨t, p, abC l⟩ = okL p (-1) (abC l) := by
 unfold okN
 rw [decide_eq_true (show _ from ⟨h.t1, h.t2, h.p1, h.p2, by rw [abC_len]; exact h.n⟩)]; rfl
theorem drop_consC {l : List Cv} {k : Nat} (h : k < l.length) : l.drop k = l.getD k default :: l.drop (k + 1) := by rw [List.drop_eq_getElem_cons h]; simp [List.getD, h]
theorem okL_drop {p last : Int} {l : List Cv} {k : Nat} (h : k < l.length) : okL p last (abC (l.drop k)) = ((okC (l.getD k default).p (l.getD k default).s (l.getD k default).k (l.getD k default).f && (decide ((l.getD k default).p = p) && decide (last < (l.getD k default).s))) && okL p (l.getD k default).s (abC (l.drop (k + 1)))) := by
 rw [drop_consC h]; rfl
set_option maxRecDepth 100000 in
set_option maxHeartbeats 3200000 in
theorem tcheck_as (z0 : Int) (t p : Int) (a : Option Addr) (n c : Nat) (l : List Cv) (w : World) (h : CmD w w.heap.size a n l) (hs : SmC l) (E : Hk ((if okN ⟨t, p, abC l⟩ then (0 : Int) else 1) = z0)) :
  Calls Try.prog 47 #[.agg #[.int .i64 t, .int .i64 p, .slice a n c]] w fun e w' => e = .returned (.int .i64 z0) ∧ Below w.heap.size w w' := by
 have HWB : Hk (Below w.heap.size w (w.alloc (.cells #[.int .i64 t, .int .i64 p, .slice a n c] 55))) := ⟨(Below.refl _ _).alloc (Nat.le_refl _) _⟩
 have hNW : (w.heap.size + 1) ≤ (w.alloc (.cells #[.int .i64 t, .int .i64 p, .slice a n c] 55)).heap.size := by simp
 have HB : Hk (Below (w.heap.size + 1) (w.alloc (.cells #[.int .i64 t, .int .i64 p, .slice a n c] 55)) (w.alloc (.cells #[.int .i64 t, .int .i64 p, .slice a n c] 55))) := ⟨Below.refl _ _⟩
 have HTR : Hk (∀ X, Below (w.heap.size + 1) (w.alloc (.cells #[.int .i64 t, .int .i64 p, .slice a n c] 55)) X → Below w.heap.size w X) := ⟨fun X hX => HWB.out.trans (hX.mono (by omega))⟩
 have HH := Hk.mk h
 have hlen := h.q.len
 have HL := Hk.mk hlen
 have HS := Hk.mk hs
 have hn20 : n ≤ 1048576 := by have := hs.n; omega
 have PB : Hk ((w.alloc (.cells #[.int .i64 t, .int .i64 p, .slice a n c] 55)).cell? ⟨w.heap.size, 1, none⟩ = some (.int .i64 p)) := ⟨(Bk.new w #[.int .i64 t, .int .i64 p, .slice a n c] 55).c 1⟩
 clear h hs
 by_cases hbd : BdN t p n
 case neg =>
  have R : Hk ((1 : Int) = z0) := ⟨by rw [← E.out, okN_no (by rw [hlen]; exact hbd)]; rfl⟩
  clear E
  cases b0 : decide (t < 0)
  ·cases b1 : decide (1099511627776 < t)
   ·cases b2 : decide (p < 1)
    ·cases b3 : decide (8 < p)
     ·have b4 : decide (64 < (n : Int)) = true := by
       rw [decide_eq_true_iff]
       have h0 := of_decide_eq_false b0
       have h1 := of_decide_eq_false b1
       have h2 := of_decide_eq_false b2
       have h3 := of_decide_eq_false b3
       apply Classical.byContradiction
       intro h4
       exact hbd ⟨by omega, by omega, by omega, by omega, by omega⟩
      have b4n : decide (64 < n) = true := by rw [decide_eq_true_iff] at b4 ⊢; omega
      clear hbd
      go_enter Try.func47, Try.ntmps47
      go_wp2
      go_ret
      exact ⟨rz R.out, HWB.out⟩
     ·clear hbd
      go_enter Try.func47, Try.ntmps47
      go_wp2
      go_ret
      exact ⟨rz R.out, HWB.out⟩
    ·clear hbd
     go_enter Try.func47, Try.ntmps47
     go_wp2
     go_ret
     exact ⟨rz R.out, HWB.out⟩
   ·clear hbd
    go_enter Try.func47, Try.ntmps47
    go_wp2
    go_ret
    exact ⟨rz R.out, HWB.out⟩
  ·clear hbd
   go_enter Try.func47, Try.ntmps47
   go_wp2
   go_ret
   exact ⟨rz R.out, HWB.out⟩
 case pos =>
  have b0 : decide (t < 0) = false := by have := hbd.t1; rw [decide_eq_false_iff_not]; omega
  have b1 : decide (1099511627776 < t) = false := by have := hbd.t2; rw [decide_eq_false_iff_not]; omega
  have b2 : decide (p < 1) = false := by have := hbd.p1; rw [decide_eq_false_iff_not]; omega
  have b3 : decide (8 < p) = false := by have := hbd.p2; rw [decide_eq_false_iff_not]; omega
  have b4 : decide (64 < (n : Int)) = false := by have := hbd.n; rw [decide_eq_false_iff_not]; omega
  have b4n : decide (64 < n) = false := by have := hbd.n; rw [decide_eq_false_iff_not]; omega
  have ER : Hk ((if okL p (-1) (abC (l.drop 0)) then (0 : Int) else 1) = z0) := ⟨by rw [← E.out, okN_bd (by rw [hlen]; exact hbd)]; rfl⟩
  clear E hbd
  go_enter Try.func47, Try.ntmps47
  go_wp2
  clear b0 b1 b2 b3 b4 b4n
  obtain ⟨wo, hwo⟩ : ∃ wo : World, wo = (w.alloc (.cells #[.int .i64 t, .int .i64 p, .slice a n c] 55)) := ⟨_, rfl⟩
  go_loopw [3, 33] (fun ll i wr => ∃ (k : Nat) (last : Int), ll = .int .i64 last ∧ i = .int .i64 k ∧ k ≤ n ∧ Hk ((if okL p last (abC (l.drop k)) then (0 : Int) else 1) = z0) ∧ Hk (Below (w.heap.size + 1) (w.alloc (.cells #[.int .i64 t, .int .i64 p, .slice a n c] 55)) wr)) (fun _ i _ => n - (intOf i).toNat)
  case atStart => exact ⟨0, -1, rfl, rfl, Nat.zero_le _, ER, HB⟩
  case round =>
   clear ER HB hwo wo
   obtain ⟨k, last, rfl, rfl, hk, ER, HB⟩ := hrel
   by_cases hlt : k < n
   ·obtain ⟨b, off, rfl, hbl, ⟨p0, p1, p2, p3, p4, p5, p6, p7, p8, p9⟩, hnq⟩ := (HH.out.below (HTR.out _ HB.out) (Nat.le_refl _)).ten hlt
    have hkl : k < l.length := by rw [HL.out]; exact hlt
    have hm := HS.out.m _ (getD_memC hkl)
    have hok := okL_drop (p := p) (last := last) hkl
    generalize l.getD k default = q at *
    have HNQ : Hk (Nq (wr.alloc (.cells (jkC q.p q.s q.k q.n q.a q.m q.c q.t q.w q.h q.x q.y) 50)) (wr.alloc (.cells (jkC q.p q.s q.k q.n q.a q.m q.c q.t q.w q.h q.x q.y) 50)).heap.size q.a q.m q.u) := ⟨(hnq.mono (HTR.out _ HB.out).size).below ((Below.refl _ _).alloc (Nat.le_refl _) (.cells (jkC q.p q.s q.k q.n q.a q.m q.c q.t q.w q.h q.x q.y) 50)) (Nat.le_refl _) |>.mono (by simp)⟩
    have HM : Hk (q.m ≤ 1099511627776) := ⟨by omega⟩
    have t0 : (0 : Int) ≤ (k : Int) := by omega
    have t1 : (k : Int) < (n : Int) := by omega
    have HLT := Hk.mk hlt
    have gk : IntKind.i64.wrap ((k : Int) + 1) = ((k + 1 : Nat) : Int) := by push_cast; exact wr27 (by omega) (by omega)
    have hes := ER.out
    rw [hok] at hes
    have hbx : w.heap.size < wr.heap.size := Nat.lt_of_lt_of_le (Nat.lt_succ_self _) (kw_size HB.out hNW)
    clear hnq hm hkl hok hlt hk ER hlen
    cases hv : okC q.p q.s q.k q.f
    ·have EQ : Hk ((if okC q.p q.s q.k ⟨q.n, q.u, q.t, q.w, q.h, q.x, q.y⟩ then (0 : Int) else 1) = 1) := ⟨by rw [show (⟨q.n, q.u, q.t, q.w, q.h, q.x, q.y⟩ : CF) = q.f from rfl, hv]; rfl⟩
     have R : Hk ((1 : Int) = z0) := ⟨by rw [← hes, hv]; rfl⟩
     clear hes hv
     as_aux_lemma =>
      go_wp2_with (go_at_call 63; (with_reducible refine (check22_as 1 q.p q.s q.k q.n q.a q.m q.c q.u q.t q.w q.h q.x q.y _ HNQ.out HM.out EQ).mono ?_); rintro e z ⟨rfl, hb⟩; have HB2 : Hk (Below (w.heap.size + 1) (w.alloc (.cells #[.int .i64 t, .int .i64 p, .slice (some ⟨b, off, none⟩) n c] 55)) z) := ⟨kw_step (HB.out.alloc (kw_size HB.out hNW) (.cells (jkC q.p q.s q.k q.n q.a q.m q.c q.t q.w q.h q.x q.y) 50)) hNW hb⟩; have hx := (Bk.new wr (jkC q.p q.s q.k q.n q.a q.m q.c q.t q.w q.h q.x q.y) 50).below hb; have x0 := hx.c 0; have x1 := hx.c 1; have xl := hx.lt; have y1 := (HB2.out.cell (p := ⟨w.heap.size, 1, none⟩) (Nat.lt_succ_self _)).trans PB.out; have yl := World.block_lt_of_cell? _ _ y1; clear hb hx)
      go_ret
      exact ⟨rz R.out, HTR.out _ HB2.out⟩
    ·have EQ : Hk ((if okC q.p q.s q.k ⟨q.n, q.u, q.t, q.w, q.h, q.x, q.y⟩ then (0 : Int) else 1) = 0) := ⟨by rw [show (⟨q.n, q.u, q.t, q.w, q.h, q.x, q.y⟩ : CF) = q.f from rfl, hv]; rfl⟩
     rw [hv] at hes
     clear hv
     by_cases hp : q.p = p
     ·have hpb : (q.p != p) = false := by simp [hp]
      by_cases hl : last < q.s
      ·have hlb : decide (q.s ≤ last) = false := by rw [decide_eq_false_iff_not]; omega
       have ER2 : Hk ((if okL p q.s (abC (l.drop (k + 1))) then (0 : Int) else 1) = z0) := ⟨by rw [← hes, decide_eq_true hp, decide_eq_true hl]; rfl⟩
       clear hes hp hl
       as_aux_lemma =>
        go_wp2_with (go_at_call 63; (with_reducible refine (check22_as 0 q.p q.s q.k q.n q.a q.m q.c q.u q.t q.w q.h q.x q.y _ HNQ.out HM.out EQ).mono ?_); rintro e z ⟨rfl, hb⟩; have HB2 : Hk (Below (w.heap.size + 1) (w.alloc (.cells #[.int .i64 t, .int .i64 p, .slice (some ⟨b, off, none⟩) n c] 55)) z) := ⟨kw_step (HB.out.alloc (kw_size HB.out hNW) (.cells (jkC q.p q.s q.k q.n q.a q.m q.c q.t q.w q.h q.x q.y) 50)) hNW hb⟩; have hx := (Bk.new wr (jkC q.p q.s q.k q.n q.a q.m q.c q.t q.w q.h q.x q.y) 50).below hb; have x0 := hx.c 0; have x1 := hx.c 1; have xl := hx.lt; have y1 := (HB2.out.cell (p := ⟨w.heap.size, 1, none⟩) (Nat.lt_succ_self _)).trans PB.out; have yl := World.block_lt_of_cell? _ _ y1; clear hb hx)
        exact ⟨⟨k + 1, q.s, rfl, by go_num, HLT.out, ER2, HB2⟩, by first | exact nx_ms HLT.out | exact nx_ms' HLT.out⟩
      ·have hlb : decide (q.s ≤ last) = true := by rw [decide_eq_true_iff]; omega
       have R : Hk ((1 : Int) = z0) := ⟨by rw [← hes, decide_eq_true hp, decide_eq_false hl]; rfl⟩
       clear hes hp hl
       as_aux_lemma =>
        go_wp2_with (go_at_call 63; (with_reducible refine (check22_as 0 q.p q.s q.k q.n q.a q.m q.c q.u q.t q.w q.h q.x q.y _ HNQ.out HM.out EQ).mono ?_); rintro e z ⟨rfl, hb⟩; have HB2 : Hk (Below (w.heap.size + 1) (w.alloc (.cells #[.int .i64 t, .int .i64 p, .slice (some ⟨b, off, none⟩) n c] 55)) z) := ⟨kw_step (HB.out.alloc (kw_size HB.out hNW) (.cells (jkC q.p q.s q.k q.n q.a q.m q.c q.t q.w q.h q.x q.y) 50)) hNW hb⟩; have hx := (Bk.new wr (jkC q.p q.s q.k q.n q.a q.m q.c q.t q.w q.h q.x q.y) 50).below hb; have x0 := hx.c 0; have x1 := hx.c 1; have xl := hx.lt; have y1 := (HB2.out.cell (p := ⟨w.heap.size, 1, none⟩) (Nat.lt_succ_self _)).trans PB.out; have yl := World.block_lt_of_cell? _ _ y1; clear hb hx)
        go_ret
        exact ⟨rz R.out, HTR.out _ HB2.out⟩
     ·have hpb : (q.p != p) = true := by simp [hp]
      have R : Hk ((1 : Int) = z0) := ⟨by rw [← hes, decide_eq_false hp]; rfl⟩
      clear hes hp
      as_aux_lemma =>
       go_wp2_with (go_at_call 63; (with_reducible refine (check22_as 0 q.p q.s q.k q.n q.a q.m q.c q.u q.t q.w q.h q.x q.y _ HNQ.out HM.out EQ).mono ?_); rintro e z ⟨rfl, hb⟩; have HB2 : Hk (Below (w.heap.size + 1) (w.alloc (.cells #[.int .i64 t, .int .i64 p, .slice (some ⟨b, off, none⟩) n c] 55)) z) := ⟨kw_step (HB.out.alloc (kw_size HB.out hNW) (.cells (jkC q.p q.s q.k q.n q.a q.m q.c q.t q.w q.h q.x q.y) 50)) hNW hb⟩; have hx := (Bk.new wr (jkC q.p q.s q.k q.n q.a q.m q.c q.t q.w q.h q.x q.y) 50).below hb; have x0 := hx.c 0; have x1 := hx.c 1; have xl := hx.lt; have y1 := (HB2.out.cell (p := ⟨w.heap.size, 1, none⟩) (Nat.lt_succ_self _)).trans PB.out; have yl := World.block_lt_of_cell? _ _ y1; clear hb hx)
       go_ret
       exact ⟨rz R.out, HTR.out _ HB2.out⟩
   ·obtain rfl : k = n := by omega
    have R : Hk ((0 : Int) = z0) := ⟨by rw [← ER.out, List.drop_of_length_le (by rw [HL.out]; exact Nat.le_refl _)]; rfl⟩
    go_wp2
    go_ret
    exact ⟨rz R.out, HTR.out _ HB.out⟩
end Go.Proofs.Ytdpblimhfmfbnaa
