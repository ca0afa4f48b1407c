/- Package command: Check. -/
import Derived.Test.YtkffleclofkjmaaCmb
namespace Go.Proofs.Ytkffleclofkjmaa
open Go.RowKit
set_option linter.unusedVariables false
theorem rz {a b : Int} (h : a = b) : Ending.returned (.int .i64 a) = .returned (.int .i64 b) := by rw [h]
set_option maxRecDepth 100000 in
set_option maxHeartbeats 3200000 in
theorem check22_as (z : Int) (p s k n : Int) (a : Option Addr) (m c : Nat) (u : List Int) (t wd h x y : Int) (w : World) (hN : Nq w w.heap.size a m u) (hm : m ≤ 1099511627776) (E : Hk ((if okC p s k ⟨n, u, t, wd, h, x, y⟩ then (0 : Int) else 1) = z)) :
    Calls Try.prog 18 #[.agg #[.int .i64 p, .int .i64 s, .int .i64 k, .int .i64 n, .slice a m c, .int .i64 t, .int .i64 wd, .int .i64 h, .int .i64 x, .int .i64 y]] w fun e w' => e = .returned (.int .i64 z) ∧ Below w.heap.size w w' := by
  have HN := Hk.mk hN
  clear hN
  have HBX := Hk.mk (CmB.box w p s k n a m c t wd h x y)
  have HBW : Hk (Below w.heap.size w (w.alloc (.cells #[.int .i64 p, .int .i64 s, .int .i64 k, .int .i64 n, .slice a m c, .int .i64 t, .int .i64 wd, .int .i64 h, .int .i64 x, .int .i64 y] 28))) := ⟨(Below.refl _ _).alloc (Nat.le_refl _) _⟩
  by_cases hk : k < 1 ∨ 7 < k
  · have R : Hk ((1 : Int) = z) := ⟨by rw [← E.out]; unfold okC; rw [partsL_none hk]; simp⟩
    clear E
    go_enter Try.func18, Try.ntmps18
    go_wp2_with (go_at_call 30; (with_reducible refine (parts_no k _ hk).mono ?_); rintro e w' ⟨rfl, rfl⟩)
    go_ret
    exact ⟨rz R.out, HBW.out⟩
  have hk1 : 1 ≤ k := by omega
  have hk2 : k ≤ 7 := by omega
  clear hk
  by_cases g0 : ¬ (1 ≤ p)
  · have b0 : decide (p < 1) = true := by simp; omega
    have R : Hk ((1 : Int) = z) := ⟨by rw [← E.out, show okC p s k ⟨n, u, t, wd, h, x, y⟩ = false by unfold okC baseB; simp; omega]; rfl⟩
    clear E
    go_enter Try.func18, Try.ntmps18
    go_wp2_with (go_at_call 30; (with_reducible refine (parts_any k _ hk1 hk2).mono ?_); rintro e w1 ⟨b, nn, L, rfl, hL, hlen, hnq, hb1, hbb, hlt, -⟩; (obtain rfl : b = w.heap.size + 1 := by simpa using hbb); clear hbb; have HX := Hk.mk (HBX.out.below hb1 (by simp)); have HL := Hk.mk hL; have HQ := Hk.mk hnq; have HB1 := Hk.mk hb1; have hn1 : 1 ≤ nn := (by have := partsL_some hk1 hk2; rw [hL, hlen] at this; exact this); have hn2 : nn ≤ 2 := (by have := (partsL_bd k).1; rw [hL, hlen] at this; exact this); have z0 : ((nn : Int) == 0) = false := (by simp; omega); clear hL hlen hnq hb1; have d0 := HX.out.c0; have d1 := HX.out.c1)
    go_ret
    exact ⟨rz R.out, HBW.out.trans (HB1.out.mono (by simp))⟩
  have b0 : decide (p < 1) = false := by simp; omega
  by_cases g1 : ¬ (p ≤ 8)
  · have b1 : decide (8 < p) = true := by simp; omega
    have R : Hk ((1 : Int) = z) := ⟨by rw [← E.out, show okC p s k ⟨n, u, t, wd, h, x, y⟩ = false by unfold okC baseB; simp; omega]; rfl⟩
    clear E
    go_enter Try.func18, Try.ntmps18
    go_wp2_with (go_at_call 30; (with_reducible refine (parts_any k _ hk1 hk2).mono ?_); rintro e w1 ⟨b, nn, L, rfl, hL, hlen, hnq, hb1, hbb, hlt, -⟩; (obtain rfl : b = w.heap.size + 1 := by simpa using hbb); clear hbb; have HX := Hk.mk (HBX.out.below hb1 (by simp)); have HL := Hk.mk hL; have HQ := Hk.mk hnq; have HB1 := Hk.mk hb1; have hn1 : 1 ≤ nn := (by have := partsL_some hk1 hk2; rw [hL, hlen] at this; exact this); have hn2 : nn ≤ 2 := (by have := (partsL_bd k).1; rw [hL, hlen] at this; exact this); have z0 : ((nn : Int) == 0) = false := (by simp; omega); clear hL hlen hnq hb1; have d0 := HX.out.c0; have d1 := HX.out.c1)
    go_ret
    exact ⟨rz R.out, HBW.out.trans (HB1.out.mono (by simp))⟩
  have b1 : decide (8 < p) = false := by simp; omega
  by_cases g2 : ¬ (0 ≤ s)
  · have b2 : decide (s < 0) = true := by simp; omega
    have R : Hk ((1 : Int) = z) := ⟨by rw [← E.out, show okC p s k ⟨n, u, t, wd, h, x, y⟩ = false by unfold okC baseB; simp; omega]; rfl⟩
    clear E
    go_enter Try.func18, Try.ntmps18
    go_wp2_with (go_at_call 30; (with_reducible refine (parts_any k _ hk1 hk2).mono ?_); rintro e w1 ⟨b, nn, L, rfl, hL, hlen, hnq, hb1, hbb, hlt, -⟩; (obtain rfl : b = w.heap.size + 1 := by simpa using hbb); clear hbb; have HX := Hk.mk (HBX.out.below hb1 (by simp)); have HL := Hk.mk hL; have HQ := Hk.mk hnq; have HB1 := Hk.mk hb1; have hn1 : 1 ≤ nn := (by have := partsL_some hk1 hk2; rw [hL, hlen] at this; exact this); have hn2 : nn ≤ 2 := (by have := (partsL_bd k).1; rw [hL, hlen] at this; exact this); have z0 : ((nn : Int) == 0) = false := (by simp; omega); clear hL hlen hnq hb1; have d0 := HX.out.c0; have d1 := HX.out.c1)
    go_ret
    exact ⟨rz R.out, HBW.out.trans (HB1.out.mono (by simp))⟩
  have b2 : decide (s < 0) = false := by simp; omega
  by_cases g3 : ¬ (s ≤ 1099511627776)
  · have b3 : decide (1099511627776 < s) = true := by simp; omega
    have R : Hk ((1 : Int) = z) := ⟨by rw [← E.out, show okC p s k ⟨n, u, t, wd, h, x, y⟩ = false by unfold okC baseB; simp; omega]; rfl⟩
    clear E
    go_enter Try.func18, Try.ntmps18
    go_wp2_with (go_at_call 30; (with_reducible refine (parts_any k _ hk1 hk2).mono ?_); rintro e w1 ⟨b, nn, L, rfl, hL, hlen, hnq, hb1, hbb, hlt, -⟩; (obtain rfl : b = w.heap.size + 1 := by simpa using hbb); clear hbb; have HX := Hk.mk (HBX.out.below hb1 (by simp)); have HL := Hk.mk hL; have HQ := Hk.mk hnq; have HB1 := Hk.mk hb1; have hn1 : 1 ≤ nn := (by have := partsL_some hk1 hk2; rw [hL, hlen] at this; exact this); have hn2 : nn ≤ 2 := (by have := (partsL_bd k).1; rw [hL, hlen] at this; exact this); have z0 : ((nn : Int) == 0) = false := (by simp; omega); clear hL hlen hnq hb1; have d0 := HX.out.c0; have d1 := HX.out.c1)
    go_ret
    exact ⟨rz R.out, HBW.out.trans (HB1.out.mono (by simp))⟩
  have b3 : decide (1099511627776 < s) = false := by simp; omega
  obtain ⟨r, hr⟩ : ∃ r, chkL (partsL k) ⟨n, u, t, wd, h, x, y⟩ = r := ⟨_, rfl⟩
  have R : Hk ((if r then (0 : Int) else 1) = z) := ⟨by
    rw [← E.out, ← hr]; unfold okC
    rw [show baseB p s = true by unfold baseB; simp; omega, show (partsL k).isEmpty = false by have := partsL_some hk1 hk2; cases hp : partsL k <;> simp_all]; rfl⟩
  have ER := Hk.mk hr
  clear hr E g0 g1 g2 g3
  go_enter Try.func18, Try.ntmps18
  go_wp2_with (go_at_call 30; (with_reducible refine (parts_any k _ hk1 hk2).mono ?_); rintro e w1 ⟨b, nn, L, rfl, hL, hlen, hnq, hb1, hbb, hlt, -⟩; (obtain rfl : b = w.heap.size + 1 := by simpa using hbb); clear hbb; have HX := Hk.mk (HBX.out.below hb1 (by simp)); have HL := Hk.mk hL; have HQ := Hk.mk hnq; have HB1 := Hk.mk hb1; have hn1 : 1 ≤ nn := (by have := partsL_some hk1 hk2; rw [hL, hlen] at this; exact this); have hn2 : nn ≤ 2 := (by have := (partsL_bd k).1; rw [hL, hlen] at this; exact this); have z0 : ((nn : Int) == 0) = false := (by simp; omega); clear hL hlen hnq hb1; have d0 := HX.out.c0; have d1 := HX.out.c1)
  have ER2 : Hk (chkL L ⟨n, u, t, wd, h, x, y⟩ = r) := ⟨by rw [← HL.out]; exact ER.out⟩
  have HLB : Hk (L.length = nn ∧ ∀ q ∈ L, 0 ≤ q ∧ q ≤ 5) := ⟨⟨HQ.out.len, by rw [← HL.out]; exact (partsL_bd k).2⟩⟩
  have HN1 : Hk (Nq w1 w.heap.size a m u) := ⟨(HN.out.below HBW.out (Nat.le_refl _)).below HB1.out (by simp)⟩
  have HB2 : Hk (Below w.heap.size w w1) := ⟨HBW.out.trans (HB1.out.mono (by simp))⟩
  clear d0 d1 HB1 HL ER HN HBX b0 b1 b2 b3 z0
  go_loopw [34] (fun i wr => ∃ (j : Nat) (n' : Int) (a' : Option Addr) (m' c' : Nat) (u' : List Int) (t' wd' h' x' y' : Int), i = .int .i64 j ∧ j ≤ nn ∧ m' ≤ m ∧ Hk (CmB wr w.heap.size p s k n' a' m' c' t' wd' h' x' y') ∧ Hk (Nq wr w.heap.size a' m' u') ∧ Hk (chkL (L.drop j) ⟨n', u', t', wd', h', x', y'⟩ = r) ∧ Hk (Below w.heap.size w wr) ∧ Hk (Nq wr wr.heap.size (some ⟨w.heap.size + 1, 0, none⟩) nn L)) (fun i _ => nn - (intOf i).toNat)
  case atStart => exact ⟨0, n, a, m, c, u, t, wd, h, x, y, rfl, by omega, by omega, HX, HN1, ⟨by simpa using ER2.out⟩, HB2, HQ⟩
  case round =>
    clear HX HN1 HB2 HQ ER2 hlt
    obtain ⟨j, n', a', m', c', u', t', wd', h', x', y', rfl, hj, hmm, HX, HN1, ER, HB, HQ⟩ := hrel
    obtain ⟨c0, c1, c2, c3, c4, c5, c6, c7, c8, c9, -⟩ := HX.out
    have hbs : w.heap.size + 1 < wr.heap.size := by
      have := HQ.out.rd (by omega)
      obtain ⟨b', off', e, h1, -⟩ := this
      injection e with e; injection e with e1 e2; omega
    by_cases hlt : j < nn
    · have i1 : (0 : Int) ≤ (j : Int) := by omega
      have i2 : (j : Int) < (nn : Int) := by omega
      obtain ⟨b', off', eb, -, hc⟩ := HQ.out.rd (by omega)
      injection eb with eb
      injection eb with eb1 eb2
      subst eb1 eb2
      have hq := hc j hlt
      simp only [Nat.zero_add] at hq
      clear hc
      have hr := ER.out
      rw [drop_getD (by rw [HLB.out.1]; exact hlt), chkL] at hr
      obtain ⟨q0, q5⟩ := HLB.out.2 _ (getD_mem (by rw [HLB.out.1]; exact hlt))
      generalize L.getD j 0 = q at *
      have HNV := Hk.mk (HN1.out.mono (show w.heap.size ≤ wr.heap.size from HB.out.size))
      cases hv : vB q ⟨n', u', t', wd', h', x', y'⟩
      case false =>
        have V := Hk.mk hv
        have R2 : Hk ((1 : Int) = z) := ⟨by rw [← R.out, ← hr, hv]; rfl⟩
        clear hv hr
        go_wp2_with (go_at_call 38; (with_reducible refine (valid_as false q p s k n' a' m' c' u' t' wd' h' x' y' _ q0 q5 HNV.out (by omega) V).mono ?_); rintro e w2 ⟨rfl, hb2⟩; have HB2 := Hk.mk hb2; clear hb2)
        go_ret
        exact ⟨rz R2.out, HB.out.trans (HB2.out.mono HB.out.size)⟩
      case true =>
        have V := Hk.mk hv
        have R2 : Hk (chkL (L.drop (j + 1)) (eC q ⟨n', u', t', wd', h', x', y'⟩) = r) := ⟨by rw [← hr, hv]; rfl⟩
        have hws : w.heap.size < wr.heap.size := World.block_lt_of_cell? _ _ c0
        clear hv hr
        go_wp2_with (first | (go_at_call 38; (with_reducible refine (valid_as true q p s k n' a' m' c' u' t' wd' h' x' y' _ q0 q5 HNV.out (by omega) V).mono ?_); rintro e w2 ⟨rfl, hb2⟩; have HB2 := Hk.mk hb2; clear hb2 c0 c1 c2 c3 c4 c5 c6 c7 c8 c9; have HX2 := Hk.mk (HX.out.below HB2.out hws); have HN2 := Hk.mk (HN1.out.below HB2.out (Nat.le_of_lt hws))) | (go_at_call 39; (with_reducible refine (empty_any q w.heap.size p s k n' a' m' c' u' t' wd' h' x' y' _ q0 q5 HX2.out HN2.out).mono ?_); rintro e w3 ⟨n2, a2, m2, c2, u2, t2, wd2, h2, x2, y2, rfl, hX3, hE3, hN3, hm3, hF3, hs3⟩; have HX3 := Hk.mk hX3; have HN3 := Hk.mk hN3; have HF3 := Hk.mk hF3; have HE3 := Hk.mk hE3; have HS3 := Hk.mk hs3; clear hX3 hN3 hF3 hE3 hs3))
        go_roundw
        case rel =>
          have hb3 : Below w.heap.size w2 w3 := HF3.out.below (Nat.le_trans HB.out.size HB2.out.size) (fun j _ e => Nat.le_of_eq e.symm)
          refine ⟨j + 1, n2, a2, m2, c2, u2, t2, wd2, h2, x2, y2, by go_num, by omega, by omega, HX3, HN3, ⟨by rw [← HE3.out]; exact R2.out⟩, ⟨(HB.out.trans (HB2.out.mono HB.out.size)).trans hb3⟩, ⟨HQ.out.len, fun hn => ?_⟩⟩
          obtain ⟨b', off', e, h1, h2⟩ := HQ.out.rd hn
          injection e with e
          injection e with e1 e2
          subst e1 e2
          have := HF3.out.size
          have := HB2.out.size
          refine ⟨_, _, rfl, by omega, fun i hi => ?_⟩
          rw [HF3.out.cell (by omega) (by omega)]
          exact (HB2.out.cell (p := ⟨_, _, none⟩) (by omega)).trans (h2 i hi)
        case measure => simp [intOf]; omega
    · have hjn : j = nn := by omega
      subst hjn
      have hr := ER.out
      rw [List.drop_of_length_le (by rw [HLB.out.1]; omega), chkL] at hr
      have hl0 := HN1.out.len
      clear HN1 ER HX HQ
      have FAIL : remB ⟨n', u', t', wd', h', x', y'⟩ = false → Hk ((1 : Int) = z) := fun h0 => ⟨by rw [← R.out, ← hr, h0]; rfl⟩
      have PASS : remB ⟨n', u', t', wd', h', x', y'⟩ = true → Hk ((0 : Int) = z) := fun h0 => ⟨by rw [← R.out, ← hr, h0]; rfl⟩
      clear hr
      by_cases en : n' = 0
      case neg =>
        have R2 := FAIL (by unfold remB; simp; intros; omega)
        clear FAIL PASS
        have f0 : (n' == 0) = false := by simp; omega
        have f1 : (n' != 0) = true := by simp; omega
        go_wp2
        go_ret
        exact ⟨rz R2.out, HB.out⟩
      subst en
      by_cases em : m' = 0
      case neg =>
        have R2 := FAIL (by unfold remB; simp; intro h0; rw [h0] at hl0; simp at hl0; omega)
        clear FAIL PASS hl0
        have f0 : decide ((0 : Int) < (m' : Int)) = true := by simp; omega
        go_wp2
        go_ret
        exact ⟨rz R2.out, HB.out⟩
      subst em
      obtain rfl : u' = [] := List.eq_nil_of_length_eq_zero hl0
      by_cases et : t' = 0
      case neg =>
        have R2 := FAIL (by unfold remB; simp; intros; omega)
        clear FAIL PASS
        have f0 : (t' == 0) = false := by simp; omega
        have f1 : (t' != 0) = true := by simp; omega
        go_wp2
        go_ret
        exact ⟨rz R2.out, HB.out⟩
      subst et
      by_cases ewd : wd' = 0
      case neg =>
        have R2 := FAIL (by unfold remB; simp; intros; omega)
        clear FAIL PASS
        have f0 : (wd' == 0) = false := by simp; omega
        have f1 : (wd' != 0) = true := by simp; omega
        go_wp2
        go_ret
        exact ⟨rz R2.out, HB.out⟩
      subst ewd
      by_cases eh : h' = 0
      case neg =>
        have R2 := FAIL (by unfold remB; simp; intros; omega)
        clear FAIL PASS
        have f0 : (h' == 0) = false := by simp; omega
        have f1 : (h' != 0) = true := by simp; omega
        go_wp2
        go_ret
        exact ⟨rz R2.out, HB.out⟩
      subst eh
      by_cases e1 : x' = 0
      case neg =>
        have R2 := FAIL (by unfold remB; simp; intros; omega)
        clear FAIL PASS
        have f0 : (x' == 0) = false := by simp; omega
        have f1 : (x' != 0) = true := by simp; omega
        go_wp2
        go_ret
        exact ⟨rz R2.out, HB.out⟩
      subst e1
      by_cases e2 : y' = 0
      case neg =>
        have R2 := FAIL (by unfold remB; simp; intros; omega)
        clear FAIL PASS
        have f0 : (y' == 0) = false := by simp; omega
        have f1 : (y' != 0) = true := by simp; omega
        go_wp2
        go_ret
        exact ⟨rz R2.out, HB.out⟩
      subst e2
      have R2 := PASS (by decide)
      clear FAIL PASS
      go_wp2
      go_ret
      exact ⟨rz R2.out, HB.out⟩
end Go.Proofs.Ytkffleclofkjmaa
