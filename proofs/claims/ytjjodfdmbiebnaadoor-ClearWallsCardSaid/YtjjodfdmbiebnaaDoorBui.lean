/- Layer 8: the reference's Covered. -/
import Derived.Test.YtjjodfdmbiebnaaDoorBuh
import Derived.Deep.QuietTactic
import Derived.BigQuiet
import Derived.Deep.RegionWith
import Derived.Deep.RegionHeld3
import Derived.Deep.DeepCutAuto
import Derived.Deep.DeepFit
import Derived.Outline
namespace Go.Proofs.YtjjodfdmbiebnaaDoor
open Go.RowKit
set_option linter.unusedVariables false
set_option linter.unusedSimpArgs false
theorem und_rc (W bi bo bx bY : Int) (wn hn r q : Nat) (hq : q < wn) : undAt W ⟨bi, bo, bx, bY, wn, hn⟩ (r * wn + q) = bx + q + W * (bY + r) := by
  unfold undAt
  simp only [Int.toNat_natCast]
  rw [Nat.mul_comm r wn, Nat.mul_add_mod, Nat.mod_eq_of_lt hq, Nat.mul_add_div (by omega), Nat.div_eq_of_lt hq, Nat.add_zero]
set_option maxRecDepth 100000 in
set_option maxHeartbeats 1600000 in
theorem rcov_any (W H : Int) (a : Option Addr) (n c : Nat) (xs : List Int) (la : Option Addr) (ln lc : Nat) (bs : List Bd) (w : World) (hb0 : Bq w w.heap.size la ln bs) (M : Hk (MOk W H n xs bs)) :
    Calls Tryd.prog 56 #[.agg #[.int .i64 W, .int .i64 H, .slice a n c], .slice la ln lc] w fun e w' => ∃ g, e = .returned (.slice (some ⟨g, 0, none⟩) n n) ∧ w.heap.size ≤ g ∧ Arr w' g n 4 (fun k => .bool (cvB W bs k)) ∧ Below w.heap.size w w' := by
  have HWB : Hk (Below w.heap.size w (w.alloc (.cells #[.int .i64 W, .int .i64 H, .slice a n c] 24))) := ⟨(Below.refl _ _).alloc (Nat.le_refl _) _⟩
  have hNW : w.heap.size + 1 ≤ (w.alloc (.cells #[.int .i64 W, .int .i64 H, .slice a n c] 24)).heap.size := by simp
  have HTR : Hk (∀ X, Below (w.heap.size + 1) (w.alloc (.cells #[.int .i64 W, .int .i64 H, .slice a n c] 24)) X → Below w.heap.size w X) := ⟨fun X hX => HWB.out.trans (hX.mono (by omega))⟩
  have HQ0 := Hk.mk hb0
  have HLN := Hk.mk hb0.len
  have hl256 : ln ≤ 256 := by have := M.out.len; rw [hb0.len] at this; exact this
  clear hb0
  have info_b : (Tryd.prog.info? 4).map (fun i => (i.zero, i.size, i.bytes)) = some (some (.bool false), 1, 1) := by kernel_rfl
  obtain ⟨i0, hi, hz0, hz1, hz2⟩ := info_parts info_b
  clear info_b
  have w1 := M.out.g.w1; have w2 := M.out.g.w2; have h1 := M.out.g.h1; have h2 := M.out.g.h2
  have hnn := M.out.g.nn
  obtain ⟨m1, m2⟩ := mul_bd w1 w2 h1 h2
  go_enter Tryd.func56, Tryd.ntmps56
  go_wp2_with (at_make; go_must (refine wpList_make_full _ rfl _ _ 51 rfl (w.heap.size + 1) 4 i0 (.bool false) 1 Tryd.underlying51 hi hz0 hz1 .i64 .i64 _ _ n rfl rfl hnn.symm hnn.symm (by rw [hz2]; omega) (by unfold maxLen; omega) hNW ?_); intro z1 hown hgrow)
  have HA : Hk (Arr z1 (w.heap.size + 1) n 4 (fun t => .bool (cvB W (bs.take 0) t))) := ⟨Arr.made (by simpa using hown) rfl⟩
  have HB : Hk (Below (w.heap.size + 1) (w.alloc (.cells #[.int .i64 W, .int .i64 H, .slice a n c] 24)) z1) := ⟨(below_grown hgrow).mono hNW⟩
  clear hown hgrow
  generalize hG : w.heap.size + 1 = G at HA HB ⊢
  have HGN : Hk (w.heap.size + 1 = G) := ⟨hG⟩
  have hNW : G ≤ (w.alloc (.cells #[.int .i64 W, .int .i64 H, .slice a n c] 24)).heap.size := by rw [← hG]; exact hNW
  have hwG : w.heap.size < G := by omega
  clear hG
  go_loopw [6] (fun i wr => ∃ k : Nat, i = .int .i64 k ∧ k ≤ ln ∧ Hk (Below G (w.alloc (.cells #[.int .i64 W, .int .i64 H, .slice a n c] 24)) wr) ∧ Hk (Arr wr G n 4 (fun t => .bool (cvB W (bs.take k) t)))) (fun i _ => ln - (intOf i).toNat)
  case atStart => exact ⟨0, rfl, Nat.zero_le _, HB, HA⟩
  case round =>
    clear HA HB
    obtain ⟨k, rfl, hk, HB, HA⟩ := hrel
    by_cases hlt : k < ln
    · obtain ⟨bb, off, rfl, hbl, p0, p1, p2, p3, p4, p5⟩ := HQ0.out.six hlt
      have hbG : bb < G := by have := HGN.out; omega
      have hmem : bs.getD k default ∈ bs := getD_memB (by rw [HLN.out]; exact hlt)
      have hfm := M.out.fm _ hmem
      have hin := M.out.ins _ hmem
      clear hmem p0 p1
      obtain ⟨b, hbd⟩ : ∃ b, bs.getD k default = b := ⟨_, rfl⟩
      rw [hbd] at p2 p3 p4 p5 hfm hin
      have HBD := Hk.mk hbd
      clear hbd
      obtain ⟨bi, bo, bx, bY, bw, bh⟩ := b
      obtain ⟨wn, rfl⟩ : ∃ wn : Nat, bw = wn := ⟨bw.toNat, by have := hfm.w1; simp only at this; omega⟩
      obtain ⟨hn, rfl⟩ : ∃ hn : Nat, bh = hn := ⟨bh.toNat, by have := hfm.h1; simp only at this; omega⟩
      have q1 := hfm.w1; have q2 := hfm.w2; have q3 := hfm.h1; have q4 := hfm.h2
      have q5 := hin.x1; have q6 := hin.x2; have q7 := hin.y1; have q8 := hin.y2
      simp only at q1 q2 q3 q4 q5 q6 q7 q8 p2 p3 p4 p5
      have FF := Hk.mk hfm
      have II := Hk.mk hin
      clear hfm hin
      have t0 : (0 : Int) ≤ (k : Int) := by omega
      have t1 : (k : Int) < (ln : Int) := by omega
      have wy : IntKind.i64.wrap (bY + (hn : Int)) = bY + (hn : Int) := by rw [IntKind.wrap_i64]; omega
      have wx : IntKind.i64.wrap (bx + (wn : Int)) = bx + (wn : Int) := by rw [IntKind.wrap_i64]; omega
      obtain ⟨hc, hf, hl, hn', hm⟩ := kw_rules HB.out hNW
      go_wp2_with fail
      clear hc hf hl hn' hm
      obtain ⟨wo, rfl⟩ : ∃ wo : World, wo = wr := ⟨wr, rfl⟩
      go_loopw [7] (fun s wr => ∃ r : Nat, s = .int .i64 (bY + r) ∧ r ≤ hn ∧ Hk (Below G (w.alloc (.cells #[.int .i64 W, .int .i64 H, .slice a n c] 24)) wr) ∧ Hk (Arr wr G n 4 (fun t => .bool (covJ W (bs.take k) ⟨bi, bo, bx, bY, wn, hn⟩ (r * wn) t)))) (fun s _ => (bY + hn - intOf s).toNat)
      case atStart => exact ⟨0, by simp, Nat.zero_le _, HB, ⟨HA.out.congr fun t _ => by rw [Nat.zero_mul, covJ_zero]⟩⟩
      case round =>
        clear HB HA
        obtain ⟨r, rfl, hr, HB, HA⟩ := hrel
        obtain ⟨hc, hf, hl, hn', hm⟩ := kw_rules HB.out hNW
        by_cases hrl : r < hn
        · have d1 : decide (bY + (r : Int) < bY + (hn : Int)) = true := by simp; omega
          have d1' : (r : Int) < (hn : Int) := by omega
          obtain ⟨P, hP⟩ : ∃ P, W * (bY + r) = P := ⟨_, rfl⟩
          have P0 : 0 ≤ P := by rw [← hP]; exact Int.mul_nonneg (by omega) (by omega)
          have P1 : P ≤ 16384 := by
            have := Int.mul_le_mul w2 (show bY + r ≤ 128 by omega) (by omega) (by omega)
            omega
          go_wp2_with fail
          go_quiet (fail)
          go_wp2_with fail
          clear hc hf hl hn' hm
          obtain ⟨wp, rfl⟩ : ∃ wp : World, wp = wr := ⟨wr, rfl⟩
          go_loopw [8] (fun s wr => ∃ q : Nat, s = .int .i64 (bx + q) ∧ q ≤ wn ∧ Hk (Below G (w.alloc (.cells #[.int .i64 W, .int .i64 H, .slice a n c] 24)) wr) ∧ Hk (Arr wr G n 4 (fun t => .bool (covJ W (bs.take k) ⟨bi, bo, bx, bY, wn, hn⟩ (r * wn + q) t)))) (fun s _ => (bx + wn - intOf s).toNat)
          case atStart => exact ⟨0, by simp, Nat.zero_le _, ⟨below_drewN HB.out _⟩, ⟨(HA.out.drewN _).congr fun t _ => rfl⟩⟩
          case round =>
            clear HB HA
            obtain ⟨q, rfl, hq, HB, HA⟩ := hrel
            obtain ⟨hc, hf, hl, hn', hm⟩ := kw_rules HB.out hNW
            by_cases hql : q < wn
            · have d2 : decide (bx + (q : Int) < bx + (wn : Int)) = true := by simp; omega
              have d2' : (q : Int) < (wn : Int) := by omega
              have hj : r * wn + q < wn * hn := by
                have := Nat.mul_le_mul_left wn (show r + 1 ≤ hn by omega)
                rw [Nat.mul_add, Nat.mul_one, Nat.mul_comm] at this
                omega
              have hu := und_md FF.out II.out (k := r * wn + q) (by simpa using hj)
              have he : undAt W ⟨bi, bo, bx, bY, wn, hn⟩ (r * wn + q) = bx + q + P := by rw [und_rc W bi bo bx bY wn hn r q hql, hP]
              obtain ⟨T, hT⟩ : ∃ T : Nat, bx + q + P = T := ⟨(bx + q + P).toNat, by omega⟩
              have hTn : T < n := by omega
              have HU : Hk (undAt W ⟨bi, bo, bx, bY, wn, hn⟩ (r * wn + q) = (T : Int) ∧ r * wn + q < wn * hn) := ⟨he.trans hT, hj⟩
              have T0 : (0 : Int) ≤ (T : Int) := by omega
              have T1 : (T : Int) < (n : Int) := by omega
              have a0 := HA.out.cell hTn
              have az := HA.out.frozen T
              clear hu he hj
              obtain ⟨cv, hcv⟩ : ∃ cv, covJ W (bs.take k) ⟨bi, bo, bx, bY, wn, hn⟩ (r * wn + q) T = cv := ⟨_, rfl⟩
              rw [hcv] at a0
              clear hcv
              go_wp2_with fail
              go_quiet (fail)
              go_wp2
              exact ⟨⟨q + 1, by go_num, by omega, ⟨Below.setCell (p := ⟨G, T, none⟩) (below_drewN HB.out _) (Nat.le_refl _) _⟩, ⟨((HA.out.drewN _).set hTn (.bool true)).congr fun t _ => by
                rw [← Nat.add_assoc, covJ_succ W (bs.take k) ⟨bi, bo, bx, bY, wn, hn⟩ (r * wn + q) t T (by simpa using HU.out.2) HU.out.1]
                by_cases e : t = T
                · rw [if_pos e, if_pos e]
                · rw [if_neg e, if_neg e]⟩⟩, by simp [intOf]; omega⟩
            · have hqw : q = wn := by omega
              subst hqw
              go_wp2_with fail
              go_quiet (fail)
              go_wp2
              exact ⟨⟨r + 1, by go_num, by omega, ⟨below_drewN HB.out _⟩, ⟨(HA.out.drewN _).congr fun t _ => by rw [Nat.add_mul, Nat.one_mul]⟩⟩, by simp [intOf]; omega⟩
        · have hrh : r = hn := by omega
          subst hrh
          go_wp2_with fail
          go_quiet (fail)
          go_wp2
          exact ⟨⟨k + 1, by go_num, by omega, ⟨below_drewN HB.out _⟩, ⟨(HA.out.drewN _).congr fun t _ => by
            have := covJ_full (bs.take k) (⟨bi, bo, bx, bY, wn, r⟩ : Bd) t FF.out II.out
            simp only [Int.toNat_natCast] at this
            rw [take_succB (by rw [HLN.out]; exact hlt), HBD.out, ← this, Nat.mul_comm]⟩⟩, by simp [intOf]; omega⟩
    · have hkn : k = ln := by omega
      subst hkn
      obtain ⟨hc, hf, hl, hn', hm⟩ := kw_rules HB.out hNW
      go_wp2
      go_ret
      refine ⟨G, rfl, by have := HGN.out; omega, HA.out.congr fun t _ => ?_, HTR.out _ (HB.out.mono (by have := HGN.out; omega))⟩
      rw [List.take_of_length_le (by rw [HLN.out]; exact Nat.le_refl _)]
end Go.Proofs.YtjjodfdmbiebnaaDoor
