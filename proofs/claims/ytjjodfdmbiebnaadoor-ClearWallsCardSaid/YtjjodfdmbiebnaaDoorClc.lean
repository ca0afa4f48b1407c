/- Layer 9: the reference's Open; slices of tests compared, and written over. -/
import Derived.Test.YtjjodfdmbiebnaaDoorClb
import Derived.Deep.QuietTactic
import Derived.BigQuiet
import Derived.Deep.RegionWith
import Derived.Deep.RegionHeld3
import Derived.Deep.DeepCutAuto
import Derived.Deep.DeepFit
import Derived.Outline
namespace Go.Proofs.YtjjodfdmbiebnaaDoor
open Go.RowKit
set_option linter.unusedVariables false
set_option linter.unusedSimpArgs false
set_option maxRecDepth 100000 in
set_option maxHeartbeats 800000 in
theorem ropen_any (W H : Int) (a : Option Addr) (n c : Nat) (xs : List Int) (la : Option Addr) (ln lc : Nat) (bs : List Bd) (w : World) (h : By w w.heap.size a n xs) (hb0 : Bq w w.heap.size la ln bs) (cl : Nat) (hc3 : cl < 3) (MM : Hk (MOk W H n xs bs)) :
    Calls Tryd.prog 25 #[.agg #[.int .i64 W, .int .i64 H, .slice a n c], .slice la ln lc, .int .i64 cl] w fun e w' => ∃ g, e = .returned (.slice (some ⟨g, 0, none⟩) n n) ∧ w.heap.size ≤ g ∧ Arr w' g n 4 (fun k => .bool (opn W xs bs cl k)) ∧ Below w.heap.size w w' := by
  have HWB : Hk (Below w.heap.size w (w.alloc (.cells #[.int .i64 W, .int .i64 H, .slice a n c] 24))) := ⟨(Below.refl _ _).alloc (Nat.le_refl _) _⟩
  have hNW : w.heap.size + 1 ≤ (w.alloc (.cells #[.int .i64 W, .int .i64 H, .slice a n c] 24)).heap.size := by simp
  have HB : Hk (Below (w.heap.size + 1) (w.alloc (.cells #[.int .i64 W, .int .i64 H, .slice a n c] 24)) (w.alloc (.cells #[.int .i64 W, .int .i64 H, .slice a n c] 24))) := ⟨Below.refl _ _⟩
  have HTR : Hk (∀ X, Below (w.heap.size + 1) (w.alloc (.cells #[.int .i64 W, .int .i64 H, .slice a n c] 24)) X → Below w.heap.size w X) := ⟨fun X hX => HWB.out.trans (hX.mono (by omega))⟩
  have HBY := Hk.mk (fun (X : World) (hX : Below (w.heap.size + 1) (w.alloc (.cells #[.int .i64 W, .int .i64 H, .slice a n c] 24)) X) => h.below (HTR.out X hX) (Nat.le_refl _))
  have HBQ := Hk.mk (fun (X : World) (hX : Below (w.heap.size + 1) (w.alloc (.cells #[.int .i64 W, .int .i64 H, .slice a n c] 24)) X) => hb0.below (HTR.out X hX) (Nat.le_refl _))
  have HY := Hk.mk h
  clear h hb0
  have hn16 : n ≤ 16384 := by have := MM.out.g.nn; have := mul_bd MM.out.g.w1 MM.out.g.w2 MM.out.g.h1 MM.out.g.h2; omega
  go_enter Tryd.func25, Tryd.ntmps25
  go_wp2_with (go_at_call 56; (with_reducible refine (rcov_any W H a n c xs la ln lc bs _ ?_ MM).mono ?_); (exact (HBQ.out _ HB.out).mono (hsz1 HB.out)); rintro e z1 ⟨g1, rfl, hg1, hA1, hb⟩; have HG1 : Hk (w.heap.size + 1 ≤ g1) := ⟨Nat.le_trans (kw_size HB.out hNW) hg1⟩; have HA1 := Hk.mk hA1; clear hA1 hg1; replace HB := Hk.mk (kw_step HB.out hNW hb); clear hb)
  go_loopw [8] (fun i wr => ∃ k : Nat, i = .int .i64 k ∧ k ≤ n ∧ Hk (Below (w.heap.size + 1) (w.alloc (.cells #[.int .i64 W, .int .i64 H, .slice a n c] 24)) wr) ∧ Hk (Arr wr g1 n 4 (fun j => .bool (if j < k then opn W xs bs cl j else cvB W bs j)))) (fun i _ => n - (intOf i).toNat)
  case atStart => exact ⟨0, rfl, Nat.zero_le _, HB, ⟨HA1.out.congr fun j _ => by rw [if_neg (by omega)]⟩⟩
  case round =>
    clear HA1 HB
    obtain ⟨k, rfl, hk, HB, HA1⟩ := hrel
    obtain ⟨hc, hf, hl, hn', hm⟩ := kw_rules HB.out hNW
    by_cases hlt : k < n
    · obtain ⟨bb, off, rfl, hbl, hcc⟩ := HY.out.at_ (by omega)
      have hbw : bb < w.heap.size + 1 := by omega
      have p0 := hcc k hlt
      have hx := HY.out.bd hlt
      have hmem := MM.out.g.ts (xs.getD k 0) (getD_mem (by rw [HY.out.len]; exact hlt))
      obtain ⟨x, hxx⟩ : ∃ x : Nat, xs.getD k 0 = x := ⟨(xs.getD k 0).toNat, by omega⟩
      rw [hxx] at p0 hx hmem
      have HX := Hk.mk hxx
      have v0 := HA1.out.cell hlt
      have az := HA1.out.frozen k
      rw [if_neg (by omega)] at v0
      have t0 : (0 : Int) ≤ (k : Int) := by omega
      have t1 : (k : Int) < (n : Int) := by omega
      have HO : Hk (opn W xs bs cl k = (opB cl x && !(cvB W bs k))) := ⟨by unfold opn; rw [HX.out]; simp⟩
      obtain ⟨r, hr⟩ : ∃ r, ctS cl x = r := ⟨_, rfl⟩
      have HR := Hk.mk hr
      have HO2 : Hk (opB cl x = decide (0 < r)) := ⟨by rw [opB_iff, hr]⟩
      obtain ⟨q2, hq2⟩ : ∃ q2, cvB W bs k = q2 := ⟨_, rfl⟩
      rw [hq2] at v0 HO
      clear hcc hxx hq2 hr
      have hf1 := HA1.out
      cases q2
      case true =>
        go_wp2
        exact ⟨⟨k + 1, by go_num, by omega, ⟨bset HB.out k HG1.out _⟩, ⟨(hf1.set hlt _).congr fun j hj => by
          by_cases e : j = k
          · subst e; rw [if_pos rfl, if_pos (by omega), HO.out]; simp
          · rw [if_neg e]
            by_cases e2 : j < k
            · rw [if_pos e2, if_pos (by omega)]
            · rw [if_neg e2, if_neg (by omega)]⟩⟩, by simp [intOf]; omega⟩
      case false =>
        go_wp2_with (go_at_call 57; (with_reducible refine (rcostC_as cl x _ _ r _ hc3 (by omega) ⟨rfl⟩ ⟨rfl⟩ HR).mono ?_); rintro e z2 ⟨rfl, hb⟩; replace HA1 := Hk.mk (HA1.out.later hb); clear v0 az; have v0 := HA1.out.cell hlt; have az := HA1.out.frozen k; replace HB := Hk.mk (kw_step HB.out hNW hb); clear hb; clear hc hf hl hn' hm; obtain ⟨hc, hf, hl, hn', hm⟩ := kw_rules HB.out hNW)
        exact ⟨⟨k + 1, by go_num, by omega, ⟨bset HB.out k HG1.out _⟩, ⟨(HA1.out.set hlt _).congr fun j hj => by
          by_cases e : j = k
          · subst e; rw [if_pos rfl, if_pos (by omega), HO.out, HO2.out]; simp
          · rw [if_neg e]
            by_cases e2 : j < k
            · rw [if_pos e2, if_pos (by omega)]
            · rw [if_neg e2, if_neg (by omega)]⟩⟩, by simp [intOf]; omega⟩
    · have hkn : k = n := by omega
      subst hkn
      go_wp2
      go_ret
      exact ⟨g1, rfl, by have := HG1.out; omega, HA1.out.congr fun j hj => by rw [if_pos hj], HTR.out _ HB.out⟩
end Go.Proofs.YtjjodfdmbiebnaaDoor
