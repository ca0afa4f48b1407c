/- Layer 8: the reference's firm. -/
import Derived.Test.YtjjodfdmbiebnaaDoorBue
import Derived.Deep.QuietTactic
import Derived.BigQuiet
import Derived.Deep.RegionWith
import Derived.Deep.RegionHeld3
import Derived.Deep.DeepCutAuto
import Derived.Deep.DeepFit
import Derived.Outline
namespace Go.Proofs.YtjjodfdmbiebnaaDoor
open Go.RowKit
set_option linter.unusedVariables false
theorem frB_iff {W H : Int} {n : Nat} {xs : List Int} {b : Bd} (g : GOk W H n xs) (f : FmOk b) (i : InOk W H b) : frB W xs b = true ↔ ∀ k : Nat, k < n → hsB W b k = true → xs.getD k 0 ≤ 1 := by
  unfold frB
  rw [List.all_eq_true]
  constructor
  · intro h k hk hh
    have := h (k : Int) ((und_mem f i (by omega)).2 hh)
    simpa using this
  · intro h t ht
    obtain ⟨j, hj, rfl⟩ := List.mem_map.1 ht
    have hu := und_md f i (List.mem_range.1 hj)
    have hk : (undAt W b j).toNat < n := by have := g.nn; omega
    have := h _ hk (by rw [Int.toNat_of_nonneg hu.2.2.1]; exact (und_mem f i hu.2.2.1).1 ht)
    simpa using this
set_option maxRecDepth 100000 in
set_option maxHeartbeats 800000 in
theorem rfirm_any (W H : Int) (a : Option Addr) (n c B : Nat) (xs : List Int) (b : Bd) (w : World) (h : By w B a n xs) (hB : B ≤ w.heap.size) (g : GOk W H n xs) (f : FmOk b) (i : InOk W H b) :
    Calls Tryd.prog 65 #[.agg #[.int .i64 W, .int .i64 H, .slice a n c], .agg #[.int .i64 b.i, .int .i64 b.o, .int .i64 b.x, .int .i64 b.y, .int .i64 b.w, .int .i64 b.h]] w fun e w' => e = .returned (.bool (frB W xs b)) ∧ Below w.heap.size w w' := by
  obtain ⟨m1, m2⟩ := mul_bd g.w1 g.w2 g.h1 g.h2
  have hnn := g.nn
  have hn : n ≤ 16384 := by omega
  have w1 := g.w1; have w2 := g.w2; have h1 := g.h1; have h2 := g.h2
  have HI := Hk.mk (frB_iff g f i)
  have HT := Hk.mk g.ts
  have FF := Hk.mk f
  have II := Hk.mk i
  have hHB : Hk (Below w.heap.size w ((w.alloc (.cells #[.int .i64 W, .int .i64 H, .slice a n c] 24)).alloc (.cells #[.int .i64 b.i, .int .i64 b.o, .int .i64 b.x, .int .i64 b.y, .int .i64 b.w, .int .i64 b.h] 96))) := ⟨((Below.refl _ _).alloc (Nat.le_refl _) _).alloc (by simp) _⟩
  have hNW : w.heap.size + 2 ≤ ((w.alloc (.cells #[.int .i64 W, .int .i64 H, .slice a n c] 24)).alloc (.cells #[.int .i64 b.i, .int .i64 b.o, .int .i64 b.x, .int .i64 b.y, .int .i64 b.w, .int .i64 b.h] 96)).heap.size := by simp
  have HB : Hk (Below (w.heap.size + 2) ((w.alloc (.cells #[.int .i64 W, .int .i64 H, .slice a n c] 24)).alloc (.cells #[.int .i64 b.i, .int .i64 b.o, .int .i64 b.x, .int .i64 b.y, .int .i64 b.w, .int .i64 b.h] 96)) ((w.alloc (.cells #[.int .i64 W, .int .i64 H, .slice a n c] 24)).alloc (.cells #[.int .i64 b.i, .int .i64 b.o, .int .i64 b.x, .int .i64 b.y, .int .i64 b.w, .int .i64 b.h] 96))) := ⟨Below.refl _ _⟩
  have HY := Hk.mk h
  clear h g f i
  obtain ⟨r, hr⟩ : ∃ r, frB W xs b = r := ⟨_, rfl⟩
  have HR : Hk (r = true ↔ ∀ k : Nat, k < n → hsB W b k = true → xs.getD k 0 ≤ 1) := ⟨by rw [← hr]; exact HI.out⟩
  rw [hr]
  clear hr
  go_enter Tryd.func65, Tryd.ntmps65
  go_wp2_with fail
  go_loopw [5] (fun i wr => ∃ k : Nat, i = .int .i64 k ∧ k ≤ n ∧ Hk (∀ j : Nat, j < k → hsB W b j = true → xs.getD j 0 ≤ 1) ∧ Hk (Below (w.heap.size + 2) ((w.alloc (.cells #[.int .i64 W, .int .i64 H, .slice a n c] 24)).alloc (.cells #[.int .i64 b.i, .int .i64 b.o, .int .i64 b.x, .int .i64 b.y, .int .i64 b.w, .int .i64 b.h] 96)) wr)) (fun i _ => n - (intOf i).toNat)
  case atStart => exact ⟨0, rfl, Nat.zero_le _, ⟨fun j hj => absurd hj (by omega)⟩, HB⟩
  case round =>
    clear HB
    obtain ⟨k, rfl, hk, HJ, HB⟩ := hrel
    obtain ⟨hc, hf, hl, hn', hm⟩ := kw_rules HB.out hNW
    by_cases hlt : k < n
    · obtain ⟨bb, off, rfl, hbl, hcc⟩ := HY.out.at_ (by omega)
      have hbw : bb < w.heap.size := by omega
      have hbw2 : bb < w.heap.size + 1 := by omega
      have hbw3 : bb < w.heap.size + 2 := by omega
      have hcx := hcc k hlt
      have hx := HY.out.bd hlt
      have hmem := HT.out (xs.getD k 0) (getD_mem (by rw [HY.out.len]; exact hlt))
      obtain ⟨x, hxx⟩ : ∃ x, xs.getD k 0 = x := ⟨_, rfl⟩
      rw [hxx] at hcx hx hmem
      have HX := Hk.mk hxx
      clear hcc hxx
      have t0 : (0 : Int) ≤ (k : Int) := by omega
      have t1 : (k : Int) < W * H := by omega
      cases hq : hsB W b k
      case false =>
        have HJ2 : Hk (∀ j : Nat, j < k + 1 → hsB W b j = true → xs.getD j 0 ≤ 1) := ⟨fun j hj hh => by
          by_cases e : j = k
          · subst e; rw [hq] at hh; cases hh
          · exact HJ.out j (by omega) hh⟩
        have HQ := Hk.mk hq
        clear hq
        go_wp2_with (go_at_call 79; (with_reducible refine (has_as false W H k (some ⟨bb, off, none⟩) n c b _ w1 w2 h1 h2 t0 (by omega) FF.out II.out HQ).mono ?_); rintro e z ⟨rfl, hb⟩; have HB2 := Hk.mk (kw_step HB.out hNW hb); clear hb)
        exact ⟨⟨k + 1, by go_num, by omega, HJ2, HB2⟩, by simp [intOf]; omega⟩
      case true =>
        by_cases hx1 : 1 < x
        · have R : Hk (false = r) := ⟨by
            cases r
            · rfl
            · have := HR.out.1 rfl k hlt hq; rw [HX.out] at this; omega⟩
          have HQ := Hk.mk hq
          have c0 : (x != 0) = true := by simp; omega
          have c1 : (x != 1) = true := by simp; omega
          clear hq
          go_wp2_with (go_at_call 79; (with_reducible refine (has_as true W H k (some ⟨bb, off, none⟩) n c b _ w1 w2 h1 h2 t0 (by omega) FF.out II.out HQ).mono ?_); rintro e z ⟨rfl, hb⟩; have HB2 := Hk.mk (kw_step HB.out hNW hb); clear hc hf hl hn' hm; obtain ⟨hc, hf, hl, hn', hm⟩ := kw_rules HB2.out hNW; clear hb)
          go_ret
          exact ⟨rbo R.out, hHB.out.trans (HB2.out.mono (by omega))⟩
        · have HJ2 : Hk (∀ j : Nat, j < k + 1 → hsB W b j = true → xs.getD j 0 ≤ 1) := ⟨fun j hj hh => by
            by_cases e : j = k
            · subst e; rw [HX.out]; omega
            · exact HJ.out j (by omega) hh⟩
          have HQ := Hk.mk hq
          have c0 : x = 0 ∨ x = 1 := by omega
          clear hq hx1 hmem hx
          rcases c0 with rfl | rfl
          all_goals
            go_wp2_with (go_at_call 79; (with_reducible refine (has_as true W H k (some ⟨bb, off, none⟩) n c b _ w1 w2 h1 h2 t0 (by omega) FF.out II.out HQ).mono ?_); rintro e z ⟨rfl, hb⟩; have HB2 := Hk.mk (kw_step HB.out hNW hb); clear hc hf hl hn' hm; obtain ⟨hc, hf, hl, hn', hm⟩ := kw_rules HB2.out hNW; clear hb)
            exact ⟨⟨k + 1, by go_num, by omega, HJ2, HB2⟩, by simp [intOf]; omega⟩
    · have hkn : k = n := by omega
      subst hkn
      have R : Hk (true = r) := ⟨by symm; rw [HR.out]; exact HJ.out⟩
      go_wp2
      go_ret
      exact ⟨rbo R.out, hHB.out.trans (HB.out.mono (by omega))⟩
theorem rfirm_as (r : Bool) (W H : Int) (a : Option Addr) (n c B : Nat) (xs : List Int) (b : Bd) (w : World) (h : By w B a n xs) (hB : B ≤ w.heap.size) (g : GOk W H n xs) (f : FmOk b) (i : InOk W H b) (E : Hk (frB W xs b = r)) :
    Calls Tryd.prog 65 #[.agg #[.int .i64 W, .int .i64 H, .slice a n c], .agg #[.int .i64 b.i, .int .i64 b.o, .int .i64 b.x, .int .i64 b.y, .int .i64 b.w, .int .i64 b.h]] w fun e w' => e = .returned (.bool r) ∧ Below w.heap.size w w' := by
  obtain ⟨rfl⟩ := E; exact rfirm_any W H a n c B xs b w h hB g f i
theorem firm_as (r : Bool) (W H : Int) (a : Option Addr) (n c B : Nat) (xs : List Int) (b : Bd) (w : World) (h : By w B a n xs) (hB : B ≤ w.heap.size) (g : GOk W H n xs) (f : FmOk b) (i : InOk W H b) (E : Hk (frB W xs b = r)) :
    Calls Tryd.prog 76 #[.agg #[.int .i64 W, .int .i64 H, .slice a n c], .agg #[.int .i64 b.i, .int .i64 b.o, .int .i64 b.x, .int .i64 b.y, .int .i64 b.w, .int .i64 b.h]] w fun e w' => e = .returned (.bool r) ∧ Below w.heap.size w w' := by
  obtain ⟨rfl⟩ := E; exact firm_any W H a n c B xs b w h hB g f i
end Go.Proofs.YtjjodfdmbiebnaaDoor
