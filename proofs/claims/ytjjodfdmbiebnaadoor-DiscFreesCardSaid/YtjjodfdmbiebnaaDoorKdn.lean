import Derived.Deep.QuietTactic
import Derived.BigQuiet
import Derived.Deep.RegionWith
import Derived.Deep.RegionHeld3
import Derived.Deep.DeepCutAuto
import Derived.Deep.DeepFit
import Derived.Outline
import Derived.Test.YtjjodfdmbiebnaaDoorKdm
/- Layer 9: clear.Grid, walked. -/
namespace Go.Proofs.YtjjodfdmbiebnaaDoor
open Go.RowKit
set_option linter.unusedVariables false
set_option linter.unusedSimpArgs false
set_option maxRecDepth 100000 in
theorem grid_no (W H : Int) (a : Option Addr) (n c : Nat) (xs : List Int) (la : Option Addr) (ln lc : Nat) (bs : List Bd) (w : World) (h : By w w.heap.size a n xs) (hb0 : Bq w w.heap.size la ln bs) (hn : n ≤ 140737488355328) (hln : ln ≤ 1099511627776) (x : Int) (MM : Hk (¬ (MOk W H n xs bs ∧ 0 ≤ x ∧ x ≤ 2))) :
    Calls Tryd.prog 32 #[.agg #[.int .i64 W, .int .i64 H, .slice a n c], .slice la ln lc, .int .i64 x] w fun e w' => e = .returned (.tuple #[.slice none 0 0, .int .i64 1]) ∧ Below w.heap.size w w' := by
  have HWB : Hk (Below w.heap.size w (w.alloc (.cells #[.int .i64 W, .int .i64 H, .slice a n c] 24))) := ⟨(Below.refl _ _).alloc (Nat.le_refl _) _⟩
  have hNW : w.heap.size + 1 ≤ (w.alloc (.cells #[.int .i64 W, .int .i64 H, .slice a n c] 24)).heap.size := by simp
  have HB : Hk (Below (w.heap.size + 1) (w.alloc (.cells #[.int .i64 W, .int .i64 H, .slice a n c] 24)) (w.alloc (.cells #[.int .i64 W, .int .i64 H, .slice a n c] 24))) := ⟨Below.refl _ _⟩
  have HTR : Hk (∀ X, Below (w.heap.size + 1) (w.alloc (.cells #[.int .i64 W, .int .i64 H, .slice a n c] 24)) X → Below w.heap.size w X) := ⟨fun X hX => HWB.out.trans (hX.mono (by omega))⟩
  have HBY := Hk.mk (fun (X : World) (hX : Below (w.heap.size + 1) (w.alloc (.cells #[.int .i64 W, .int .i64 H, .slice a n c] 24)) X) => h.below (HTR.out X hX) (Nat.le_refl _))
  have HBQ := Hk.mk (fun (X : World) (hX : Below (w.heap.size + 1) (w.alloc (.cells #[.int .i64 W, .int .i64 H, .slice a n c] 24)) X) => hb0.below (HTR.out X hX) (Nat.le_refl _))
  clear h hb0
  go_enter Tryd.func32, Tryd.ntmps32
  go_wp2_with (go_at_call 26; (with_reducible refine (open_no W H a n c xs la ln lc bs _ ?_ ?_ hn hln x MM).mono ?_); (exact (HBY.out _ HB.out).mono (hsz1 HB.out)); (exact (HBQ.out _ HB.out).mono (hsz1 HB.out)); rintro e z ⟨rfl, hb⟩; replace HB := Hk.mk (kw_step HB.out hNW hb); clear hb)
  go_ret2
  exact ⟨rfl, HTR.out _ HB.out⟩
set_option maxRecDepth 100000 in
set_option maxHeartbeats 1600000 in
theorem grid_yes (W H : Int) (a : Option Addr) (n c : Nat) (xs : List Int) (la : Option Addr) (ln lc : Nat) (bs : List Bd) (w : World) (h : By w w.heap.size a n xs) (hb0 : Bq w w.heap.size la ln bs) (hn : n ≤ 140737488355328) (hln : ln ≤ 1099511627776) (cl : Nat) (hL : LC w) (hc3 : cl < 3) (MM : Hk (MOk W H n xs bs)) :
    Calls Tryd.prog 32 #[.agg #[.int .i64 W, .int .i64 H, .slice a n c], .slice la ln lc, .int .i64 cl] w fun e w' => ∃ g, e = .returned (.tuple #[.slice (some ⟨g, 0, none⟩) n n, .int .i64 0]) ∧ w.heap.size ≤ g ∧ Arr w' g n 3 (fun k => .int .i64 (sC W H (opn W xs bs cl) k)) ∧ Below w.heap.size w w' := by
  have HWB : Hk (Below w.heap.size w (w.alloc (.cells #[.int .i64 W, .int .i64 H, .slice a n c] 24))) := ⟨(Below.refl _ _).alloc (Nat.le_refl _) _⟩
  have hNW : w.heap.size + 1 ≤ (w.alloc (.cells #[.int .i64 W, .int .i64 H, .slice a n c] 24)).heap.size := by simp
  have HB : Hk (Below (w.heap.size + 1) (w.alloc (.cells #[.int .i64 W, .int .i64 H, .slice a n c] 24)) (w.alloc (.cells #[.int .i64 W, .int .i64 H, .slice a n c] 24))) := ⟨Below.refl _ _⟩
  have HTR : Hk (∀ X, Below (w.heap.size + 1) (w.alloc (.cells #[.int .i64 W, .int .i64 H, .slice a n c] 24)) X → Below w.heap.size w X) := ⟨fun X hX => HWB.out.trans (hX.mono (by omega))⟩
  have HBY := Hk.mk (fun (X : World) (hX : Below (w.heap.size + 1) (w.alloc (.cells #[.int .i64 W, .int .i64 H, .slice a n c] 24)) X) => h.below (HTR.out X hX) (Nat.le_refl _))
  have HBQ := Hk.mk (fun (X : World) (hX : Below (w.heap.size + 1) (w.alloc (.cells #[.int .i64 W, .int .i64 H, .slice a n c] 24)) X) => hb0.below (HTR.out X hX) (Nat.le_refl _))
  have HLL := Hk.mk (fun (X : World) (hX : Below (w.heap.size + 1) (w.alloc (.cells #[.int .i64 W, .int .i64 H, .slice a n c] 24)) X) => hL.below (HTR.out X hX) (Nat.le_refl _))
  have info_b : (Tryd.prog.info? 3).map (fun i => (i.zero, i.size, i.bytes)) = some (some (.int .i64 0), 1, 8) := by kernel_rfl
  obtain ⟨i0, hi, hz0, hz1, hz2⟩ := info_parts info_b
  clear info_b h hb0 hL
  have w1 := MM.out.g.w1; have w2 := MM.out.g.w2; have h1 := MM.out.g.h1; have h2 := MM.out.g.h2
  have hnn := MM.out.g.nn
  have hn16 : n ≤ 16384 := by have := mul_bd w1 w2 h1 h2; omega
  have HNN := Hk.mk hnn
  clear hnn
  go_enter Tryd.func32, Tryd.ntmps32
  go_wp2_with (first | (go_at_call 26; (with_reducible refine (open_yes W H a n c xs la ln lc bs _ ?_ ?_ hn hln cl ?_ hc3 MM).mono ?_); (exact (HBY.out _ HB.out).mono (hsz1 HB.out)); (exact (HBQ.out _ HB.out).mono (hsz1 HB.out)); (exact HLL.out _ HB.out); rintro e z1 ⟨g1, rfl, hg1, hA1, hb⟩; have HG1 : Hk (w.heap.size + 1 ≤ g1) := ⟨Nat.le_trans (kw_size HB.out hNW) hg1⟩; have HA1 := Hk.mk hA1; clear hA1 hg1; replace HB := Hk.mk (kw_step HB.out hNW hb); clear hb; obtain ⟨hc, hf, hl, hn', hm⟩ := kw_rules HB.out hNW) | (at_make; go_must (refine wpList_make_full _ rfl _ _ 25 rfl (w.heap.size + 1) 3 i0 (.int .i64 0) 1 Tryd.underlying25 hi hz0 hz1 .i64 .i64 _ _ n rfl rfl rfl rfl (by rw [hz2]; omega) (by unfold maxLen; omega) (kw_size HB.out hNW) ?_); intro z4 hown hgrow; have HG2 : Hk (w.heap.size + 1 ≤ z1.heap.size ∧ g1 < z1.heap.size) := ⟨⟨kw_size HB.out hNW, HA1.out.lt⟩⟩; have hb := below_grown hgrow; replace HA1 := Hk.mk (HA1.out.later hb); replace HB := Hk.mk (kw_step HB.out hNW hb); have HA2 := Hk.mk (Arr.made hown rfl); clear hb hown hgrow))
  clear hc hf hl hn' hm
  generalize z1.heap.size = P at *
  have hwP : ¬ w.heap.size = P := by have := HG2.out; omega
  have hg1P : ¬ g1 = P := by have := HG2.out; omega
  have hg1l := HA1.out.lt
  have hwl : w.heap.size < z4.heap.size := by have := HB.out.size; simp at this; omega
  have D0 : z4.cell? ⟨w.heap.size, 0, none⟩ = some (.int .i64 W) := by rw [HB.out.cell (p := ⟨w.heap.size, 0, none⟩) (by show w.heap.size < _; omega)]; go_simp
  go_loopw [28] (fun i wr => ∃ k : Nat, i = .int .i64 k ∧ k ≤ n ∧ Hk (Fr (fun q => q = P) z4 wr) ∧ Hk (Arr wr P n 3 (fun j => .int .i64 ((if j < k then fC W H (opn W xs bs cl) j else 0 : Nat) : Int)))) (fun i _ => n - (intOf i).toNat)
  case atStart => exact ⟨0, rfl, Nat.zero_le _, ⟨Fr.refl _ _⟩, ⟨HA2.out.congr fun j _ => by rw [if_neg (by omega)]; rfl⟩⟩
  case round =>
    clear HA2
    obtain ⟨k, rfl, hk, HF, HA2⟩ := hrel
    obtain ⟨kc, kf, kl, kn, km⟩ := fr_rules HF.out
    by_cases hlt : k < n
    · have v0 := HA1.out.cell hlt
      have a0 := HA2.out.cell hlt
      have az := HA2.out.frozen k
      rw [if_neg (by omega)] at a0
      have t0 : (0 : Int) ≤ (k : Int) := by omega
      have t1 : (k : Int) < (n : Int) := by omega
      have HAt := Hk.mk (at_of (H := H) (n := n) w1 HNN.out hlt)
      obtain ⟨x, hx⟩ : ∃ x, (k : Int) % W = x := ⟨_, rfl⟩
      obtain ⟨y, hy⟩ : ∃ y, (k : Int) / W = y := ⟨_, rfl⟩
      rw [hx, hy] at HAt
      have HC : Hk (fC W H (opn W xs bs cl) k = fV W H (opn W xs bs cl) x y) := ⟨by unfold fC; rw [hx, hy]⟩
      clear hx hy
      cases hq : opn W xs bs cl k
      case false =>
        rw [hq] at v0
        have HZ : Hk (fC W H (opn W xs bs cl) k = 0) := ⟨by rw [HC.out]; exact fV_no w2 (by rw [op_at HAt.out]; exact hq)⟩
        clear hq
        go_wp2
        exact ⟨⟨k + 1, by go_num, by omega, HF, ⟨HA2.out.congr fun j hj => by
          by_cases e : j = k
          · subst e; rw [if_pos (by omega), if_neg (by omega), HZ.out]
          · by_cases e2 : j < k
            · rw [if_pos (by omega), if_pos e2]
            · rw [if_neg (by omega), if_neg e2]⟩⟩, by simp [intOf] <;> omega⟩
      case true =>
        rw [hq] at v0
        obtain ⟨u, hu⟩ : ∃ u, uL W H (opn W xs bs cl) x y = u := ⟨_, rfl⟩
        have HU := Hk.mk hu
        have hu128 : u ≤ 128 := by rw [← hu]; unfold uL; have := fV_le (W := W) (H := H) (f := (opn W xs bs cl)) (x - 1) y; omega
        have HZ : Hk (fC W H (opn W xs bs cl) k = 1 + u) := ⟨by rw [HC.out, fV_rec w2 (by rw [op_at HAt.out]; exact hq), ← hu]; rfl⟩
        clear hq hu
        go_wp2_with (go_at_call 60; (with_reducible refine (lst_up _ HA2.out (fun j hj => by rw [if_pos hj]) (by omega) w1 w2 HNN.out hlt HAt.out u HU.out).mono ?_); rintro e w' ⟨rfl, mm, rfl⟩)
        exact ⟨⟨k + 1, by go_num, by omega, ⟨(HF.out.drewN _).setCell (p := ⟨P, k, none⟩) (fun _ => rfl) _⟩, ⟨((HA2.out.drewN _).set hlt _).congr fun j hj => by
          by_cases e : j = k
          · subst e; rw [if_pos rfl, if_pos (by omega), HZ.out]; simp
          · rw [if_neg e]
            by_cases e2 : j < k
            · rw [if_pos e2, if_pos (by omega)]
            · rw [if_neg e2, if_neg (by omega)]⟩⟩, by simp [intOf] <;> omega⟩
    · have hkn : k = n := by omega
      subst hkn
      go_wp2
      clear kc kf kl kn km
      go_loopw [12] (fun s wr => ∃ z : Int, ∃ m : Nat, s = .int .i64 z ∧ z = (m : Int) - 1 ∧ m ≤ k ∧ Hk (Fr (fun q => q = P) z4 wr) ∧ Hk (Arr wr P k 3 (fun j => .int .i64 ((if j < m then fC W H (opn W xs bs cl) j else sC W H (opn W xs bs cl) j : Nat) : Int)))) (fun s _ => (intOf s + 1).toNat)
      case atStart => exact ⟨_, k, rfl, rfl, Nat.le_refl _, HF, ⟨HA2.out.congr fun j hj => by rw [if_pos hj, if_pos hj]⟩⟩
      case round =>
        clear HA2 HF
        obtain ⟨z, m, rfl, hz, hmk, HF, HA2⟩ := hrel
        obtain ⟨kc, kf, kl, kn, km⟩ := fr_rules HF.out
        by_cases hm0 : 0 < m
        · obtain ⟨q, rfl⟩ : ∃ q, m = q + 1 := ⟨m - 1, by omega⟩
          obtain rfl : z = (q : Int) := by omega
          clear hz
          have hqk : q < k := by omega
          have v0 := HA1.out.cell hqk
          have a0 := HA2.out.cell hqk
          have az := HA2.out.frozen q
          rw [if_pos (by omega)] at a0
          have t0 : (0 : Int) ≤ (q : Int) := by omega
          have t1 : (q : Int) < (k : Int) := by omega
          have HAt := Hk.mk (at_of (H := H) (n := k) w1 HNN.out hqk)
          obtain ⟨x, hx⟩ : ∃ x, (q : Int) % W = x := ⟨_, rfl⟩
          obtain ⟨y, hy⟩ : ∃ y, (q : Int) / W = y := ⟨_, rfl⟩
          rw [hx, hy] at HAt
          have HC : Hk (fC W H (opn W xs bs cl) q = fV W H (opn W xs bs cl) x y) := ⟨by unfold fC; rw [hx, hy]⟩
          have HS : Hk (sC W H (opn W xs bs cl) q = sV W H (opn W xs bs cl) x y) := ⟨by unfold sC; rw [hx, hy]⟩
          clear hx hy
          have dq : decide ((0 : Int) ≤ (q : Int)) = true := by simp
          cases hq : opn W xs bs cl q
          case false =>
            rw [hq] at v0
            have HZ : Hk (fC W H (opn W xs bs cl) q = sC W H (opn W xs bs cl) q) := ⟨by rw [HC.out, HS.out, fV_no w2 (by rw [op_at HAt.out]; exact hq), sV_no w2 (by rw [op_at HAt.out]; exact hq)]⟩
            clear hq
            go_wp2
            exact ⟨⟨_, q, rfl, rfl, by omega, HF, ⟨HA2.out.congr fun j hj => by
              by_cases e : j = q
              · subst e; rw [if_neg (by omega), if_pos (by omega), HZ.out]
              · by_cases e2 : j < q
                · rw [if_pos e2, if_pos (by omega)]
                · rw [if_neg e2, if_neg (by omega)]⟩⟩, by simp [intOf] <;> omega⟩
          case true =>
            rw [hq] at v0
            obtain ⟨u, hu⟩ : ∃ u, dL W H (opn W xs bs cl) x y = u := ⟨_, rfl⟩
            have HU := Hk.mk hu
            have hu128 : u ≤ 128 := by rw [← hu]; unfold dL; have := sV_le (W := W) (H := H) (f := (opn W xs bs cl)) (x + 1) y; omega
            obtain ⟨v, hv⟩ : ∃ v, fC W H (opn W xs bs cl) q = v := ⟨_, rfl⟩
            have HZ : Hk (sC W H (opn W xs bs cl) q = min v (1 + u)) := ⟨by rw [HS.out, sV_rec w2 (by rw [op_at HAt.out]; exact hq), ← hu, ← hv, HC.out]; rfl⟩
            rw [hv] at a0
            have hv128 : v ≤ 128 := by rw [← hv, HC.out]; exact fV_le x y
            have wq : IntKind.i64.wrap (1 + (u : Int)) = 1 + (u : Int) := by rw [IntKind.wrap_i64]; omega
            have hm2 : ∀ ts t w, (Builtin.min_ ts t #[.int .i64 (v : Int), .int .i64 (1 + (u : Int))]).run Tryd.prog w = .ok (.int .i64 ((min v (1 + u) : Nat) : Int)) w := fun ts t w => by
              rw [run_min2]
              have e9 : (min (v : Int) (1 + (u : Int))) = ((min v (1 + u) : Nat) : Int) := by omega
              rw [e9]
            clear hq hu hv
            go_wp2_with fail
            go_region_with (go_at_call 60; (with_reducible refine (lst_dn _ HA2.out.drew (fun j hj hjn => by rw [if_neg (by omega)]) (by omega) w1 w2 HNN.out hqk HAt.out u HU.out).mono ?_); rintro e w' ⟨rfl, mm, rfl⟩)
            all_goals
              go_wp2_with fail
              exact ⟨⟨_, q, rfl, rfl, by omega, ⟨(HF.out.drewN _).setCell (p := ⟨P, q, none⟩) (fun _ => rfl) _⟩, ⟨((HA2.out.drewN _).set hqk _).congr fun j hj => by
                by_cases e : j = q
                · subst e; rw [if_pos rfl, if_neg (by omega), HZ.out]
                · rw [if_neg e]
                  by_cases e2 : j < q
                  · rw [if_pos e2, if_pos (by omega)]
                  · rw [if_neg e2, if_neg (by omega)]⟩⟩, by simp [intOf] <;> omega⟩
        · have hm' : m = 0 := by omega
          subst hm'
          obtain rfl : z = -1 := by omega
          clear hz
          go_wp2
          go_ret2
          exact ⟨P, rfl, by have := HG2.out; omega, HA2.out.congr fun j hj => by rw [if_neg (by omega)], HTR.out _ (frb HB.out hNW HF.out (by have := HG2.out; omega))⟩
end Go.Proofs.YtjjodfdmbiebnaaDoor
