/- Layer 6: GroundBack where the ground may be. -/
import Derived.Test.YtjjodfdmbiebnaaDoorGtd
import Derived.Deep.QuietTactic
import Derived.BigQuiet
import Derived.Deep.RegionWith
import Derived.Deep.RegionHeld3
import Derived.Deep.DeepCutAuto
import Derived.Deep.DeepFit
import Derived.Outline
namespace Go.Proofs.YtjjodfdmbiebnaaDoor
open Go.ChangeShapes Go.WideShapes Go.ChangeAt Go.RowKit Go.Deep
set_option linter.unusedVariables false
theorem kw_S {N : Nat} {W X : World} (h : Below N W X) : (∀ b o, b < N → X.cell? ⟨b, o, none⟩ = W.cell? ⟨b, o, none⟩) ∧ Below N W X := ⟨fun b o hb => h.cell (p := ⟨b, o, none⟩) hb, h⟩
theorem vec_box {X Y : World} {p q : Value} {T : TypeId} (h : Below (X.alloc (.cells #[p, q] T)).heap.size (X.alloc (.cells #[p, q] T)) Y) : Y.cell? ⟨X.heap.size, 0, none⟩ = some p ∧ Y.cell? ⟨X.heap.size, 1, none⟩ = some q ∧ X.heap.size < Y.heap.size :=
  ⟨(h.cell (p := ⟨X.heap.size, 0, none⟩) (by simp)).trans (by go_simp), (h.cell (p := ⟨X.heap.size, 1, none⟩) (by simp)).trans (by go_simp), by have := h.size; simp at this; omega⟩
theorem num6_q (x : Int) (w : World) : Calls Tryd.prog 14 #[.int .i64 x] w fun e w' => e = .returned (.int .i64 x) ∧ w' = w := (num6_any x w).mono fun _ _ h => ⟨h.1, h.2.symm⟩
theorem in_q (r N : Int) (a : Option Addr) (n c B : Nat) (xs : List Int) (w : World) (h : Nq w B a n xs) (hn : n ≤ 1099511627776) (E : Hk (inV N xs = r)) :
    Calls Tryd.prog 21 #[.slice a n c, .int .i64 N] w fun e w' => e = .returned (.int .i64 r) ∧ w' = w := (in_v r N a n c B xs w h hn E).mono fun _ _ h => ⟨h.1, h.2.symm⟩
theorem vec_keep {X Y : World} {A : Nat} {p q : Value} (h : Below X.heap.size X Y) (g : X.cell? ⟨A, 0, none⟩ = some p ∧ X.cell? ⟨A, 1, none⟩ = some q ∧ A < X.heap.size) : Y.cell? ⟨A, 0, none⟩ = some p ∧ Y.cell? ⟨A, 1, none⟩ = some q ∧ A < Y.heap.size :=
  ⟨(h.cell (p := ⟨A, 0, none⟩) g.2.2).trans g.1, (h.cell (p := ⟨A, 1, none⟩) g.2.2).trans g.2.1, Nat.lt_of_lt_of_le g.2.2 h.size⟩
set_option maxRecDepth 100000 in
set_option maxHeartbeats 3200000 in
theorem groundBack_go (W H : Int) (a : Option Addr) (n c : Nat) (xs : List Int) (ta : Option Addr) (tn tc : Nat) (pa : Option Addr) (pn pc : Nat) (w : World) (hL : LT w) (hby : By w w.heap.size a n xs) (sm1 : n ≤ 400) (sm2 : tn ≤ 60) (sm3 : pn ≤ 60) (HV : Hk (heavyB n tn pn = false)) (HG : Hk (GOk W H n xs)) :
    Calls Tryd.prog 3 #[.agg #[.int .i64 W, .int .i64 H, .slice a n c, .slice ta tn tc, .slice pa pn pc]] w fun e w' => e = .returned (.bool true) ∧ Below w.heap.size w w' := by
  have HWB : Hk (Below w.heap.size w (w.alloc (.cells #[.int .i64 W, .int .i64 H, .slice a n c, .slice ta tn tc, .slice pa pn pc] 28))) := ⟨(Below.refl _ _).alloc (Nat.le_refl _) _⟩
  have HTR : Hk (∀ X, Below (w.heap.size + 1) (w.alloc (.cells #[.int .i64 W, .int .i64 H, .slice a n c, .slice ta tn tc, .slice pa pn pc] 28)) X → Below w.heap.size w X) := ⟨fun X hX => HWB.out.trans (hX.mono (by omega))⟩
  have HBY := Hk.mk (fun (X : World) (hX : Below (w.heap.size + 1) (w.alloc (.cells #[.int .i64 W, .int .i64 H, .slice a n c, .slice ta tn tc, .slice pa pn pc] 28)) X) => hby.below (HTR.out X hX) (Nat.le_refl _))
  have HLL := Hk.mk (fun (X : World) (hX : Below (w.heap.size + 1) (w.alloc (.cells #[.int .i64 W, .int .i64 H, .slice a n c, .slice ta tn tc, .slice pa pn pc] 28)) X) => hL.below (HTR.out X hX) (Nat.le_refl _))
  have HB : Hk (Below (w.heap.size + 1) (w.alloc (.cells #[.int .i64 W, .int .i64 H, .slice a n c, .slice ta tn tc, .slice pa pn pc] 28)) (w.alloc (.cells #[.int .i64 W, .int .i64 H, .slice a n c, .slice ta tn tc, .slice pa pn pc] 28))) := ⟨Below.refl _ _⟩
  have hNW : w.heap.size + 1 ≤ (w.alloc (.cells #[.int .i64 W, .int .i64 H, .slice a n c, .slice ta tn tc, .slice pa pn pc] 28)).heap.size := by simp
  clear hby hL
  obtain ⟨w1', w2', h1', h2'⟩ : 1 ≤ W ∧ W ≤ 128 ∧ 1 ≤ H ∧ H ≤ 128 := ⟨HG.out.w1, HG.out.w2, HG.out.h1, HG.out.h2⟩
  obtain ⟨m1, m2⟩ := mul_bd w1' w2' h1' h2'
  have EQC : Hk (gE W H n xs = 0) := ⟨gE_yes HG.out⟩
  go_enter Tryd.func3, Tryd.ntmps3
  go_wp2_with (first | (go_at_call 13; (with_reducible refine (heavy6_as false W H a ta pa n c tn tc pn pc _ (by omega) (by omega) (by omega) HV).mono ?_); rintro e x1 ⟨rfl, hb⟩; replace HB := Hk.mk (kw_step HB.out hNW hb); obtain ⟨hc, hf, hl, hn, hm⟩ := kw_rules HB.out hNW) | (go_at_call 15; (with_reducible refine (check_as 0 W H a n c w.heap.size xs _ ?_ ?_ ?_ EQC).mono ?_); (exact HBY.out _ HB.out); (exact hsz_le HB.out); (omega); rintro e x2 ⟨rfl, hb⟩; replace HB := Hk.mk (kw_step HB.out hNW hb); clear hc hf hl hn hm; obtain ⟨hc, hf, hl, hn, hm⟩ := kw_rules HB.out hNW) | (go_at_call 14; (with_reducible refine (num6_any _ _).mono ?_); rintro e w' ⟨rfl, rfl⟩))
  clear hc hf hl hn hm
  go_loopw [3] (fun i wr => ∃ (k : Nat), i = .int .i64 k ∧ k ≤ n ∧ Hk (Below (w.heap.size + 1) (w.alloc (.cells #[.int .i64 W, .int .i64 H, .slice a n c, .slice ta tn tc, .slice pa pn pc] 28)) wr)) (fun i _ => n - (intOf i).toNat)
  case atStart => exact ⟨0, rfl, by omega, HB⟩
  case round =>
    clear HB
    obtain ⟨k, rfl, hk, HB⟩ := hrel
    obtain ⟨hc, hf, hl, hn, hm⟩ := kw_rules HB.out hNW
    by_cases hlt : k < n
    · have t0 : (0 : Int) ≤ (k : Int) := by omega
      have t1 : (k : Int) < W * H := by have := HG.out.nn; omega
      obtain ⟨X, hX⟩ : ∃ X, (k : Int) % W = X := ⟨_, rfl⟩
      obtain ⟨Y, hY⟩ : ∃ Y, (k : Int) / W = Y := ⟨_, rfl⟩
      obtain ⟨AX, hAX⟩ : ∃ AX, X * 65536 + 32768 = AX := ⟨_, rfl⟩
      obtain ⟨AY, hAY⟩ : ∃ AY, Y * 65536 + 32768 = AY := ⟨_, rfl⟩
      have EX : Hk ((k : Int) % W = X ∧ (k : Int) / W = Y) := ⟨⟨hX, hY⟩⟩
      have EA : Hk ((k : Int) % W * 65536 + 32768 = AX ∧ (k : Int) / W * 65536 + 32768 = AY) := ⟨⟨by rw [hX]; exact hAX, by rw [hY]; exact hAY⟩⟩
      have EB : Hk (X * 65536 + 32768 = AX ∧ Y * 65536 + 32768 = AY) := ⟨⟨hAX, hAY⟩⟩
      have x0 : 0 ≤ X := by rw [← hX]; exact Int.emod_nonneg _ (by omega)
      have x1 : X < W := by rw [← hX]; exact Int.emod_lt_of_pos _ (by omega)
      have y0 : 0 ≤ Y := by rw [← hY]; exact Int.ediv_nonneg t0 (by omega)
      have y1 : Y < H := by rw [← hY]; exact Int.ediv_lt_of_lt_mul (by omega) (by rw [Int.mul_comm]; exact t1)
      have ET : Hk (X + W * Y = (k : Int)) := ⟨by rw [← hX, ← hY]; exact Int.emod_add_mul_ediv _ _⟩
      have ax0 : 32768 ≤ AX := by omega
      have ax1 : AX ≤ 8388608 := by omega
      have ay0 : 32768 ≤ AY := by omega
      have ay1 : AY ≤ 8388608 := by omega
      clear hX hY hAX hAY
      go_wp2_with (first | (go_at_call 14; (with_reducible refine (num6_any _ _).mono ?_); rintro e w' ⟨rfl, rfl⟩) | (go_at_call 16; (with_reducible refine (xy_at X Y k W H a n c w.heap.size xs _ ?_ ?_ ?_ HG.out t0 t1 EX).mono ?_); (exact HBY.out _ HB.out); (exact hsz_le HB.out); (omega); rintro e z3 ⟨rfl, hb⟩; replace HB := Hk.mk (kw_step HB.out hNW hb); clear hc hf hl hn hm; obtain ⟨hc, hf, hl, hn, hm⟩ := kw_rules HB.out hNW) | (go_at_call 17; (with_reducible refine (tile_at k X Y W H a n c w.heap.size xs _ ?_ ?_ ?_ HG.out x0 x1 y0 y1 ET).mono ?_); (exact HBY.out _ HB.out); (exact hsz_le HB.out); (omega); rintro e z4 ⟨rfl, hb⟩; replace HB := Hk.mk (kw_step HB.out hNW hb); clear hc hf hl hn hm; obtain ⟨hc, hf, hl, hn, hm⟩ := kw_rules HB.out hNW) | (go_at_call 18; (with_reducible refine (center_at AX AY k W H a n c w.heap.size xs _ ?_ ?_ ?_ HG.out t0 t1 EA).mono ?_); (exact HBY.out _ HB.out); (exact hsz_le HB.out); (omega); rintro e z5 ⟨rfl, hb⟩; replace HB := Hk.mk (kw_step HB.out hNW hb); clear hc hf hl hn hm; obtain ⟨hc, hf, hl, hn, hm⟩ := kw_rules HB.out hNW; have HBA := Hk.mk (HB.out.alloc (kw_size HB.out hNW) (.cells #[.int .i64 AX, .int .i64 AY] 38))) | (go_at_call 19; (with_reducible refine (of_at k AX AY W H a n c w.heap.size xs _ ?_ ?_ ?_ HG.out ?_).mono ?_); (exact HBY.out _ HBA.out); (exact hsz_le HBA.out); (omega); (exact of_near x0 x1 y0 y1 (by have := EB.out; omega) (by have := EB.out; omega) ET.out); rintro e z6 ⟨rfl, hb⟩; have hv := vec_box hb; obtain ⟨v0, v1, v2⟩ := hv; have HV9 := Hk.mk (And.intro v0 (And.intro v1 v2)); replace HB := Hk.mk (kw_step HBA.out hNW hb); clear hc hf hl hn hm; obtain ⟨hc, hf, hl, hn, hm⟩ := kw_rules HB.out hNW) | (go_at_call 19; (with_reducible refine (of_at k (AX - 32768) (AY - 32768) W H a n c w.heap.size xs _ ?_ ?_ ?_ HG.out ?_).mono ?_); (exact HBY.out _ HB.out); (exact hsz_le HB.out); (omega); (exact of_near x0 x1 y0 y1 (by have := EB.out; omega) (by have := EB.out; omega) ET.out); rintro e z7 ⟨rfl, hb⟩; clear v0 v1 v2; obtain ⟨v0, v1, v2⟩ := vec_keep hb HV9.out; replace HV9 := Hk.mk (And.intro v0 (And.intro v1 v2)); replace HB := Hk.mk (kw_step HB.out hNW hb); clear hc hf hl hn hm; obtain ⟨hc, hf, hl, hn, hm⟩ := kw_rules HB.out hNW) | (go_at_call 19; (with_reducible refine (of_at k (AX + 32768 - 1) (AY + 32768 - 1) W H a n c w.heap.size xs _ ?_ ?_ ?_ HG.out ?_).mono ?_); (exact HBY.out _ HB.out); (exact hsz_le HB.out); (omega); (exact of_near x0 x1 y0 y1 (by have := EB.out; omega) (by have := EB.out; omega) ET.out); rintro e z8 ⟨rfl, hb⟩; clear v0 v1 v2; replace HB := Hk.mk (kw_step HB.out hNW hb); clear hc hf hl hn hm; obtain ⟨hc, hf, hl, hn, hm⟩ := kw_rules HB.out hNW) | (go_at_call 20; (with_reducible refine (near_yes k W H a n c w.heap.size xs _ ?_ ?_ ?_ ?_ HG.out t0 t1).mono ?_); (exact HBY.out _ HB.out); (exact hsz_le HB.out); (omega); (exact HLL.out _ HB.out); rintro e z9 ⟨g, rfl, hg1, hg2, hlen, hcg, hfg, hb⟩; have HCG := Hk.mk hcg; have hgz : ¬ g < w.heap.size + 1 := (by have := kw_size HB.out hNW; omega); clear hcg hfg hlen; replace HB := Hk.mk (kw_step HB.out hNW hb); clear hc hf hl hn hm; obtain ⟨hc, hf, hl, hn, hm⟩ := kw_rules HB.out hNW))
      obtain ⟨wo, rfl⟩ : ∃ wo : World, wo = wr := ⟨wr, rfl⟩
      clear HV9 EA EB EX ET HBA
      go_loopw [19] (fun i wr => ∃ (j : Nat), i = .int .i64 j ∧ j ≤ 8 ∧ Hk (Below z9.heap.size z9 wr)) (fun i _ => 8 - (intOf i).toNat)
      case atStart => exact ⟨0, rfl, by omega, ⟨Below.refl _ _⟩⟩
      case round =>
        obtain ⟨j, rfl, hj, HC⟩ := hrel
        by_cases hj8 : j < 8
        · obtain ⟨u, hu⟩ : ∃ u, (nbL W H k).getD j 0 = u := ⟨_, rfl⟩
          have p0 := HCG.out j hj8
          rw [hu] at p0
          have HU : Hk (nb W H k j = u) := ⟨by rw [← hu, nb_getD W H k j hj8]⟩
          have HNG : Hk (Nq z9 z9.heap.size (some ⟨g, 0, none⟩) 8 (nbL W H k)) := ⟨rfl, fun _ => ⟨g, 0, rfl, hg2, fun i hi => by rw [Nat.zero_add]; exact HCG.out i hi⟩⟩
          clear hu
          have j1 : (0 : Int) ≤ (j : Int) := by omega
          have j2 : (j : Int) < 8 := by omega
          obtain ⟨kc, kf, kl, kn, km⟩ := kw_rules HC.out (Nat.le_refl _)
          by_cases hneg : u < 0
          · have b1 : decide (u < 0) = true := by simpa using hneg
            go_wp2
            exact ⟨⟨j + 1, by go_num, by omega, HC⟩, by simp [intOf]; omega⟩
          · have b1 : decide (u < 0) = false := by simpa using hneg
            have u0 : 0 ≤ u := by omega
            have u1 : u < W * H := nb_lt (by omega) HU.out u0
            have u2 : (u == (k : Int)) = false := by simpa using nb_not (by omega) hj8 HU.out u0
            have NB : Hk ((k : Int) ∈ nbL W H u) := ⟨nb_back (by omega) t0 t1 hj8 HU.out u0⟩
            have NO : Hk (inV u ((nbL W H k).take j) = -1) := ⟨inV_no (nb_once (by omega) hj8 HU.out u0)⟩
            obtain ⟨V, hV⟩ : ∃ V, inV (k : Int) (nbL W H u) = V := ⟨_, rfl⟩
            have V0 : decide (V < 0) = false := by have := inV_yes NB.out; rw [hV] at this; simpa using this
            have EV := Hk.mk hV
            clear hneg hV
            go_wp2_with fail
            go_region_held3 (fun X => (∀ b o, b < z9.heap.size → X.cell? ⟨b, o, none⟩ = z9.cell? ⟨b, o, none⟩) ∧ Below z9.heap.size z9 X) (first | exact kw_S HC.out | exact kw_S (kw_drew HC.out)) (first | (go_at_call 20; (with_reducible refine (near_yes u W H a n c w.heap.size xs _ ?_ ?_ ?_ ?_ HG.out u0 u1).mono ?_); (exact HBY.out _ (HB.out.trans (HC.out.drew.mono (kw_size HB.out hNW)))); (exact hsz_le (HB.out.trans (HC.out.drew.mono (kw_size HB.out hNW)))); (omega); (exact HLL.out _ (HB.out.trans (HC.out.drew.mono (kw_size HB.out hNW)))); rintro e z11 ⟨g2, rfl, gg1, gg2, glen, gcg, gfg, hb⟩; have HCG2 := Hk.mk gcg; clear gcg gfg glen; have HC2 := Hk.mk (kw_step HC.out.drew (Nat.le_refl _) hb); replace HC := HC2))
            have HN2 : Hk (∀ m, Nq (z11.drewN m) (g2 + 1) (some ⟨g2, 0, none⟩) 8 (nbL W H u)) := ⟨fun m => (show Nq z11 (g2 + 1) (some ⟨g2, 0, none⟩) 8 (nbL W H u) from ⟨rfl, fun _ => ⟨g2, 0, rfl, by omega, fun i hi => by rw [Nat.zero_add]; exact HCG2.out i hi⟩⟩).drewN m⟩
            have HN1 : Hk (∀ m, Nq (z11.drewN m) z9.heap.size (some ⟨g, 0, none⟩) j ((nbL W H k).take j)) := ⟨fun m => (nq_take (HNG.out.below HC2.out (Nat.le_refl _)) j hj).drewN m⟩
            have HC3 := HC2
            clear kc kf kl kn km
            obtain ⟨kc, kf, kl, kn, km⟩ := kw_rules HC3.out (Nat.le_refl _)
            go_wp2_with fail
            go_quiet ((first | (go_at_call 14; exact Calls.quiet_of_same (num6_q _ _)) | (go_at_call_of 21 (some ⟨g2, 0, none⟩ : Option Addr); exact Calls.quiet_of_same (in_q V k (some ⟨g2, 0, none⟩) 8 8 (g2 + 1) (nbL W H u) _ (HN2.out _) (by omega) EV)) | (go_at_call_of 21 (some ⟨g, 0, none⟩ : Option Addr); exact Calls.quiet_of_same (in_q (-1) u (some ⟨g, 0, none⟩) j 8 z9.heap.size ((nbL W H k).take j) _ (HN1.out _) (by omega) NO))))
            go_wp2_with fail
            exact ⟨⟨j + 1, by go_num, by omega, ⟨below_drewN HC3.out _⟩⟩, by simp [intOf]; omega⟩
        · have hjn : j = 8 := by omega
          subst hjn
          obtain ⟨kc, kf, kl, kn, km⟩ := kw_rules HC.out (Nat.le_refl _)
          go_wp2
          exact ⟨⟨k + 1, by go_num, by omega, ⟨HB.out.trans (HC.out.mono (kw_size HB.out hNW))⟩⟩, by simp [intOf]; omega⟩
    · have hkn : k = n := by omega
      subst hkn
      go_wp2_with (go_at_call 22; (with_reducible refine (wakes6_any _ (HLL.out _ HB.out)).mono ?_); rintro e w4 ⟨rfl, hb4⟩; have HB4 := Hk.mk hb4; clear hb4)
      go_ret
      exact ⟨rfl, (HTR.out _ HB.out).trans (HB4.out.mono (HTR.out _ HB.out).size)⟩
end Go.Proofs.YtjjodfdmbiebnaaDoor
