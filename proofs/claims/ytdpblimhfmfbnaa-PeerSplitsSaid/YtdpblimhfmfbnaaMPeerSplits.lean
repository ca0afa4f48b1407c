import Derived.Deep.QuietTactic
import Derived.BigQuiet
import Derived.Deep.RegionWith
import Derived.Deep.RegionHeld3
import Derived.Deep.DeepCutAuto
import Derived.Deep.DeepFit
import Derived.Outline
import Derived.ProofKit
import Derived.OpenShut
import Derived.ChangeSame
import Derived.Test.YtdpblimhfmfbnaaZsap
/- For every argument, PeerSplits answers true and leaves its argument as it was: who hears another hash of a turn that it remembers is split. No condition. -/
namespace Go.Proofs.Ytdpblimhfmfbnaa
open Go.ChangeShapes Go.WideShapes Go.ChangeAt Go.RowKit Go.Deep
set_option linter.unusedVariables false
set_option linter.unusedSimpArgs false
set_option maxRecDepth 100000 in
set_option maxHeartbeats 3200000 in
theorem peerSplits_walk (v : Value) (w : World) (rows : Asks28w w v) :
    Calls Try.prog 6 #[v] w fun e w' => e = .returned (.bool true) ∧ Below w.heap.size w w' := by
  obtain ⟨n, d, la, ln, lc, rfl, -, -⟩ := rows
  have HBW : Hk (Below w.heap.size w (w.alloc (.cells #[.int .i64 n, .int .i64 d, .slice la ln lc] 39))) := ⟨below_al _ _⟩
  have HPX : Hk (Bk (w.alloc (.cells #[.int .i64 n, .int .i64 d, .slice la ln lc] 39)) w.heap.size #[.int .i64 n, .int .i64 d, .slice la ln lc]) := ⟨Bk.new w #[.int .i64 n, .int .i64 d, .slice la ln lc] 39⟩
  have HM : Hk (MayP 1 2 8) := ⟨by unfold MayP; omega⟩
  go_enter Try.func6, Try.ntmps6
  go_upto_region 1 with fail
  generalize (w.alloc (.cells #[.int .i64 n, .int .i64 d, .slice la ln lc] 39)) = V at *
  go_upto_region 2 with (go_at_call 8; (with_reducible refine (pnew_yes 1 2 8 _ HM.out).mono ?_); rintro e z ⟨u0, rfl, ho, hab, hs, hb⟩; have HO := Hk.mk (ho.weak HBW.out.size); have HA := Hk.mk hab; have HS := Hk.mk hs; have HB := Hk.mk (HBW.out.trans (hb.mono HBW.out.size)); have hbk := Hk.mk hb; clear ho hab hs hb)
  have HPB : Hk (Bx (z.alloc (.cells (jjP u0) 28)) z.heap.size u0) := ⟨Bx.new z u0⟩
  have HO2 : Hk (PvO (z.alloc (.cells (jjP u0) 28)) w.heap.size u0) := ⟨HO.out.below (below_al _ _)⟩
  have HB2 : Hk (Below w.heap.size w (z.alloc (.cells (jjP u0) 28))) := ⟨kw_al HB.out (Nat.le_refl _) _⟩
  have HX2 : Hk (Bk (z.alloc (.cells (jjP u0) 28)) w.heap.size #[.int .i64 n, .int .i64 d, .slice la ln lc]) := ⟨(HPX.out.below (hbk.out)).al _⟩
  have HPN : Hk (w.heap.size < z.heap.size) := ⟨Nat.lt_of_lt_of_le HPX.out.lt hbk.out.size⟩
  have HA0 : Hk (u0.ab = spT 0) := ⟨HA.out.trans spT_beg⟩
  clear HO HB HPX HA HM hbk HBW
  generalize z.heap.size = P at *
  generalize (z.alloc (.cells (jjP u0) 28)) = V2 at *
  go_wp2_with (go_at_call 9; (with_reducible refine (num28_any _ _).mono ?_); rintro e z2 ⟨rfl, hz⟩; rw [hz]; clear hz z2)
  go_loopw [5] (fun x wr => ∃ (k : Nat) (u : Pv), x = .int .i64 k ∧ k ≤ 8 ∧ Hk (Bx wr P u) ∧ Hk (PvO wr w.heap.size u) ∧ Hk (u.ab = spT k) ∧ Hk (PvS u) ∧ Hk (Bk wr w.heap.size #[.int .i64 n, .int .i64 d, .slice la ln lc]) ∧ Hk (Below w.heap.size w wr)) (fun x _ => 8 - (intOf x).toNat)
  case atStart => exact ⟨0, u0, rfl, by omega, HPB, HO2, HA0, HS, HX2, HB2⟩
  case round =>
    clear HPB HO2 HA0 HS HX2 HB2
    obtain ⟨k, u, rfl, hk, HPB, HO, HA, HS, HX, HB⟩ := hrel
    obtain ⟨x0, x1, x2, x3, x4, x5, x6, x7, x8, x9, x10, xl⟩ := HPB.out.cs
    by_cases hlt : k < 8
    · have t1 : (k : Int) < 8 := by omega
      obtain ⟨hh, ehh⟩ : ∃ x, 100 + (k : Int) = x := ⟨_, rfl⟩
      have g1 : IntKind.i64.wrap (100 + (k : Int)) = hh := by rw [wr27 (by omega) (by omega)]; exact ehh
      have g2 : IntKind.u64.wrap hh = hh := by rw [IntKind.wrap_u64]; omega
      have HHH := Hk.mk ehh
      have HK : Hk (OkP u.ab) := ⟨by rw [HA.out]; exact spT_ok hk⟩
      have HE : Hk (u.t < 1099511627776 ∧ u.t ≤ minL u.hl) := ⟨by
        have e1 : u.t = (k : Int) := congrArg Pm.t HA.out
        have e2 : u.hl = [7, 7] := congrArg Pm.h HA.out
        rw [e1, e2]
        show (k : Int) < 1099511627776 ∧ (k : Int) ≤ min 7 7
        omega⟩
      have HLT := Hk.mk hlt
      have gk : IntKind.i64.wrap ((k : Int) + 1) = ((k + 1 : Nat) : Int) := by push_cast; exact wr27 (by omega) (by omega)
      clear ehh hlt
      go_upto_region 8 with (go_at_call 19; (with_reducible refine (pran_yes u hh _ HO.out.d HS.out HK.out HE.out).mono ?_); rintro e z ⟨u2, rfl, ho, hab, hs, hb⟩; have HO2 := Hk.mk (ho.weak HB.out.size); have HA2 := Hk.mk hab; have HS2 := Hk.mk hs; have hbk := Hk.mk hb; clear ho hab hs hb)
      clear x0 x1 x2 x3 x4 x5 x6 x7 x8 x9 x10 xl
      have HP3 : Hk (Bx (z.alloc (.cells (jjP u2) 28)) P u) := ⟨(HPB.out.below hbk.out).al _⟩
      have HX3 : Hk (Bx (z.alloc (.cells (jjP u2) 28)) z.heap.size u2) := ⟨Bx.new z u2⟩
      have HO3 : Hk (PvO (z.alloc (.cells (jjP u2) 28)) w.heap.size u2) := ⟨HO2.out.below (below_al _ _)⟩
      have HB3 : Hk (Below w.heap.size w (z.alloc (.cells (jjP u2) 28))) := ⟨kw_al (HB.out.trans (hbk.out.mono HB.out.size)) (Nat.le_refl _) _⟩
      have HY3 : Hk (Bk (z.alloc (.cells (jjP u2) 28)) w.heap.size #[.int .i64 n, .int .i64 d, .slice la ln lc]) := ⟨(HX.out.below hbk.out).al _⟩
      have HNX : Hk (¬ P = z.heap.size) := ⟨by have := HPB.out.lt; have := hbk.out.size; omega⟩
      clear HPB HO HX HB HO2 hbk HK HE HS
      generalize z.heap.size = Xb at *
      generalize (z.alloc (.cells (jjP u2) 28)) = V3 at *
      obtain ⟨x0, x1, x2, x3, x4, x5, x6, x7, x8, x9, x10, xl⟩ := HX3.out.cs
      obtain ⟨j0, j1, j2, j3, j4, j5, j6, j7, j8, j9, j10⟩ := HP3.out.fs
      obtain ⟨m0, m1, m2, m3, m4, m5, m6, m7, m8, m9, m10, ml⟩ := HP3.out.cs
      have HKP := Hk.mk (Kt.put (B := w.heap.size) HP3.out (Nat.le_of_lt HPN.out) u2)
      have HX4 : Hk (Bk ((((((((((((World.setCell V3 ⟨P, 0, none⟩ (.int .i64 u2.i)).setCell ⟨P, 1, none⟩ (.int .i64 u2.n)).setCell ⟨P, 2, none⟩ (.int .i64 u2.d)).setCell ⟨P, 3, none⟩ (.int .i64 u2.t)).setCell ⟨P, 4, none⟩ (.int .i64 u2.s)).setCell ⟨P, 5, none⟩ (.slice u2.ma u2.mn u2.mc)).setCell ⟨P, 6, none⟩ (.slice u2.la u2.ln u2.lc)).setCell ⟨P, 7, none⟩ (.slice u2.ha u2.hn u2.hc)).setCell ⟨P, 8, none⟩ (.slice u2.aa u2.an u2.ac)).setCell ⟨P, 9, none⟩ (.slice u2.xa u2.xn u2.xc)).setCell ⟨P, 10, none⟩ (.bool u2.b))) w.heap.size #[.int .i64 n, .int .i64 d, .slice la ln lc]) := ⟨HY3.out.frz (fr_put u2) (by have := HPN.out; omega)⟩
      go_wp2_with (go_at_call 9; (with_reducible refine (num28_any _ _).mono ?_); rintro e z2 ⟨rfl, hz⟩; rw [hz]; clear hz z2)
      exact ⟨⟨k + 1, u2, by go_num, by have := HLT.out; omega, ⟨HP3.out.put u2⟩, ⟨HKP.out.pvo HO3.out⟩, ⟨by rw [HA2.out, HA.out, ← HHH.out]; exact spT_run HLT.out⟩, HS2, HX4, ⟨HB3.out.trans HKP.out.bl⟩⟩, by have := HLT.out; simp [intOf]; omega⟩
    · obtain rfl : k = 8 := by omega
      have HE8 : Hk (OkP u.ab) := ⟨by rw [HA.out]; exact spT_ok (Nat.le_refl _)⟩
      have HLN : Hk (u.ln + 1 ≤ 1048576) := ⟨by have := spT_ll HO.out.d HA.out; omega⟩
      clear x0 x1 x2 x3 x4 x5 x6 x7 x8 x9 x10 xl
      have t1 : ¬ (((8 : Nat) : Int) < 8) := by omega
      go_wp2
      go_loopw [8] (fun x wx => ∃ t : Int, x = .int .i64 t ∧ -1 ≤ t ∧ t ≤ 11 ∧ Hk (Bx wx P u) ∧ Hk (PvO wx w.heap.size u) ∧ Hk (Bk wx w.heap.size #[.int .i64 n, .int .i64 d, .slice la ln lc]) ∧ Hk (Below w.heap.size w wx)) (fun x _ => (11 - intOf x).toNat)
      case atStart => exact ⟨-1, rfl, by omega, by omega, HPB, HO, HX, HB⟩
      case round =>
        clear HPB HO HX HB t1 hlt
        obtain ⟨t, rfl, ht0, ht1, HPB, HO, HX, HB⟩ := hrel
        by_cases hlt : t ≤ 10
        · have HT := Hk.mk hlt
          have HT0 := Hk.mk ht0
          have gt : IntKind.i64.wrap (t + 1) = t + 1 := wr27 (by omega) (by omega)
          clear ht1
          obtain ⟨wo, hwo⟩ : ∃ wo : World, wo = wr := ⟨wr, rfl⟩
          go_wp2
          go_loopw [9] (fun y wx => ∃ k : Nat, y = .int .i64 k ∧ k ≤ 2 ∧ Hk (Bx wx P u) ∧ Hk (PvO wx w.heap.size u) ∧ Hk (Bk wx w.heap.size #[.int .i64 n, .int .i64 d, .slice la ln lc]) ∧ Hk (Below w.heap.size w wx)) (fun y _ => 2 - (intOf y).toNat)
          case atStart => exact ⟨0, rfl, by omega, by rw [← hwo]; rw [← hwo] at HPB; exact HPB, HO, HX, HB⟩
          case round =>
            clear HPB HO HX HB hwo wo
            obtain ⟨k, rfl, hk2, HPB, HO, HX, HB⟩ := hrel
            by_cases hk : k < 2
            · have u1 : (k : Int) < 2 := by omega
              have HKT := Hk.mk hk
              obtain ⟨h0, eh0⟩ : ∃ x, 100 + t = x := ⟨_, rfl⟩
              obtain ⟨h1, eh1⟩ : ∃ x, h0 + (k : Int) = x := ⟨_, rfl⟩
              have g1 : IntKind.i64.wrap (100 + t) = h0 := by rw [wr27 (by omega) (by omega)]; exact eh0
              have g2 : IntKind.i64.wrap (h0 + (k : Int)) = h1 := by rw [wr27 (by omega) (by omega)]; exact eh1
              have g3 : IntKind.u64.wrap h1 = h1 := by rw [IntKind.wrap_u64]; omega
              have gk : IntKind.i64.wrap ((k : Int) + 1) = ((k + 1 : Nat) : Int) := by push_cast; exact wr27 (by omega) (by omega)
              have HH1 : Hk (h1 = 100 + t + (k : Int)) := ⟨by omega⟩
              clear eh0 eh1
              go_upto_region 18 with fail
              have HNb : Hk (Bk (wr.alloc (.cells #[.int .i64 2, .int .i64 1, .int .i64 (-1), .int .i64 0, .slice none 0 0, .int .i64 t, .int .u64 h1, .int .i64 (-1)] 58)) wr.heap.size #[.int .i64 2, .int .i64 1, .int .i64 (-1), .int .i64 0, .slice none 0 0, .int .i64 t, .int .u64 h1, .int .i64 (-1)]) := ⟨Bk.new wr #[.int .i64 2, .int .i64 1, .int .i64 (-1), .int .i64 0, .slice none 0 0, .int .i64 t, .int .u64 h1, .int .i64 (-1)] 58⟩
              have HP3 : Hk (Bx (wr.alloc (.cells #[.int .i64 2, .int .i64 1, .int .i64 (-1), .int .i64 0, .slice none 0 0, .int .i64 t, .int .u64 h1, .int .i64 (-1)] 58)) P u) := ⟨HPB.out.al _⟩
              have HO3 : Hk (PvO (wr.alloc (.cells #[.int .i64 2, .int .i64 1, .int .i64 (-1), .int .i64 0, .slice none 0 0, .int .i64 t, .int .u64 h1, .int .i64 (-1)] 58)) w.heap.size u) := ⟨HO.out.below (below_al _ _)⟩
              have HO4 : Hk (PvO ((wr.alloc (.cells #[.int .i64 2, .int .i64 1, .int .i64 (-1), .int .i64 0, .slice none 0 0, .int .i64 t, .int .u64 h1, .int .i64 (-1)] 58)).setCell ⟨wr.heap.size, 6, none⟩ (.int .u64 0)) w.heap.size u) := ⟨HO.out.below ((below_al _ _).setCell (p := ⟨wr.heap.size, 6, none⟩) (Nat.le_refl _) _)⟩
              have HX3 : Hk (Bk (wr.alloc (.cells #[.int .i64 2, .int .i64 1, .int .i64 (-1), .int .i64 0, .slice none 0 0, .int .i64 t, .int .u64 h1, .int .i64 (-1)] 58)) w.heap.size #[.int .i64 n, .int .i64 d, .slice la ln lc]) := ⟨HX.out.al _⟩
              have HB3 : Hk (Below w.heap.size w (wr.alloc (.cells #[.int .i64 2, .int .i64 1, .int .i64 (-1), .int .i64 0, .slice none 0 0, .int .i64 t, .int .u64 h1, .int .i64 (-1)] 58))) := ⟨kw_al HB.out (Nat.le_refl _) _⟩
              have HNP : Hk (¬ P = wr.heap.size ∧ ¬ w.heap.size = wr.heap.size ∧ w.heap.size ≤ wr.heap.size) := ⟨by have := HPB.out.lt; have := HX.out.lt; omega⟩
              clear HPB HO HX HB
              generalize wr.heap.size = Nb at *
              generalize (wr.alloc (.cells #[.int .i64 2, .int .i64 1, .int .i64 (-1), .int .i64 0, .slice none 0 0, .int .i64 t, .int .u64 h1, .int .i64 (-1)] 58)) = V3 at *
              obtain ⟨bt, fbt⟩ : ∃ b, (t == -1) = b := ⟨_, rfl⟩
              have HBT : Hk (bt = true ↔ t = -1) := ⟨by rw [← fbt, beq_iff_eq]⟩
              go_upto_if 53 with fail
              clear fbt
              go_cut [] (fun wx => ∃ hz : Int, Hk (hz = if t = -1 then 0 else h1) ∧ Hk (Bk wx Nb #[.int .i64 2, .int .i64 1, .int .i64 (-1), .int .i64 0, .slice none 0 0, .int .i64 t, .int .u64 hz, .int .i64 (-1)]) ∧ Hk (Bx wx P u) ∧ Hk (PvO wx w.heap.size u) ∧ Hk (Bk wx w.heap.size #[.int .i64 n, .int .i64 d, .slice la ln lc]) ∧ Hk (Below w.heap.size w wx))
              case first =>
                cases bt
                · have HNE : Hk (¬ t = -1) := ⟨fun e => by have := HBT.out.2 e; cases this⟩
                  go_wp2
                  go_meet
                  case rel => exact ⟨h1, ⟨by rw [if_neg HNE.out]⟩, HNb, HP3, HO3, HX3, HB3⟩
                · have HNE : Hk (t = -1) := ⟨HBT.out.1 (by first | rfl | trivial)⟩
                  have nb6 := HNb.out.c 6
                  have nf6 := HNb.out.f 6
                  have nbl := HNb.out.lt
                  simp at nb6
                  have HFq : Hk (Fr (fun j => j = Nb) V3 (V3.setCell ⟨Nb, 6, none⟩ (.int .u64 0))) := ⟨Fr.setCell (M := fun j => j = Nb) (p := ⟨Nb, 6, none⟩) (Fr.refl _ V3) (fun _ => rfl) _⟩
                  go_wp2
                  go_meet
                  case rel => exact ⟨0, ⟨by rw [if_pos HNE.out]⟩, ⟨HNb.out.set 6 (.int .u64 0)⟩, ⟨HP3.out.fr HFq.out HNP.out.1⟩, HO4, ⟨HX3.out.oth HNP.out.2.1 _ _⟩, ⟨HB3.out.setCell (p := ⟨Nb, 6, none⟩) HNP.out.2.2 _⟩⟩
              case rest =>
              clear HO4
              obtain ⟨hz, HHZ, HN4, HP4, HO4, HX4, HB4⟩ := hcut
              clear HNb HP3 HO3 HX3 HB3 HBT
              generalize wc = V4 at *
              have HVB0 : Hk ((takeM (spT 8) (spN t hz)).b = decide (0 ≤ t ∧ t < 8 ∧ ¬ 100 + t = hz)) := ⟨spN_take HT0.out⟩
              have HFR : Hk (ForP u.ab (⟨2, 1, ⟨-1, 0, none, 0, 0, []⟩, t, hz, -1⟩ : Nv).ab) := ⟨by show ForP u.ab (spN t hz); rw [HA.out]; exact spN_for HT0.out (by have := HT.out; omega) (by rw [HHZ.out]; by_cases e : t = -1; exact .inr (if_pos e); exact .inl (by have := HT0.out; omega)) 8⟩
              have HEF : Hk (¬ u.t + 16 < -1) := ⟨by have e1 : u.t = ((8 : Nat) : Int) := congrArg Pm.t HA.out; rw [e1]; omega⟩
              have HCN : Hk (CmD V4 V4.heap.size none 0 []) := ⟨CmD.nil _ _ _⟩
              obtain ⟨kb, fkb⟩ : ∃ b, ((k : Int) == 1) = b := ⟨_, rfl⟩
              obtain ⟨tb, ftb⟩ : ∃ b, decide (0 ≤ t) = b := ⟨_, rfl⟩
              obtain ⟨sb, fsb⟩ : ∃ b, decide (t < 8) = b := ⟨_, rfl⟩
              have HVB : Hk ((takeM (spT 8) (spN t hz)).b = (kb && tb && sb)) := ⟨by
                rw [HVB0.out, ← fkb, ← ftb, ← fsb, HHZ.out, HH1.out]
                have h2 := HKT.out
                by_cases e1 : t = -1
                · subst e1; simp
                · rw [if_neg e1]
                  have h0 := HT0.out
                  rcases (show k = 0 ∨ k = 1 by omega) with rfl | rfl
                  · simp
                  · by_cases e2 : t < 8
                    · rw [decide_eq_true (show 0 ≤ t by omega), decide_eq_true e2, decide_eq_true (show 0 ≤ t ∧ t < 8 ∧ ¬ 100 + t = 100 + t + ((1 : Nat) : Int) from ⟨by omega, e2, by omega⟩)]; rfl
                    · rw [decide_eq_false e2, decide_eq_false (show ¬ (0 ≤ t ∧ t < 8 ∧ ¬ 100 + t = 100 + t + ((1 : Nat) : Int)) from fun g => e2 g.2.1)]; simp⟩
              clear HVB0 HHZ HH1
              obtain ⟨x0, x1, x2, x3, x4, x5, x6, x7, x8, x9, x10, xl⟩ := HP4.out.cs
              have na0 := HN4.out.c 0; have na1 := HN4.out.c 1; have na2 := HN4.out.c 2; have na3 := HN4.out.c 3; have na4 := HN4.out.c 4; have na5 := HN4.out.c 5; have na6 := HN4.out.c 6; have na7 := HN4.out.c 7; have nal := HN4.out.lt; simp at na0 na1 na2 na3 na4 na5 na6 na7
              go_upto_region 21 with (go_at_call 15; (with_reducible refine (ptake_yes u (⟨2, 1, ⟨-1, 0, none, 0, 0, []⟩, t, hz, -1⟩ : Nv) _ HO4.out.d HS.out HCN.out SmC.nil HE8.out HFR.out HEF.out HLN.out).mono ?_); rintro e z ⟨v, rfl, ho, hab, hs, hb⟩; have HAV : Hk (v.ab = takeM u.ab (spN t hz)) := ⟨hab⟩; have hbk := Hk.mk hb; clear ho hab hs hb)
              clear na0 na1 na2 na3 na4 na5 na6 na7 nal
              clear x0 x1 x2 x3 x4 x5 x6 x7 x8 x9 x10 xl
              have HP5 : Hk (Bx (z.alloc (.cells (jjP v) 28)) P u) := ⟨(HP4.out.below hbk.out).al _⟩
              have HO5 : Hk (PvO (z.alloc (.cells (jjP v) 28)) w.heap.size u) := ⟨(HO4.out.below hbk.out).below (below_al _ _)⟩
              have HX5 : Hk (Bk (z.alloc (.cells (jjP v) 28)) w.heap.size #[.int .i64 n, .int .i64 d, .slice la ln lc]) := ⟨(HX4.out.below hbk.out).al _⟩
              have HB5 : Hk (Below w.heap.size w (z.alloc (.cells (jjP v) 28))) := ⟨kw_al (HB4.out.trans (hbk.out.mono HB4.out.size)) (Nat.le_refl _) _⟩
              have HV5 : Hk (Bx (z.alloc (.cells (jjP v) 28)) z.heap.size v) := ⟨Bx.new z v⟩
              have hvb : v.b = (kb && tb && sb) := by have e1 : v.b = (takeM u.ab (spN t hz)).b := congrArg Pm.b HAV.out; rw [HA.out] at e1; rw [e1]; exact HVB.out
              clear HP4 HO4 HX4 HB4 hbk HN4 HAV HVB HFR HEF
              generalize z.heap.size = Xb at *
              generalize (z.alloc (.cells (jjP v) 28)) = V5 at *
              obtain ⟨-, -, -, -, -, -, -, -, -, -, x10, xl⟩ := HV5.out.cs
              rw [hvb] at x10
              clear hvb
              cases kb
              case false =>
                simp at x10
                go_wp2_with (go_at_call 9; (with_reducible refine (num28_any _ _).mono ?_); rintro e z2 ⟨rfl, hz⟩; rw [hz]; clear hz z2)
                exact ⟨⟨k + 1, by go_num, by have := HKT.out; omega, HP5, HO5, HX5, HB5⟩, by have := HKT.out; simp [intOf]; omega⟩
              case true =>
                cases tb
                case false =>
                  simp at x10
                  go_wp2_with (go_at_call 9; (with_reducible refine (num28_any _ _).mono ?_); rintro e z2 ⟨rfl, hz⟩; rw [hz]; clear hz z2)
                  exact ⟨⟨k + 1, by go_num, by have := HKT.out; omega, HP5, HO5, HX5, HB5⟩, by have := HKT.out; simp [intOf]; omega⟩
                case true =>
                  cases sb
                  case false =>
                    simp at x10
                    go_wp2_with (go_at_call 9; (with_reducible refine (num28_any _ _).mono ?_); rintro e z2 ⟨rfl, hz⟩; rw [hz]; clear hz z2)
                    exact ⟨⟨k + 1, by go_num, by have := HKT.out; omega, HP5, HO5, HX5, HB5⟩, by have := HKT.out; simp [intOf]; omega⟩
                  case true =>
                    simp at x10
                    go_wp2_with (go_at_call 9; (with_reducible refine (num28_any _ _).mono ?_); rintro e z2 ⟨rfl, hz⟩; rw [hz]; clear hz z2)
                    exact ⟨⟨k + 1, by go_num, by have := HKT.out; omega, HP5, HO5, HX5, HB5⟩, by have := HKT.out; simp [intOf]; omega⟩
            · obtain rfl : k = 2 := by omega
              have u1 : ¬ (((2 : Nat) : Int) < 2) := by omega
              go_wp2
              exact ⟨⟨t + 1, by go_num, by have := HT0.out; omega, by have := HT.out; omega, HPB, HO, HX, HB⟩, by have := HT.out; simp [intOf]; omega⟩
        · obtain ⟨c0, c1, c2⟩ := (show wr.cell? ⟨w.heap.size, 0, none⟩ = some (.int .i64 n) ∧ wr.cell? ⟨w.heap.size, 1, none⟩ = some (.int .i64 d) ∧ wr.cell? ⟨w.heap.size, 2, none⟩ = some (.slice la ln lc) from ⟨HX.out.c 0, HX.out.c 1, HX.out.c 2⟩)
          have cl := HX.out.lt
          have l0 : (0 : Int) ≤ (ln : Int) := by omega
          go_wp2_with (go_at_call 11; (with_reducible refine (wakes28_any _).mono ?_); rintro e z9 ⟨rfl, hb⟩; have HB9 := Hk.mk (HB.out.trans (hb.mono HB.out.size)); clear hb)
          go_ret
          exact ⟨rfl, HB9.out⟩

theorem peerSplits_own : ownKnob Try.prog.godebug = none := by kernel_rfl
theorem peerSplits_laidOut : laidOutB Try.prog = true := by kernel_rfl
set_option maxRecDepth 100000 in
theorem peerSplits_lifted (os : Os) (started : os.Started) (H : Type) (enc : TypeId × Value → H) :
    ReturnsInHanded {} Try.checked os 6 .any (Rows.peerSplitsSpec.pre6 enc Try.prog Try.f6 Rows.peerSplitsRow.domain false) (Rows.peerSplitsSpec.post enc Try.prog Try.f6 false true false false) := by
  refine returnsInHanded_of_change (C := Try.checked) peerSplits_own started (by kernel_rfl) Try.func6
    (ChangeSpec.witness6 (enc := enc) (C := Try.checked) false ⟨#[], #[.agg #[.int .i64 0, .int .i64 0, .slice none 0 0]], []⟩ 8 (by kernel_rfl) (by kernel_rfl) (by kernel_rfl) (by kernel_rfl)) ?_
  intro W base args ds gs before hval0 hW hcnd _
  have hval : ∀ (j : Nat) t v, Try.f6.params[j]? = some t → args[j]? = some v → Value.okWide Try.prog W .any base t v := hval0
  have hW' := hW
  obtain ⟨p, q, hA0, hV, rfl, hfz, hnd⟩ := hW
  have hA : DataW.TrodAll enc Try.prog W 0 (fun _ => true) true Try.f6.params.toList args.toList ds p := hA0
  rw [Try.params6] at hA hval
  obtain ⟨v0, vs0, d0, ds0, p0, q0, hargs, rfl, rfl, h0, r0⟩ := trodAll_cons hA
  obtain ⟨rfl, rfl, rfl⟩ := trodAll_nil r0
  obtain rfl : args = #[v0] := by cases args; simp_all
  obtain ⟨rfl, rfl⟩ := trodVars_none hV
  obtain ⟨cs0, rfl, hcs0⟩ := okWide_struct Try.underlying39 (hval 0 39 v0 rfl rfl)
  have k0 := h0
  have lt0 : ∀ x ∈ p0, x.block < W.heap.size := by obtain ⟨m, hm⟩ := k0; exact DataW.trod_lt m _ _ _ hm
  have rows : Asks28w W (.agg cs0) := by obtain ⟨fuel, hf⟩ := h0; exact asks28w_of hcs0 hf
  clear hA0 hval0
  refine (peerSplits_walk (.agg cs0) W rows).mono fun e W' ⟨he, bel⟩ => ?_
  subst he
  exact ⟨_, rfl, _, _, _, [], _, [], hW', trodAll_mk1 (shut_bool Try.underlying4 _), (trodAll_cons_mk (Below.trod peerSplits_laidOut (by kernel_rfl) (of_decide_eq_true (by kernel_rfl)) k0 bel lt0) trodAll_mk0), rfl, bel.frame _, fun h => by cases h⟩
theorem peerSplits_over : Rows.peerSplitsRow.holds Try.pinned (OpenSpec.ofChange Rows.peerSplitsSpec) :=
  OpenClaim.holds_of_wide 6 Try.f6 rfl rfl rfl rfl rfl rfl rfl ⟨rfl, rfl, rfl, rfl, rfl⟩ rfl rfl rfl rfl rfl (by kernel_rfl) Try.func6 (by kernel_rfl)
    (of_decide_eq_true (by kernel_rfl)) (by unfold Func.isWrapper; first | (rw [if_pos (by decide +kernel)]; kernel_rfl) | (rw [if_neg (by decide +kernel)]; exact ⟨rfl, rfl⟩))
    (fun os started H enc _ => peerSplits_lifted os started H enc)
/-- The given statement of PeerSplits. -/
theorem peerSplits_holds : Rows.PeerSplitsSaid := peerSplits_over
end Go.Proofs.Ytdpblimhfmfbnaa

