import Derived.Deep.QuietTactic
import Derived.BigQuiet
import Derived.Deep.RegionWith
import Derived.Deep.RegionHeld3
import Derived.Deep.DeepCutAuto
import Derived.Deep.DeepFit
import Derived.Outline
import Derived.ProofKit
import Derived.OpenShut
import Derived.ChangeSame
import Derived.Test.YtdpblimhfmfbnaaZsaq
import Derived.Test.YtdpblimhfmfbnaaZsap
import Derived.Test.YtdpblimhfmfbnaaZsaj
import Derived.Test.YtdpblimhfmfbnaaZsao
/- For every argument, PeerAlone answers true and leaves its argument as it was: alone a peer goes on as long as it says something. No condition. -/
namespace Go.Proofs.Ytdpblimhfmfbnaa
open Go.ChangeShapes Go.WideShapes Go.ChangeAt Go.RowKit Go.Deep
set_option linter.unusedVariables false
set_option linter.unusedSimpArgs false
theorem al_none {y : Pv} {M2 : List Cv} {d s : Int} {k m : Nat} (h : AlP d k s m y.ab) (hab : abC M2 = flR (mergeN ((abI y.ll).filter (fun x => x.t == y.t)))) (ht : (k : Int) < d) : M2.length = 0 := by
  have e3 : (abI y.ll).filter (fun x => x.t == y.t) = [] := h.none ht
  rw [e3] at hab
  have e4 : abC M2 = [] := hab
  have e5 := congrArg List.length e4
  rw [abC_len] at e5
  exact e5
theorem al_notes {u : Pv} {L : List Nv} {d s : Int} {k m n : Nat} (h : AlP d k s m u.ab) (hab : abN L = nsM u.ab u.n.toNat) (hl : L.length = n) : n = 0 := by
  have e1 : u.n = 1 := h.en
  have e2 : u.ab.i = 1 := h.ei
  rw [e1] at hab
  have e3 : nsM u.ab (1 : Int).toNat = [] := by
    show (if ((0 : Nat) : Int) + 1 = u.ab.i then nsM u.ab 0 else _) = []
    rw [e2, if_pos (by decide)]
    rfl
  rw [e3] at hab
  have e4 := congrArg List.length hab
  rw [abN_len, hl] at e4
  exact e4
theorem lit_cmd (w : World) (t : Int) : CmD ((w.alloc (.cells (jkC 1 t 5 7 none 0 0 0 0 0 0 0) 50))) ((w.alloc (.cells (jkC 1 t 5 7 none 0 0 0 0 0 0 0) 50))).heap.size (some ⟨w.heap.size, 0, none⟩) 1 [(⟨1, t, 5, 7, none, 0, 0, 0, 0, 0, 0, 0, []⟩ : Cv)] ∧ SmC [(⟨1, t, 5, 7, none, 0, 0, 0, 0, 0, 0, 0, []⟩ : Cv)] := by
  have hb := Bk.new w (jkC 1 t 5 7 none 0 0 0 0 0 0 0) 50
  refine ⟨⟨⟨rfl, fun _ => ⟨w.heap.size, 0, rfl, hb.lt, fun k hk j hj => ?_⟩⟩, fun x hx => ?_⟩, by simp, fun x hx => ?_⟩
  · have hk1 : k < 1 := hk
    obtain rfl : k = 0 := by omega
    have h := hb.c j
    have e : 0 + 0 * shC.z + j = j := by omega
    rw [e, h, List.getElem?_toArray]
    rfl
  · obtain rfl := List.mem_singleton.1 hx
    exact ⟨rfl, fun h => absurd h (Nat.lt_irrefl 0)⟩
  · obtain rfl := List.mem_singleton.1 hx
    exact Nat.zero_le _
set_option maxRecDepth 100000 in
set_option maxHeartbeats 3200000 in
theorem peerAlone_walk (v : Value) (w : World) (rows : Asks28w w v) :
    Calls Try.prog 5 #[v] w fun e w' => e = .returned (.bool true) ∧ Below w.heap.size w w' := by
  obtain ⟨n, dl, la, ln, lc, rfl, -, -⟩ := rows
  have HBW : Hk (Below w.heap.size w (w.alloc (.cells #[.int .i64 n, .int .i64 dl, .slice la ln lc] 39))) := ⟨below_al _ _⟩
  have HPX : Hk (Bk (w.alloc (.cells #[.int .i64 n, .int .i64 dl, .slice la ln lc] 39)) w.heap.size #[.int .i64 n, .int .i64 dl, .slice la ln lc]) := ⟨Bk.new w #[.int .i64 n, .int .i64 dl, .slice la ln lc] 39⟩
  obtain ⟨ud, hud⟩ : ∃ x, IntKind.u64.wrap dl = x := ⟨_, rfl⟩
  have hud0 : 0 ≤ ud := by rw [← hud, IntKind.wrap_u64]; omega
  obtain ⟨rm, hrm⟩ : ∃ x, ud.tmod 8 = x := ⟨_, rfl⟩
  have hrm1 : 0 ≤ rm ∧ rm ≤ 7 := by
    rw [Int.tmod_eq_emod_of_nonneg hud0] at hrm
    omega
  obtain ⟨d, hd⟩ : ∃ x, 1 + rm = x := ⟨_, rfl⟩
  have g1 : IntKind.u64.wrap rm = rm := by rw [IntKind.wrap_u64]; omega
  have g2 : IntKind.i64.wrap rm = rm := wr27 (by omega) (by omega)
  have g3 : IntKind.i64.wrap (1 + rm) = d := by rw [wr27 (by omega) (by omega)]; exact hd
  have HDD : Hk (1 ≤ d ∧ d ≤ 8) := ⟨by omega⟩
  have HM : Hk (MayP 1 1 d) := ⟨by unfold MayP; omega⟩
  clear hd hud0 hrm1
  go_enter Try.func5, Try.ntmps5
  go_upto_region 1 with fail
  generalize (w.alloc (.cells #[.int .i64 n, .int .i64 dl, .slice la ln lc] 39)) = V at *
  have c1 := HPX.out.c 1
  have cl := HPX.out.lt
  simp at c1
  go_upto_region 2 with fail
  go_upto_region 3 with (go_at_call 8; (with_reducible refine (pnew_yes 1 1 d _ HM.out).mono ?_); rintro e z ⟨u0, rfl, ho, hab, hs, hb⟩; have HO := Hk.mk (ho.weak HBW.out.size); have HA := Hk.mk hab; have HS := Hk.mk hs; have HB := Hk.mk (HBW.out.trans (hb.mono HBW.out.size)); have hbk := Hk.mk hb; clear ho hab hs hb)
  have HPB : Hk (Bx (z.alloc (.cells (jjP u0) 28)) z.heap.size u0) := ⟨Bx.new z u0⟩
  have HO2 : Hk (PvO (z.alloc (.cells (jjP u0) 28)) w.heap.size u0) := ⟨HO.out.below (below_al _ _)⟩
  have HB2 : Hk (Below w.heap.size w (z.alloc (.cells (jjP u0) 28))) := ⟨kw_al HB.out (Nat.le_refl _) _⟩
  have HPN : Hk (w.heap.size ≤ z.heap.size) := ⟨HB.out.size⟩
  have HAL0 : Hk (AlP d 0 (d - 1) 0 u0.ab) := ⟨by rw [HA.out]; exact beg_al HDD.out.1 HDD.out.2⟩
  clear HO HB HPX HA HM hbk HBW c1 cl g1 g2 g3 hud hrm
  generalize z.heap.size = P at *
  generalize (z.alloc (.cells (jjP u0) 28)) = V2 at *
  go_wp2_with (go_at_call 9; (with_reducible refine (num28_any _ _).mono ?_); rintro e z2 ⟨rfl, hz⟩; rw [hz]; clear hz z2)
  go_loopw [6] (fun x wr => ∃ (k : Nat) (y : Pv), x = .int .i64 k ∧ k ≤ 30 ∧ Hk (Bx wr P y) ∧ Hk (PvO wr w.heap.size y) ∧ Hk (AlP d k (if k = 0 then d - 1 else (k : Int) + d - 2) k y.ab) ∧ Hk (PvS y) ∧ Hk (Below w.heap.size w wr)) (fun x _ => 30 - (intOf x).toNat)
  case atStart => exact ⟨0, u0, rfl, by omega, HPB, HO2, HAL0, HS, HB2⟩
  case round =>
    clear HPB HO2 HAL0 HS HB2
    obtain ⟨k, y, rfl, hk, HPB, HO, HAL, HSY, HB⟩ := hrel
    by_cases hlt : k < 30
    · have t1 : (k : Int) < 30 := by omega
      have HLT := Hk.mk hlt
      have HOL : Hk (PvO ((wr.alloc (.cells #[.int .i64 1, .int .i64 (k : Int), .int .i64 5, .int .i64 7, .slice none 0 0, .int .i64 0, .int .i64 0, .int .i64 0, .int .i64 0, .int .i64 0] 50))) w.heap.size y) := ⟨HO.out.below (below_al _ _)⟩
      have HBL : Hk (Below w.heap.size w ((wr.alloc (.cells #[.int .i64 1, .int .i64 (k : Int), .int .i64 5, .int .i64 7, .slice none 0 0, .int .i64 0, .int .i64 0, .int .i64 0, .int .i64 0, .int .i64 0] 50)))) := ⟨kw_al HB.out (Nat.le_refl _) _⟩
      have HCL := Hk.mk (lit_cmd wr (k : Int))
      have HPL : Hk (Bx ((wr.alloc (.cells #[.int .i64 1, .int .i64 (k : Int), .int .i64 5, .int .i64 7, .slice none 0 0, .int .i64 0, .int .i64 0, .int .i64 0, .int .i64 0, .int .i64 0] 50))) P y) := ⟨HPB.out.al _⟩
      clear hlt hk
      obtain ⟨x0, x1, x2, x3, x4, x5, x6, x7, x8, x9, x10, xl⟩ := HPB.out.cs
      by_cases hk0 : k = 0
      · have HEE : Hk (y.s = y.t + y.d - 1 ∨ y.s = 1099511627776) := ⟨by
          have e1 : y.s = if k = 0 then d - 1 else (k : Int) + d - 2 := HAL.out.es
          have e2 : y.t = (k : Int) := HAL.out.et
          have e3 : y.d = d := HAL.out.ed
          rw [if_pos hk0] at e1
          left; omega⟩
        have HK0 := Hk.mk hk0
        clear hk0
        go_upto_region 9 with (go_at_call 13; (with_reducible refine (psay_state y (some ⟨wr.heap.size, 0, none⟩) 1 1 _ HOL.out.d HSY.out HAL.out.ok HEE.out).mono ?_); rintro e z ⟨rfl, hb⟩; have hbk := Hk.mk hb; clear hb)
        clear x0 x1 x2 x3 x4 x5 x6 x7 x8 x9 x10 xl
        have HPR : Hk (Bx (z.alloc (.cells jjZ 28)) P y) := ⟨(HPL.out.below hbk.out).al _⟩
        have HOR : Hk (PvO (z.alloc (.cells jjZ 28)) w.heap.size y) := ⟨(HOL.out.below hbk.out).below (below_al _ _)⟩
        have HBR : Hk (Below w.heap.size w (z.alloc (.cells jjZ 28))) := ⟨kw_al (HBL.out.trans (hbk.out.mono HBL.out.size)) (Nat.le_refl _) _⟩
        have HALR : Hk (AlP d k ((k : Int) + d - 1) (k + 1) y.ab) := ⟨by
          obtain ⟨a1, a2, a3, a4, a5, a6, a7, a8, a9⟩ := HAL.out
          exact ⟨a1, a2, a3, a4, a5, by rw [a6, if_pos HK0.out]; have := HK0.out; omega, a7, by omega, a9⟩⟩
        have HSR := Hk.mk HSY.out
        have f1 : decide (d ≤ (k : Int)) = false := decide_eq_false (by have := HK0.out; have := HDD.out; omega)
        have f2 : decide ((k : Int) < d) = true := decide_eq_true (by have := HK0.out; have := HDD.out; omega)
        have HTD : Hk ((k : Int) < d) := ⟨by have := HK0.out; have := HDD.out; omega⟩
        clear HPL HOL HBL hbk HAL HSY HEE HPB HO HB HCL HK0
        generalize z.heap.size = Xb at *
        generalize (z.alloc (.cells jjZ 28)) = V5 at *
        have HGO : Hk (y.t < 1099511627776 ∧ y.t ≤ minL y.hl) := ⟨HALR.out.go (by have := HLT.out; omega) (by have := HDD.out; omega)⟩
        obtain ⟨x0, x1, x2, x3, x4, x5, x6, x7, x8, x9, x10, xl⟩ := HPR.out.cs
        have gu : IntKind.u64.wrap (k : Int) = (k : Int) := by rw [IntKind.wrap_u64]; have := HLT.out; omega
        have gk : IntKind.i64.wrap ((k : Int) + 1) = ((k + 1 : Nat) : Int) := by have := HLT.out; push_cast; exact wr27 (by omega) (by omega)
        go_upto_region 14 with (first | (go_at_call 9; (with_reducible refine (num28_any _ _).mono ?_); rintro e z2 ⟨rfl, hz⟩; rw [hz]; clear hz z2) | (go_at_call 16; (with_reducible refine (pready_yes y _ HOR.out.d HSR.out HALR.out.ok HGO.out).mono ?_); rintro e z ⟨a2, c2, M2, rfl, ho, hab, hb⟩; have HML : Hk ((k : Int) < d → M2.length = 0) := ⟨fun ht => al_none HALR.out hab ht⟩; have HPq := Hk.mk (HPR.out.below hb); have HOq := Hk.mk (HOR.out.below hb); have HBq := Hk.mk (HBR.out.trans (hb.mono HBR.out.size)); clear ho hab hb HPR HOR HBR; have HPR := HPq; have HOR := HOq; have HBR := HBq; clear HPq HOq HBq; clear x0 x1 x2 x3 x4 x5 x6 x7 x8 x9 x10 xl; obtain ⟨x0, x1, x2, x3, x4, x5, x6, x7, x8, x9, x10, xl⟩ := HPR.out.cs; generalize M2.length = ml at *))
        obtain rfl : ml = 0 := HML.out HTD.out
        go_upto_region 17 with (first | (go_at_call 9; (with_reducible refine (num28_any _ _).mono ?_); rintro e z2 ⟨rfl, hz⟩; rw [hz]; clear hz z2) | (go_at_call 19; (with_reducible refine (pran_yes y (k : Int) _ HOR.out.d HSR.out HALR.out.ok HGO.out).mono ?_); rintro e z ⟨u2, rfl, ho, hab, hs, hb⟩; have HO2 := Hk.mk (ho.weak HBR.out.size); have HA2 := Hk.mk hab; have HS2 := Hk.mk hs; have hbk := Hk.mk hb; clear ho hab hs hb))
        clear x0 x1 x2 x3 x4 x5 x6 x7 x8 x9 x10 xl
        have HP3 : Hk (Bx (z.alloc (.cells (jjP u2) 28)) P y) := ⟨(HPR.out.below hbk.out).al _⟩
        have HU3 : Hk (Bx (z.alloc (.cells (jjP u2) 28)) z.heap.size u2) := ⟨Bx.new z u2⟩
        have HO3 : Hk (PvO (z.alloc (.cells (jjP u2) 28)) w.heap.size u2) := ⟨HO2.out.below (below_al _ _)⟩
        have HB3 : Hk (Below w.heap.size w (z.alloc (.cells (jjP u2) 28))) := ⟨kw_al (HBR.out.trans (hbk.out.mono HBR.out.size)) (Nat.le_refl _) _⟩
        have HAL2 : Hk (AlP d (k + 1) (((k + 1 : Nat) : Int) + d - 2) (k + 1) u2.ab) := ⟨by rw [HA2.out]; exact HALR.out.run (by have := HLT.out; omega) HDD.out.1 HDD.out.2⟩
        clear HPR HOR HBR HO2 hbk HGO HSR HALR HA2 gu
        generalize z.heap.size = Xy at *
        generalize (z.alloc (.cells (jjP u2) 28)) = V6 at *
        obtain ⟨x0, x1, x2, x3, x4, x5, x6, x7, x8, x9, x10, xl⟩ := HU3.out.cs
        go_upto_region 18 with (go_at_call 14; (with_reducible refine (pnotes_yes u2 _ HO3.out.d HS2.out HAL2.out.ok).mono ?_); rintro e z ⟨a5, n5, c5, L5, rfl, ho, hab, -, -, hb⟩; obtain rfl : n5 = 0 := al_notes HAL2.out hab ho.o.len; have HPq := Hk.mk (HP3.out.below hb); have HUq := Hk.mk (HU3.out.below hb); have HOq := Hk.mk (HO3.out.below hb); have HBq := Hk.mk (HB3.out.trans (hb.mono HB3.out.size)); clear ho hab hb HP3 HU3 HO3 HB3; have HP3 := HPq; have HU3 := HUq; have HO3 := HOq; have HB3 := HBq; clear HPq HUq HOq HBq)
        clear x0 x1 x2 x3 x4 x5 x6 x7 x8 x9 x10 xl
        obtain ⟨x0, x1, x2, x3, x4, x5, x6, x7, x8, x9, x10, xl⟩ := HU3.out.cs
        obtain ⟨xn, hxn⟩ : ∃ xn, u2.xn = xn := ⟨_, rfl⟩
        have HXN : Hk (xn = min (k + 1) 16) := ⟨by rw [← hxn, ← HO3.out.d.x.len]; exact HAL2.out.ex⟩
        have e3 : u2.t = ((k + 1 : Nat) : Int) := HAL2.out.et
        rw [e3] at x3
        rw [hxn] at x9
        have mn : (if (16 : Int) < ((k + 1 : Nat) : Int) then (16 : Int) else ((k + 1 : Nat) : Int)) = (xn : Int) := by rw [HXN.out]; by_cases c : (16 : Int) < ((k + 1 : Nat) : Int); rw [if_pos c]; omega; rw [if_neg c]; omega
        go_upto_region 20 with (go_at_call 9; (with_reducible refine (num28_any _ _).mono ?_); rintro e z2 ⟨rfl, hz⟩; rw [hz]; clear hz z2)
        clear mn e3 hxn
        clear x0 x1 x2 x3 x4 x5 x6 x7 x8 x9 x10 xl
        obtain ⟨x0, x1, x2, x3, x4, x5, x6, x7, x8, x9, x10, xl⟩ := HU3.out.cs
        obtain ⟨m0, m1, m2, m3, m4, m5, m6, m7, m8, m9, m10, ml⟩ := HP3.out.cs
        obtain ⟨j0, j1, j2, j3, j4, j5, j6, j7, j8, j9, j10⟩ := HP3.out.fs
        have HKP := Hk.mk (Kt.put (B := w.heap.size) HP3.out HPN.out u2)
        go_wp2
        exact ⟨⟨k + 1, u2, by go_num, by have := HLT.out; omega, ⟨HP3.out.put u2⟩, ⟨HKP.out.pvo HO3.out⟩, ⟨by rw [if_neg (Nat.succ_ne_zero k)]; exact HAL2.out⟩, HS2, ⟨HB3.out.trans HKP.out.bl⟩⟩, by have := HLT.out; simp [intOf]; omega⟩
      · obtain ⟨M, hM⟩ := HAL.out.put [alC (k : Int)]
        have HEE : Hk (¬ (y.s = y.t + y.d - 1 ∨ y.s = 1099511627776)) := ⟨by
          have e1 : y.s = if k = 0 then d - 1 else (k : Int) + d - 2 := HAL.out.es
          have e2 : y.t = (k : Int) := HAL.out.et
          have e3 : y.d = d := HAL.out.ed
          rw [if_neg hk0] at e1
          have := HLT.out
          have := HDD.out
          omega⟩
        have HEM : Hk (okN (sayI y.ab (abC [(⟨1, (k : Int), 5, 7, none, 0, 0, 0, 0, 0, 0, 0, []⟩ : Cv)])) = true) := ⟨alC_ok HAL.out (by have := HLT.out; omega) HDD.out.1 HDD.out.2 (by rw [if_neg hk0]; have := HLT.out; have := HDD.out; omega)⟩
        have HEP : Hk (putN (sayI y.ab (abC [(⟨1, (k : Int), 5, 7, none, 0, 0, 0, 0, 0, 0, 0, []⟩ : Cv)])) y.ab.l = some M) := ⟨hM⟩
        have HMN : Hk (y.mn + 1 ≤ 1048576) := ⟨by have h1 := HAL.out.m0; have h2 : y.ab.m.length = y.ml.length := abI_len _; have h3 := HOL.out.d.m.q.len; omega⟩
        have HLN : Hk (y.ln + 1 ≤ 1048576) := ⟨by have h1 := HAL.out.el; have h2 : y.ab.l.length = y.ll.length := abI_len _; have h3 := HOL.out.d.l.q.len; have := HLT.out; omega⟩
        have HK0 := Hk.mk hk0
        clear hk0 hM
        by_cases htd : (k : Int) < d
        · have f1 : decide (d ≤ (k : Int)) = false := decide_eq_false (by omega)
          have f2 : decide ((k : Int) < d) = true := decide_eq_true htd
          have HTD := Hk.mk htd
          clear htd
          go_upto_region 9 with (go_at_call 13; (with_reducible refine (psay_yes y (some ⟨wr.heap.size, 0, none⟩) 1 1 [(⟨1, (k : Int), 5, 7, none, 0, 0, 0, 0, 0, 0, 0, []⟩ : Cv)] M _ HOL.out.d HSY.out HAL.out.ok HCL.out.1 HCL.out.2 HEE.out HEM.out HEP.out HMN.out HLN.out).mono ?_); rintro e z ⟨yv, rfl, ho, hab, hs, hb⟩; have HOV := Hk.mk (ho.weak HBL.out.size); have HAV := Hk.mk hab; have HSV := Hk.mk hs; have hbk := Hk.mk hb; clear ho hab hs hb)
          have HPR0 : Hk (Bx (z.alloc (.cells (jjP yv) 28)) P y) := ⟨(HPL.out.below hbk.out).al _⟩
          have HVR0 : Hk (Bx (z.alloc (.cells (jjP yv) 28)) z.heap.size yv) := ⟨Bx.new z yv⟩
          have HOR0 : Hk (PvO (z.alloc (.cells (jjP yv) 28)) w.heap.size yv) := ⟨HOV.out.below (below_al _ _)⟩
          have HBR0 : Hk (Below w.heap.size w (z.alloc (.cells (jjP yv) 28))) := ⟨kw_al (HBL.out.trans (hbk.out.mono HBL.out.size)) (Nat.le_refl _) _⟩
          have HALR : Hk (AlP d k ((k : Int) + d - 1) (k + 1) yv.ab) := ⟨by
            rw [HAV.out]
            have h1 := HAL.out
            rw [if_neg HK0.out] at h1
            exact h1.say (by have := HLT.out; omega) HDD.out.1 HDD.out.2 (by have := HK0.out; omega) HEM.out HEP.out⟩
          have HSR := Hk.mk HSV.out
          have HNX : Hk (¬ P = z.heap.size) := ⟨by have := HPL.out.lt; have := hbk.out.size; omega⟩
          clear HPL HOL HBL hbk HAL HSY HEE HPB HO HB HCL HK0 HEM HEP HMN HLN HOV HAV HSV
          clear x0 x1 x2 x3 x4 x5 x6 x7 x8 x9 x10 xl
          generalize z.heap.size = Xb at *
          generalize (z.alloc (.cells (jjP yv) 28)) = V5 at *
          obtain ⟨x0, x1, x2, x3, x4, x5, x6, x7, x8, x9, x10, xl⟩ := HVR0.out.cs
          obtain ⟨m0, m1, m2, m3, m4, m5, m6, m7, m8, m9, m10, ml⟩ := HPR0.out.cs
          obtain ⟨j0, j1, j2, j3, j4, j5, j6, j7, j8, j9, j10⟩ := HPR0.out.fs
          go_upto_region 13 with (go_at_call 9; (with_reducible refine (num28_any _ _).mono ?_); rintro e z2 ⟨rfl, hz⟩; rw [hz]; clear hz z2)
          have HKQ := Hk.mk (Kt.put (B := w.heap.size) HPR0.out HPN.out yv)
          have HPR : Hk (Bx ((((((((((((World.setCell V5 ⟨P, 0, none⟩ (.int .i64 yv.i)).setCell ⟨P, 1, none⟩ (.int .i64 yv.n)).setCell ⟨P, 2, none⟩ (.int .i64 yv.d)).setCell ⟨P, 3, none⟩ (.int .i64 yv.t)).setCell ⟨P, 4, none⟩ (.int .i64 yv.s)).setCell ⟨P, 5, none⟩ (.slice yv.ma yv.mn yv.mc)).setCell ⟨P, 6, none⟩ (.slice yv.la yv.ln yv.lc)).setCell ⟨P, 7, none⟩ (.slice yv.ha yv.hn yv.hc)).setCell ⟨P, 8, none⟩ (.slice yv.aa yv.an yv.ac)).setCell ⟨P, 9, none⟩ (.slice yv.xa yv.xn yv.xc)).setCell ⟨P, 10, none⟩ (.bool yv.b))) P yv) := ⟨HPR0.out.put yv⟩
          have HOR : Hk (PvO ((((((((((((World.setCell V5 ⟨P, 0, none⟩ (.int .i64 yv.i)).setCell ⟨P, 1, none⟩ (.int .i64 yv.n)).setCell ⟨P, 2, none⟩ (.int .i64 yv.d)).setCell ⟨P, 3, none⟩ (.int .i64 yv.t)).setCell ⟨P, 4, none⟩ (.int .i64 yv.s)).setCell ⟨P, 5, none⟩ (.slice yv.ma yv.mn yv.mc)).setCell ⟨P, 6, none⟩ (.slice yv.la yv.ln yv.lc)).setCell ⟨P, 7, none⟩ (.slice yv.ha yv.hn yv.hc)).setCell ⟨P, 8, none⟩ (.slice yv.aa yv.an yv.ac)).setCell ⟨P, 9, none⟩ (.slice yv.xa yv.xn yv.xc)).setCell ⟨P, 10, none⟩ (.bool yv.b))) w.heap.size yv) := ⟨HKQ.out.pvo HOR0.out⟩
          have HBR : Hk (Below w.heap.size w ((((((((((((World.setCell V5 ⟨P, 0, none⟩ (.int .i64 yv.i)).setCell ⟨P, 1, none⟩ (.int .i64 yv.n)).setCell ⟨P, 2, none⟩ (.int .i64 yv.d)).setCell ⟨P, 3, none⟩ (.int .i64 yv.t)).setCell ⟨P, 4, none⟩ (.int .i64 yv.s)).setCell ⟨P, 5, none⟩ (.slice yv.ma yv.mn yv.mc)).setCell ⟨P, 6, none⟩ (.slice yv.la yv.ln yv.lc)).setCell ⟨P, 7, none⟩ (.slice yv.ha yv.hn yv.hc)).setCell ⟨P, 8, none⟩ (.slice yv.aa yv.an yv.ac)).setCell ⟨P, 9, none⟩ (.slice yv.xa yv.xn yv.xc)).setCell ⟨P, 10, none⟩ (.bool yv.b)))) := ⟨HBR0.out.trans HKQ.out.bl⟩
          clear HPR0 HOR0 HBR0 HKQ HVR0
          clear x0 x1 x2 x3 x4 x5 x6 x7 x8 x9 x10 xl
          clear m0 m1 m2 m3 m4 m5 m6 m7 m8 m9 m10 ml
          clear j0 j1 j2 j3 j4 j5 j6 j7 j8 j9 j10
          generalize ((((((((((((World.setCell V5 ⟨P, 0, none⟩ (.int .i64 yv.i)).setCell ⟨P, 1, none⟩ (.int .i64 yv.n)).setCell ⟨P, 2, none⟩ (.int .i64 yv.d)).setCell ⟨P, 3, none⟩ (.int .i64 yv.t)).setCell ⟨P, 4, none⟩ (.int .i64 yv.s)).setCell ⟨P, 5, none⟩ (.slice yv.ma yv.mn yv.mc)).setCell ⟨P, 6, none⟩ (.slice yv.la yv.ln yv.lc)).setCell ⟨P, 7, none⟩ (.slice yv.ha yv.hn yv.hc)).setCell ⟨P, 8, none⟩ (.slice yv.aa yv.an yv.ac)).setCell ⟨P, 9, none⟩ (.slice yv.xa yv.xn yv.xc)).setCell ⟨P, 10, none⟩ (.bool yv.b))) = V5b at *
          have HGO : Hk (yv.t < 1099511627776 ∧ yv.t ≤ minL yv.hl) := ⟨HALR.out.go (by have := HLT.out; omega) (by have := HDD.out; omega)⟩
          obtain ⟨x0, x1, x2, x3, x4, x5, x6, x7, x8, x9, x10, xl⟩ := HPR.out.cs
          have gu : IntKind.u64.wrap (k : Int) = (k : Int) := by rw [IntKind.wrap_u64]; have := HLT.out; omega
          have gk : IntKind.i64.wrap ((k : Int) + 1) = ((k + 1 : Nat) : Int) := by have := HLT.out; push_cast; exact wr27 (by omega) (by omega)
          go_upto_region 14 with (first | (go_at_call 9; (with_reducible refine (num28_any _ _).mono ?_); rintro e z2 ⟨rfl, hz⟩; rw [hz]; clear hz z2) | (go_at_call 16; (with_reducible refine (pready_yes yv _ HOR.out.d HSR.out HALR.out.ok HGO.out).mono ?_); rintro e z ⟨a2, c2, M2, rfl, ho, hab, hb⟩; have HML : Hk ((k : Int) < d → M2.length = 0) := ⟨fun ht => al_none HALR.out hab ht⟩; have HPq := Hk.mk (HPR.out.below hb); have HOq := Hk.mk (HOR.out.below hb); have HBq := Hk.mk (HBR.out.trans (hb.mono HBR.out.size)); clear ho hab hb HPR HOR HBR; have HPR := HPq; have HOR := HOq; have HBR := HBq; clear HPq HOq HBq; clear x0 x1 x2 x3 x4 x5 x6 x7 x8 x9 x10 xl; obtain ⟨x0, x1, x2, x3, x4, x5, x6, x7, x8, x9, x10, xl⟩ := HPR.out.cs; generalize M2.length = ml at *))
          obtain rfl : ml = 0 := HML.out HTD.out
          go_upto_region 17 with (first | (go_at_call 9; (with_reducible refine (num28_any _ _).mono ?_); rintro e z2 ⟨rfl, hz⟩; rw [hz]; clear hz z2) | (go_at_call 19; (with_reducible refine (pran_yes yv (k : Int) _ HOR.out.d HSR.out HALR.out.ok HGO.out).mono ?_); rintro e z ⟨u2, rfl, ho, hab, hs, hb⟩; have HO2 := Hk.mk (ho.weak HBR.out.size); have HA2 := Hk.mk hab; have HS2 := Hk.mk hs; have hbk := Hk.mk hb; clear ho hab hs hb))
          clear x0 x1 x2 x3 x4 x5 x6 x7 x8 x9 x10 xl
          have HP3 : Hk (Bx (z.alloc (.cells (jjP u2) 28)) P yv) := ⟨(HPR.out.below hbk.out).al _⟩
          have HU3 : Hk (Bx (z.alloc (.cells (jjP u2) 28)) z.heap.size u2) := ⟨Bx.new z u2⟩
          have HO3 : Hk (PvO (z.alloc (.cells (jjP u2) 28)) w.heap.size u2) := ⟨HO2.out.below (below_al _ _)⟩
          have HB3 : Hk (Below w.heap.size w (z.alloc (.cells (jjP u2) 28))) := ⟨kw_al (HBR.out.trans (hbk.out.mono HBR.out.size)) (Nat.le_refl _) _⟩
          have HAL2 : Hk (AlP d (k + 1) (((k + 1 : Nat) : Int) + d - 2) (k + 1) u2.ab) := ⟨by rw [HA2.out]; exact HALR.out.run (by have := HLT.out; omega) HDD.out.1 HDD.out.2⟩
          clear HPR HOR HBR HO2 hbk HGO HSR HALR HA2 gu
          generalize z.heap.size = Xy at *
          generalize (z.alloc (.cells (jjP u2) 28)) = V6 at *
          obtain ⟨x0, x1, x2, x3, x4, x5, x6, x7, x8, x9, x10, xl⟩ := HU3.out.cs
          go_upto_region 18 with (go_at_call 14; (with_reducible refine (pnotes_yes u2 _ HO3.out.d HS2.out HAL2.out.ok).mono ?_); rintro e z ⟨a5, n5, c5, L5, rfl, ho, hab, -, -, hb⟩; obtain rfl : n5 = 0 := al_notes HAL2.out hab ho.o.len; have HPq := Hk.mk (HP3.out.below hb); have HUq := Hk.mk (HU3.out.below hb); have HOq := Hk.mk (HO3.out.below hb); have HBq := Hk.mk (HB3.out.trans (hb.mono HB3.out.size)); clear ho hab hb HP3 HU3 HO3 HB3; have HP3 := HPq; have HU3 := HUq; have HO3 := HOq; have HB3 := HBq; clear HPq HUq HOq HBq)
          clear x0 x1 x2 x3 x4 x5 x6 x7 x8 x9 x10 xl
          obtain ⟨x0, x1, x2, x3, x4, x5, x6, x7, x8, x9, x10, xl⟩ := HU3.out.cs
          obtain ⟨xn, hxn⟩ : ∃ xn, u2.xn = xn := ⟨_, rfl⟩
          have HXN : Hk (xn = min (k + 1) 16) := ⟨by rw [← hxn, ← HO3.out.d.x.len]; exact HAL2.out.ex⟩
          have e3 : u2.t = ((k + 1 : Nat) : Int) := HAL2.out.et
          rw [e3] at x3
          rw [hxn] at x9
          have mn : (if (16 : Int) < ((k + 1 : Nat) : Int) then (16 : Int) else ((k + 1 : Nat) : Int)) = (xn : Int) := by rw [HXN.out]; by_cases c : (16 : Int) < ((k + 1 : Nat) : Int); rw [if_pos c]; omega; rw [if_neg c]; omega
          go_upto_region 20 with (go_at_call 9; (with_reducible refine (num28_any _ _).mono ?_); rintro e z2 ⟨rfl, hz⟩; rw [hz]; clear hz z2)
          clear mn e3 hxn
          clear x0 x1 x2 x3 x4 x5 x6 x7 x8 x9 x10 xl
          obtain ⟨x0, x1, x2, x3, x4, x5, x6, x7, x8, x9, x10, xl⟩ := HU3.out.cs
          obtain ⟨m0, m1, m2, m3, m4, m5, m6, m7, m8, m9, m10, ml⟩ := HP3.out.cs
          obtain ⟨j0, j1, j2, j3, j4, j5, j6, j7, j8, j9, j10⟩ := HP3.out.fs
          have HKP := Hk.mk (Kt.put (B := w.heap.size) HP3.out HPN.out u2)
          go_wp2
          exact ⟨⟨k + 1, u2, by go_num, by have := HLT.out; omega, ⟨HP3.out.put u2⟩, ⟨HKP.out.pvo HO3.out⟩, ⟨by rw [if_neg (Nat.succ_ne_zero k)]; exact HAL2.out⟩, HS2, ⟨HB3.out.trans HKP.out.bl⟩⟩, by have := HLT.out; simp [intOf]; omega⟩
        · have f1 : decide (d ≤ (k : Int)) = true := decide_eq_true (by omega)
          have f2 : decide ((k : Int) < d) = false := decide_eq_false htd
          clear htd
          go_upto_region 9 with (go_at_call 13; (with_reducible refine (psay_yes y (some ⟨wr.heap.size, 0, none⟩) 1 1 [(⟨1, (k : Int), 5, 7, none, 0, 0, 0, 0, 0, 0, 0, []⟩ : Cv)] M _ HOL.out.d HSY.out HAL.out.ok HCL.out.1 HCL.out.2 HEE.out HEM.out HEP.out HMN.out HLN.out).mono ?_); rintro e z ⟨yv, rfl, ho, hab, hs, hb⟩; have HOV := Hk.mk (ho.weak HBL.out.size); have HAV := Hk.mk hab; have HSV := Hk.mk hs; have hbk := Hk.mk hb; clear ho hab hs hb)
          have HPR0 : Hk (Bx (z.alloc (.cells (jjP yv) 28)) P y) := ⟨(HPL.out.below hbk.out).al _⟩
          have HVR0 : Hk (Bx (z.alloc (.cells (jjP yv) 28)) z.heap.size yv) := ⟨Bx.new z yv⟩
          have HOR0 : Hk (PvO (z.alloc (.cells (jjP yv) 28)) w.heap.size yv) := ⟨HOV.out.below (below_al _ _)⟩
          have HBR0 : Hk (Below w.heap.size w (z.alloc (.cells (jjP yv) 28))) := ⟨kw_al (HBL.out.trans (hbk.out.mono HBL.out.size)) (Nat.le_refl _) _⟩
          have HALR : Hk (AlP d k ((k : Int) + d - 1) (k + 1) yv.ab) := ⟨by
            rw [HAV.out]
            have h1 := HAL.out
            rw [if_neg HK0.out] at h1
            exact h1.say (by have := HLT.out; omega) HDD.out.1 HDD.out.2 (by have := HK0.out; omega) HEM.out HEP.out⟩
          have HSR := Hk.mk HSV.out
          have HNX : Hk (¬ P = z.heap.size) := ⟨by have := HPL.out.lt; have := hbk.out.size; omega⟩
          clear HPL HOL HBL hbk HAL HSY HEE HPB HO HB HCL HK0 HEM HEP HMN HLN HOV HAV HSV
          clear x0 x1 x2 x3 x4 x5 x6 x7 x8 x9 x10 xl
          generalize z.heap.size = Xb at *
          generalize (z.alloc (.cells (jjP yv) 28)) = V5 at *
          obtain ⟨x0, x1, x2, x3, x4, x5, x6, x7, x8, x9, x10, xl⟩ := HVR0.out.cs
          obtain ⟨m0, m1, m2, m3, m4, m5, m6, m7, m8, m9, m10, ml⟩ := HPR0.out.cs
          obtain ⟨j0, j1, j2, j3, j4, j5, j6, j7, j8, j9, j10⟩ := HPR0.out.fs
          go_upto_region 13 with (go_at_call 9; (with_reducible refine (num28_any _ _).mono ?_); rintro e z2 ⟨rfl, hz⟩; rw [hz]; clear hz z2)
          have HKQ := Hk.mk (Kt.put (B := w.heap.size) HPR0.out HPN.out yv)
          have HPR : Hk (Bx ((((((((((((World.setCell V5 ⟨P, 0, none⟩ (.int .i64 yv.i)).setCell ⟨P, 1, none⟩ (.int .i64 yv.n)).setCell ⟨P, 2, none⟩ (.int .i64 yv.d)).setCell ⟨P, 3, none⟩ (.int .i64 yv.t)).setCell ⟨P, 4, none⟩ (.int .i64 yv.s)).setCell ⟨P, 5, none⟩ (.slice yv.ma yv.mn yv.mc)).setCell ⟨P, 6, none⟩ (.slice yv.la yv.ln yv.lc)).setCell ⟨P, 7, none⟩ (.slice yv.ha yv.hn yv.hc)).setCell ⟨P, 8, none⟩ (.slice yv.aa yv.an yv.ac)).setCell ⟨P, 9, none⟩ (.slice yv.xa yv.xn yv.xc)).setCell ⟨P, 10, none⟩ (.bool yv.b))) P yv) := ⟨HPR0.out.put yv⟩
          have HOR : Hk (PvO ((((((((((((World.setCell V5 ⟨P, 0, none⟩ (.int .i64 yv.i)).setCell ⟨P, 1, none⟩ (.int .i64 yv.n)).setCell ⟨P, 2, none⟩ (.int .i64 yv.d)).setCell ⟨P, 3, none⟩ (.int .i64 yv.t)).setCell ⟨P, 4, none⟩ (.int .i64 yv.s)).setCell ⟨P, 5, none⟩ (.slice yv.ma yv.mn yv.mc)).setCell ⟨P, 6, none⟩ (.slice yv.la yv.ln yv.lc)).setCell ⟨P, 7, none⟩ (.slice yv.ha yv.hn yv.hc)).setCell ⟨P, 8, none⟩ (.slice yv.aa yv.an yv.ac)).setCell ⟨P, 9, none⟩ (.slice yv.xa yv.xn yv.xc)).setCell ⟨P, 10, none⟩ (.bool yv.b))) w.heap.size yv) := ⟨HKQ.out.pvo HOR0.out⟩
          have HBR : Hk (Below w.heap.size w ((((((((((((World.setCell V5 ⟨P, 0, none⟩ (.int .i64 yv.i)).setCell ⟨P, 1, none⟩ (.int .i64 yv.n)).setCell ⟨P, 2, none⟩ (.int .i64 yv.d)).setCell ⟨P, 3, none⟩ (.int .i64 yv.t)).setCell ⟨P, 4, none⟩ (.int .i64 yv.s)).setCell ⟨P, 5, none⟩ (.slice yv.ma yv.mn yv.mc)).setCell ⟨P, 6, none⟩ (.slice yv.la yv.ln yv.lc)).setCell ⟨P, 7, none⟩ (.slice yv.ha yv.hn yv.hc)).setCell ⟨P, 8, none⟩ (.slice yv.aa yv.an yv.ac)).setCell ⟨P, 9, none⟩ (.slice yv.xa yv.xn yv.xc)).setCell ⟨P, 10, none⟩ (.bool yv.b)))) := ⟨HBR0.out.trans HKQ.out.bl⟩
          clear HPR0 HOR0 HBR0 HKQ HVR0
          clear x0 x1 x2 x3 x4 x5 x6 x7 x8 x9 x10 xl
          clear m0 m1 m2 m3 m4 m5 m6 m7 m8 m9 m10 ml
          clear j0 j1 j2 j3 j4 j5 j6 j7 j8 j9 j10
          generalize ((((((((((((World.setCell V5 ⟨P, 0, none⟩ (.int .i64 yv.i)).setCell ⟨P, 1, none⟩ (.int .i64 yv.n)).setCell ⟨P, 2, none⟩ (.int .i64 yv.d)).setCell ⟨P, 3, none⟩ (.int .i64 yv.t)).setCell ⟨P, 4, none⟩ (.int .i64 yv.s)).setCell ⟨P, 5, none⟩ (.slice yv.ma yv.mn yv.mc)).setCell ⟨P, 6, none⟩ (.slice yv.la yv.ln yv.lc)).setCell ⟨P, 7, none⟩ (.slice yv.ha yv.hn yv.hc)).setCell ⟨P, 8, none⟩ (.slice yv.aa yv.an yv.ac)).setCell ⟨P, 9, none⟩ (.slice yv.xa yv.xn yv.xc)).setCell ⟨P, 10, none⟩ (.bool yv.b))) = V5b at *
          have HGO : Hk (yv.t < 1099511627776 ∧ yv.t ≤ minL yv.hl) := ⟨HALR.out.go (by have := HLT.out; omega) (by have := HDD.out; omega)⟩
          obtain ⟨x0, x1, x2, x3, x4, x5, x6, x7, x8, x9, x10, xl⟩ := HPR.out.cs
          have gu : IntKind.u64.wrap (k : Int) = (k : Int) := by rw [IntKind.wrap_u64]; have := HLT.out; omega
          have gk : IntKind.i64.wrap ((k : Int) + 1) = ((k + 1 : Nat) : Int) := by have := HLT.out; push_cast; exact wr27 (by omega) (by omega)
          go_upto_region 14 with (first | (go_at_call 9; (with_reducible refine (num28_any _ _).mono ?_); rintro e z2 ⟨rfl, hz⟩; rw [hz]; clear hz z2) | (go_at_call 16; (with_reducible refine (pready_yes yv _ HOR.out.d HSR.out HALR.out.ok HGO.out).mono ?_); rintro e z ⟨a2, c2, M2, rfl, ho, hab, hb⟩; have HML : Hk ((k : Int) < d → M2.length = 0) := ⟨fun ht => al_none HALR.out hab ht⟩; have HPq := Hk.mk (HPR.out.below hb); have HOq := Hk.mk (HOR.out.below hb); have HBq := Hk.mk (HBR.out.trans (hb.mono HBR.out.size)); clear ho hab hb HPR HOR HBR; have HPR := HPq; have HOR := HOq; have HBR := HBq; clear HPq HOq HBq; clear x0 x1 x2 x3 x4 x5 x6 x7 x8 x9 x10 xl; obtain ⟨x0, x1, x2, x3, x4, x5, x6, x7, x8, x9, x10, xl⟩ := HPR.out.cs; generalize M2.length = ml at *))
          skip
          go_upto_region 17 with (first | (go_at_call 9; (with_reducible refine (num28_any _ _).mono ?_); rintro e z2 ⟨rfl, hz⟩; rw [hz]; clear hz z2) | (go_at_call 19; (with_reducible refine (pran_yes yv (k : Int) _ HOR.out.d HSR.out HALR.out.ok HGO.out).mono ?_); rintro e z ⟨u2, rfl, ho, hab, hs, hb⟩; have HO2 := Hk.mk (ho.weak HBR.out.size); have HA2 := Hk.mk hab; have HS2 := Hk.mk hs; have hbk := Hk.mk hb; clear ho hab hs hb))
          clear x0 x1 x2 x3 x4 x5 x6 x7 x8 x9 x10 xl
          have HP3 : Hk (Bx (z.alloc (.cells (jjP u2) 28)) P yv) := ⟨(HPR.out.below hbk.out).al _⟩
          have HU3 : Hk (Bx (z.alloc (.cells (jjP u2) 28)) z.heap.size u2) := ⟨Bx.new z u2⟩
          have HO3 : Hk (PvO (z.alloc (.cells (jjP u2) 28)) w.heap.size u2) := ⟨HO2.out.below (below_al _ _)⟩
          have HB3 : Hk (Below w.heap.size w (z.alloc (.cells (jjP u2) 28))) := ⟨kw_al (HBR.out.trans (hbk.out.mono HBR.out.size)) (Nat.le_refl _) _⟩
          have HAL2 : Hk (AlP d (k + 1) (((k + 1 : Nat) : Int) + d - 2) (k + 1) u2.ab) := ⟨by rw [HA2.out]; exact HALR.out.run (by have := HLT.out; omega) HDD.out.1 HDD.out.2⟩
          clear HPR HOR HBR HO2 hbk HGO HSR HALR HA2 gu
          generalize z.heap.size = Xy at *
          generalize (z.alloc (.cells (jjP u2) 28)) = V6 at *
          obtain ⟨x0, x1, x2, x3, x4, x5, x6, x7, x8, x9, x10, xl⟩ := HU3.out.cs
          go_upto_region 18 with (go_at_call 14; (with_reducible refine (pnotes_yes u2 _ HO3.out.d HS2.out HAL2.out.ok).mono ?_); rintro e z ⟨a5, n5, c5, L5, rfl, ho, hab, -, -, hb⟩; obtain rfl : n5 = 0 := al_notes HAL2.out hab ho.o.len; have HPq := Hk.mk (HP3.out.below hb); have HUq := Hk.mk (HU3.out.below hb); have HOq := Hk.mk (HO3.out.below hb); have HBq := Hk.mk (HB3.out.trans (hb.mono HB3.out.size)); clear ho hab hb HP3 HU3 HO3 HB3; have HP3 := HPq; have HU3 := HUq; have HO3 := HOq; have HB3 := HBq; clear HPq HUq HOq HBq)
          clear x0 x1 x2 x3 x4 x5 x6 x7 x8 x9 x10 xl
          obtain ⟨x0, x1, x2, x3, x4, x5, x6, x7, x8, x9, x10, xl⟩ := HU3.out.cs
          obtain ⟨xn, hxn⟩ : ∃ xn, u2.xn = xn := ⟨_, rfl⟩
          have HXN : Hk (xn = min (k + 1) 16) := ⟨by rw [← hxn, ← HO3.out.d.x.len]; exact HAL2.out.ex⟩
          have e3 : u2.t = ((k + 1 : Nat) : Int) := HAL2.out.et
          rw [e3] at x3
          rw [hxn] at x9
          have mn : (if (16 : Int) < ((k + 1 : Nat) : Int) then (16 : Int) else ((k + 1 : Nat) : Int)) = (xn : Int) := by rw [HXN.out]; by_cases c : (16 : Int) < ((k + 1 : Nat) : Int); rw [if_pos c]; omega; rw [if_neg c]; omega
          go_upto_region 20 with (go_at_call 9; (with_reducible refine (num28_any _ _).mono ?_); rintro e z2 ⟨rfl, hz⟩; rw [hz]; clear hz z2)
          clear mn e3 hxn
          clear x0 x1 x2 x3 x4 x5 x6 x7 x8 x9 x10 xl
          obtain ⟨x0, x1, x2, x3, x4, x5, x6, x7, x8, x9, x10, xl⟩ := HU3.out.cs
          obtain ⟨m0, m1, m2, m3, m4, m5, m6, m7, m8, m9, m10, ml⟩ := HP3.out.cs
          obtain ⟨j0, j1, j2, j3, j4, j5, j6, j7, j8, j9, j10⟩ := HP3.out.fs
          have HKP := Hk.mk (Kt.put (B := w.heap.size) HP3.out HPN.out u2)
          go_wp2
          exact ⟨⟨k + 1, u2, by go_num, by have := HLT.out; omega, ⟨HP3.out.put u2⟩, ⟨HKP.out.pvo HO3.out⟩, ⟨by rw [if_neg (Nat.succ_ne_zero k)]; exact HAL2.out⟩, HS2, ⟨HB3.out.trans HKP.out.bl⟩⟩, by have := HLT.out; simp [intOf]; omega⟩
    · obtain rfl : k = 30 := by omega
      have t1 : ¬ (((30 : Nat) : Int) < 30) := by omega
      go_wp2_with (go_at_call 11; (with_reducible refine (wakes28_any _).mono ?_); rintro e z9 ⟨rfl, hb⟩; have HB9 := Hk.mk (HB.out.trans (hb.mono HB.out.size)); clear hb)
      go_ret
      exact ⟨rfl, HB9.out⟩

theorem peerAlone_own : ownKnob Try.prog.godebug = none := by kernel_rfl
theorem peerAlone_laidOut : laidOutB Try.prog = true := by kernel_rfl
set_option maxRecDepth 100000 in
theorem peerAlone_lifted (os : Os) (started : os.Started) (H : Type) (enc : TypeId × Value → H) :
    ReturnsInHanded {} Try.checked os 5 .any (Rows.peerAloneSpec.pre6 enc Try.prog Try.f5 Rows.peerAloneRow.domain false) (Rows.peerAloneSpec.post enc Try.prog Try.f5 false true false false) := by
  refine returnsInHanded_of_change (C := Try.checked) peerAlone_own started (by kernel_rfl) Try.func5
    (ChangeSpec.witness6 (enc := enc) (C := Try.checked) false ⟨#[], #[.agg #[.int .i64 0, .int .i64 0, .slice none 0 0]], []⟩ 8 (by kernel_rfl) (by kernel_rfl) (by kernel_rfl) (by kernel_rfl)) ?_
  intro W base args ds gs before hval0 hW hcnd _
  have hval : ∀ (j : Nat) t v, Try.f5.params[j]? = some t → args[j]? = some v → Value.okWide Try.prog W .any base t v := hval0
  have hW' := hW
  obtain ⟨p, q, hA0, hV, rfl, hfz, hnd⟩ := hW
  have hA : DataW.TrodAll enc Try.prog W 0 (fun _ => true) true Try.f5.params.toList args.toList ds p := hA0
  rw [Try.params5] at hA hval
  obtain ⟨v0, vs0, d0, ds0, p0, q0, hargs, rfl, rfl, h0, r0⟩ := trodAll_cons hA
  obtain ⟨rfl, rfl, rfl⟩ := trodAll_nil r0
  obtain rfl : args = #[v0] := by cases args; simp_all
  obtain ⟨rfl, rfl⟩ := trodVars_none hV
  obtain ⟨cs0, rfl, hcs0⟩ := okWide_struct Try.underlying39 (hval 0 39 v0 rfl rfl)
  have k0 := h0
  have lt0 : ∀ x ∈ p0, x.block < W.heap.size := by obtain ⟨m, hm⟩ := k0; exact DataW.trod_lt m _ _ _ hm
  have rows : Asks28w W (.agg cs0) := by obtain ⟨fuel, hf⟩ := h0; exact asks28w_of hcs0 hf
  clear hA0 hval0
  refine (peerAlone_walk (.agg cs0) W rows).mono fun e W' ⟨he, bel⟩ => ?_
  subst he
  exact ⟨_, rfl, _, _, _, [], _, [], hW', trodAll_mk1 (shut_bool Try.underlying4 _), (trodAll_cons_mk (Below.trod peerAlone_laidOut (by kernel_rfl) (of_decide_eq_true (by kernel_rfl)) k0 bel lt0) trodAll_mk0), rfl, bel.frame _, fun h => by cases h⟩
theorem peerAlone_over : Rows.peerAloneRow.holds Try.pinned (OpenSpec.ofChange Rows.peerAloneSpec) :=
  OpenClaim.holds_of_wide 5 Try.f5 rfl rfl rfl rfl rfl rfl rfl ⟨rfl, rfl, rfl, rfl, rfl⟩ rfl rfl rfl rfl rfl (by kernel_rfl) Try.func5 (by kernel_rfl)
    (of_decide_eq_true (by kernel_rfl)) (by unfold Func.isWrapper; first | (rw [if_pos (by decide +kernel)]; kernel_rfl) | (rw [if_neg (by decide +kernel)]; exact ⟨rfl, rfl⟩))
    (fun os started H enc _ => peerAlone_lifted os started H enc)
/-- The given statement of PeerAlone. -/
theorem peerAlone_holds : Rows.PeerAloneSaid := peerAlone_over
end Go.Proofs.Ytdpblimhfmfbnaa

