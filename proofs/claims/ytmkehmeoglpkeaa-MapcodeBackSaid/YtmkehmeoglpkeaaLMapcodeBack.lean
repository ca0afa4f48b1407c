/- For every list, MapcodeBack answers true and leaves its argument as it was: a ground's bytes are read as it; each true beginning is cut off; with a byte behind, or one byte turned, they are none. No condition. -/
import Derived.Test.YtmkehmeoglpkeaaMpn
import Derived.Deep.RegionWith
import Derived.Deep.QuietTactic
import Derived.BigQuiet
import Derived.Deep.RegionWith
import Derived.Deep.RegionHeld3
namespace Go.Proofs.Ytmkehmeoglpkeaa
open Go.ChangeShapes Go.WideShapes Go.ChangeAt Go.RowKit Go.Deep
set_option linter.unusedVariables false
set_option maxRecDepth 100000 in
set_option maxHeartbeats 6400000 in
theorem mapcodeBack_walk (a0 : Option Addr) (len cap : Nat) (w : World) (rows : Asks7 w a0 len cap) :
    Calls Try.prog 5 #[.slice a0 len cap] w fun e w' => e = .returned (.bool true) ∧ Below w.heap.size w w' := by
  obtain ⟨hl, hm, hall⟩ := rows
  have HALL := Hk.mk hall
  clear hall
  go_enter Try.func5, Try.ntmps5
  go_wp2
  go_loopw [3] (fun i wr => ∃ (j : Nat), i = .int .i64 j ∧ j ≤ len ∧ j ≤ 6 ∧ Hk (Below w.heap.size w wr)) (fun i _ => 6 - (intOf i).toNat)
  case atStart => exact ⟨0, rfl, by omega, by omega, ⟨Below.refl _ _⟩⟩
  case round =>
    obtain ⟨j, rfl, hj, hj2, HB0⟩ := hrel
    by_cases hlt : j < len ∧ j < 6
    · obtain ⟨g1, g2⟩ := hlt
      obtain ⟨b, off, W, H, ag, ng, cg, xs, ax, nx, cx, ys, rfl, hbl, hbg, hbx, k0, k1, k2, k3⟩ := HALL.out j (by omega)
      have hwz := HB0.out.size
      have hbr : b < wr.heap.size := by omega
      have HCX : Hk (∀ X, Below wr.heap.size wr X → X.cell? ⟨b, off + j * 4, none⟩ = some (.int .i64 W) ∧ X.cell? ⟨b, off + j * 4 + 1, none⟩ = some (.int .i64 H) ∧ X.cell? ⟨b, off + j * 4 + 2, none⟩ = some (.slice ag ng cg) ∧ X.cell? ⟨b, off + j * 4 + 3, none⟩ = some (.slice ax nx cx)) :=
        ⟨fun X hX => ⟨((HB0.out.trans (hX.mono hwz)).cell (p := ⟨b, off + j * 4, none⟩) hbl).trans k0, ((HB0.out.trans (hX.mono hwz)).cell (p := ⟨b, off + j * 4 + 1, none⟩) hbl).trans k1, ((HB0.out.trans (hX.mono hwz)).cell (p := ⟨b, off + j * 4 + 2, none⟩) hbl).trans k2, ((HB0.out.trans (hX.mono hwz)).cell (p := ⟨b, off + j * 4 + 3, none⟩) hbl).trans k3⟩⟩
      have HGX : Hk (∀ X, Below wr.heap.size wr X → By X X.heap.size ag ng xs) := ⟨fun X hX => hbg.all (HB0.out.trans (hX.mono hwz))⟩
      have HXX : Hk (∀ X, Below wr.heap.size wr X → By X X.heap.size ax nx ys) := ⟨fun X hX => hbx.all (HB0.out.trans (hX.mono hwz))⟩
      have HBG := Hk.mk hbg
      have HBX := Hk.mk hbx
      obtain ⟨c0, c1, c2, c3⟩ := HCX.out _ (Below.refl _ _)
      clear k0 k1 k2 k3 hbg hbx
      have i1 : (0 : Int) ≤ (j : Int) := by omega
      have i2 : (j : Int) < (len : Int) := by omega
      cases hv : decide (3000 < ng ∨ 5000 < nx)
      case true =>
        have HV := Hk.mk hv
        clear hv
        go_wp2_with (go_at_call 7; (with_reducible refine (heavy7_as true W H ag ax ng cg nx cx _ HV).mono ?_); rintro e w2 ⟨rfl, hb2⟩; have HB2 := Hk.mk hb2; clear hb2; clear c0 c1 c2 c3; obtain ⟨c0, c1, c2, c3⟩ := HCX.out _ HB2.out)
        go_ret
        exact ⟨rfl, HB0.out.trans (HB2.out.mono hwz)⟩
      case false =>
        have HV := Hk.mk hv
        obtain ⟨hng, hnx⟩ : ng ≤ 3000 ∧ nx ≤ 5000 := by simp at hv; omega
        clear hv
        by_cases hg : GOk W H ng xs
        · obtain ⟨zs, hzs⟩ : ∃ zs, Mp.mapL W H xs = zs := ⟨_, rfl⟩
          have HZS := Hk.mk hzs
          obtain ⟨L, hL⟩ : ∃ L, zs.length = L := ⟨_, rfl⟩
          have HLL := Hk.mk hL
          have hxl := HBG.out.by_.len
          have hxb : ∀ x ∈ xs, 0 ≤ x ∧ x ≤ 5 := fun x hx => ⟨(HBG.out.by_.byt x hx).1, hg.ts x hx⟩
          have HM1 : Hk (mapS zs = (W, H, xs, 0)) := ⟨by have h1 := mapS_back hg.w1 hg.w2 hg.h1 hg.h2 (by rw [hxl]; exact hg.nn) hxb []; rw [← hzs]; simpa using h1⟩
          have HM2 : Hk (mapS (zs ++ [0]) = (0, 0, [], 1)) := ⟨by have h1 := mapS_back hg.w1 hg.w2 hg.h1 hg.h2 (by rw [hxl]; exact hg.nn) hxb [0]; rw [← hzs]; simpa using h1⟩
          have HCUT : Hk (∀ k, k < L → mapS (zs.take k) = (0, 0, [], 11)) := ⟨fun k hk => by rw [← hzs]; exact mapS_cut hg.w1 hg.w2 hg.h1 hg.h2 (by rw [hxl]; exact hg.nn) hxb (by rw [hzs, hL]; exact hk)⟩
          have HTURN : Hk (∀ k v, k < L → Fn.Byt v → v ≠ zs.getD k 0 → ∀ W' H' us e, mapS (zs.set k v) = (W', H', us, e) → e ≠ 0) := ⟨fun k v hk hv hne W' H' us e h => by rw [← hzs] at h hne; exact mapS_turned HBG.out.by_.byt (by rw [hzs, hL]; exact hk) hv hne h⟩
          have HZB : Hk (∀ x ∈ zs, Fn.Byt x) := ⟨by rw [← hzs]; exact mapL_byt HBG.out.by_.byt⟩
          have hL1 : L ≤ 20000 ∧ 8 ≤ L := by
            have h1 := Wr.numL_nine (n := W.toNat) (by have := hg.w2; omega)
            have h2 := Wr.numL_nine (n := H.toNat) (by have := hg.h2; omega)
            have h3 := mapB_len W H xs
            have h4 : L = (Mp.mapB W H xs).length + 8 := by rw [← hL, ← hzs]; unfold Mp.mapL; rw [List.length_append, Mp.eight_len]
            omega
          obtain ⟨hL1, hL2⟩ := hL1
          have HG := Hk.mk hg
          clear hg hzs hL hxb hxl
          go_wp2_with (first | (go_at_call 7; (with_reducible refine (heavy7_as false W H ag ax ng cg nx cx _ HV).mono ?_); rintro e w2 ⟨rfl, hb2⟩; have HB2 := Hk.mk hb2; clear hb2; clear c0 c1 c2 c3; obtain ⟨c0, c1, c2, c3⟩ := HCX.out _ HB2.out) | (go_at_call 9; (with_reducible refine (mbytes_as W H ag ng cg xs zs L _ (HGX.out _ HB2.out) HBG.out.an HG HZS HLL).mono ?_); rintro e w3 ⟨a3, c3', rfl, ho3, hb3⟩; have HO3 := Hk.mk ho3; have hnc3 : L ≤ c3' := (by obtain ⟨_, _, e9, h9, _, _⟩ := ho3.by_; injection e9 with e1 e2 e3; omega); have hcm3 := ho3.capm; have HN3 := Hk.mk ho3.anm; have HB3 := Hk.mk (HB2.out.trans (hb3.mono HB2.out.size)); have HY3X : Hk (∀ X, Below w3.heap.size w3 X → By X X.heap.size a3 L zs) := ⟨fun X hX => (HO3.out.byS.below hX (Nat.le_refl _)).mono hX.size⟩; clear ho3 hb3; clear c0 c1 c2 c3; obtain ⟨c0, c1, c2, c3⟩ := HCX.out _ HB3.out) | (go_at_call 17; (with_reducible refine (mparse_as W H xs 0 a3 L c3' zs _ (HY3X.out _ (Below.refl _ _)) hnc3 hcm3 (by omega) HN3.out HM1).mono ?_); rintro o w4 ⟨a4, c4, rfl, ho4, hb4⟩; have HO4 := Hk.mk ho4; have HB34 : Hk (Below w3.heap.size w3 (w4.alloc (.cells #[.int .i64 W, .int .i64 H, .slice a4 xs.length c4] 26))) := ⟨hb4.alloc hb4.size _⟩; have HB4 := Hk.mk (HB3.out.trans (HB34.out.mono HB3.out.size)); have HG4 : Hk (∀ X, Below (w4.alloc (.cells #[.int .i64 W, .int .i64 H, .slice a4 xs.length c4] 26)).heap.size (w4.alloc (.cells #[.int .i64 W, .int .i64 H, .slice a4 xs.length c4] 26)) X → X.cell? ⟨w4.heap.size, 0, none⟩ = some (.int .i64 W) ∧ X.cell? ⟨w4.heap.size, 1, none⟩ = some (.int .i64 H) ∧ X.cell? ⟨w4.heap.size, 2, none⟩ = some (.slice a4 xs.length c4)) := ⟨fun X hX => ⟨(hX.cell (p := ⟨w4.heap.size, 0, none⟩) (by simp)).trans (by go_simp), (hX.cell (p := ⟨w4.heap.size, 1, none⟩) (by simp)).trans (by go_simp), (hX.cell (p := ⟨w4.heap.size, 2, none⟩) (by simp)).trans (by go_simp)⟩⟩; clear ho4 hb4; clear c0 c1 c2 c3; obtain ⟨c0, c1, c2, c3⟩ := HCX.out _ HB4.out) | (go_at_call 16; (with_reducible refine (copy_any a3 L c3' zs _ (HY3X.out _ HB34.out) (by omega)).mono ?_); rintro e w5 ⟨v5, rfl, ho5, hb5⟩; have HO5 := Hk.mk ho5; have HB45 : Hk (Below (w4.alloc (.cells #[.int .i64 W, .int .i64 H, .slice a4 xs.length c4] 26)).heap.size (w4.alloc (.cells #[.int .i64 W, .int .i64 H, .slice a4 xs.length c4] 26)) w5) := Hk.mk hb5; clear ho5 hb5) | (at_builtin; refine wpList_append_by _ rfl (.tmp 50) (.tmp 51) rfl _ v5 L zs rfl (HO5.out.below ((Below.refl _ _).alloc (Nat.le_refl _) (.cells #[.int .u8 0] 5))) (w5.heap.size + 1) (some ⟨w5.heap.size, 0, none⟩) 1 1 [0] rfl (byt_one w5 0 _ _ (by unfold Fn.Byt; omega)) (fun e0 => by cases e0) ?_ ?_ ?_; (omega); (have h1 := HB45.out.size; simp at h1 ⊢; omega); intro v6 w6 ho6 hg6; obtain ⟨a6, c6, rfl, hnc6, hy6, -⟩ := ho6.by_; have hcm6 := ho6.capm; have HN6 := Hk.mk ho6.anm; have HY6 := Hk.mk hy6; have HB46 : Hk (Below (w4.alloc (.cells #[.int .i64 W, .int .i64 H, .slice a4 xs.length c4] 26)).heap.size (w4.alloc (.cells #[.int .i64 W, .int .i64 H, .slice a4 xs.length c4] 26)) w6) := ⟨(HB45.out.alloc HB45.out.size (.cells #[.int .u8 0] 5)).grown hg6 (by have h1 := HB45.out.size; simp at h1 ⊢; omega) (fun g hg => (HO5.out.lt g hg).1)⟩; clear ho6 hg6 hy6) | (go_at_call 17; (with_reducible refine (mparse_as 0 0 [] 1 a6 (L + 1) c6 (zs ++ [0]) _ HY6.out hnc6 hcm6 (by omega) HN6.out HM2).mono ?_); rintro o w7 ⟨a7, c7, rfl, ho7, hb7⟩; have HB47 : Hk (Below (w4.alloc (.cells #[.int .i64 W, .int .i64 H, .slice a4 xs.length c4] 26)).heap.size (w4.alloc (.cells #[.int .i64 W, .int .i64 H, .slice a4 xs.length c4] 26)) (w7.alloc (.cells #[.int .i64 0, .int .i64 0, .slice a7 0 c7] 26))) := ⟨(HB46.out.trans (hb7.mono HB46.out.size)).alloc (by have h1 := HB46.out.size; have h2 := hb7.size; omega) _⟩; have HB7 := Hk.mk (HB4.out.trans (HB47.out.mono HB4.out.size)); clear ho7 hb7; clear c0 c1 c2 c3; obtain ⟨c0, c1, c2, c3⟩ := HCX.out _ HB7.out; obtain ⟨u0, u1, u2⟩ := HG4.out _ HB47.out) | (go_at_call 11; (with_reducible refine (lawnum7_any _ _).mono ?_); rintro e w' ⟨rfl, rfl⟩))
          have HY47 : Hk (By (w7.alloc (.cells #[.int .i64 0, .int .i64 0, .slice a7 0 c7] 26)) (w7.alloc (.cells #[.int .i64 0, .int .i64 0, .slice a7 0 c7] 26)).heap.size a4 xs.length xs) := ⟨(HO4.out.byS.below (((Below.refl _ _).alloc (Nat.le_refl _) (.cells #[.int .i64 W, .int .i64 H, .slice a4 xs.length c4] 26)).trans (HB47.out.mono (by simp))) (Nat.le_refl _)).mono (by have h1 := HB47.out.size; simp at h1 ⊢; omega)⟩
          have HB37 : Hk (Below w3.heap.size w3 (w7.alloc (.cells #[.int .i64 0, .int .i64 0, .slice a7 0 c7] 26))) := ⟨HB34.out.trans (HB47.out.mono HB34.out.size)⟩
          have hx47 : w4.heap.size < (w7.alloc (.cells #[.int .i64 0, .int .i64 0, .slice a7 0 c7] 26)).heap.size := by have h1 := HB47.out.size; simp at h1 ⊢; omega
          clear HO4 HO5 HY6 HN6 HB46 HB45 HB34 HB4 HM1 HM2 hnc6 hcm6 HB2
          generalize (w7.alloc (.cells #[.int .i64 0, .int .i64 0, .slice a7 0 c7] 26)) = w8 at *
          have HB8 := HB7
          have HY48 := HY47
          obtain ⟨g3, rfl, hg3⟩ := ownB_some HO3.out (by omega)
          have HY3L := HY3X
          go_region_with (first | (go_at_call 11; (with_reducible refine (lawnum7_any _ _).mono ?_); rintro e w' ⟨rfl, rfl⟩) | (go_at_call 14; ((with_reducible refine (eqg_yes W H W H a4 ag xs.length ng c4 cg xs xs _ ?_ ?_ ⟨⟨rfl, rfl, rfl⟩⟩ ?_).mono ?_); (exact HY48.out.drew); (exact (HGX.out _ HB8.out).drew); (have := HBG.out.by_.len; omega); rintro e w9 ⟨rfl, hb9⟩; have HB9' : Hk (Below w8.heap.size w8 w9) := ⟨(Below.refl _ _).drew.trans hb9⟩; clear hb9)))
          all_goals
            go_wp2
            have HB39 : Hk (Below w3.heap.size w3 w9) := ⟨HB37.out.trans (HB9'.out.mono HB37.out.size)⟩
            have HB09 : Hk (Below wr.heap.size wr w9) := ⟨HB8.out.trans (HB9'.out.mono HB8.out.size)⟩
            clear c0 c1 c2 c3 u0 u1 u2 HGX HXX HCX HG4 HB47 HY47 HY48 HB37 HB9' HB8 HB7 HB3
            obtain ⟨wo, rfl⟩ : ∃ wo : World, wo = wr := ⟨wr, rfl⟩
            go_loopw [10] (fun i wl => ∃ (k : Nat), i = .int .i64 k ∧ k ≤ 2 * L + 1 ∧ Hk (Below w9.heap.size w9 wl)) (fun i _ => L - (intOf i).toNat)
            case atStart => exact ⟨0, rfl, by omega, ⟨Below.refl _ _⟩⟩
            case round =>
              obtain ⟨k, rfl, hk, HBL⟩ := hrel
              have HB3L : Hk (Below w3.heap.size w3 wr) := ⟨HB39.out.trans (HBL.out.mono HB39.out.size)⟩
              by_cases hltk : k < L
              · have HYK : Hk (By wr wr.heap.size (some ⟨g3, 0, none⟩) k (zs.take k)) := ⟨(HY3X.out _ HB3L.out).head (by omega)⟩
                have HMC : Hk (mapS (zs.take k) = (0, 0, [], 11)) := ⟨HCUT.out k hltk⟩
                have i3 : (0 : Int) ≤ (k : Int) := by omega
                have i4 : (k : Int) < (L : Int) := by omega
                have i5 : (k : Int) ≤ (c3' : Int) := by omega
                by_cases hk4 : k < 4
                · go_wp2_with (first | (go_at_call 11; (with_reducible refine (lawnum7_any _ _).mono ?_); rintro e w' ⟨rfl, rfl⟩) | (go_at_call 17; (with_reducible refine (mparse_as 0 0 [] 11 (some ⟨g3, 0, none⟩) k c3' (zs.take k) _ HYK.out (by omega) hcm3 (by omega) (fun e0 => by cases e0) HMC).mono ?_); rintro o w10 ⟨a10, c10, rfl, ho10, hb10⟩; have HO10 := Hk.mk ho10.byS; have HB10 : Hk (Below wr.heap.size wr (w10.alloc (.cells #[.int .i64 0, .int .i64 0, .slice a10 0 c10] 26))) := ⟨hb10.alloc hb10.size _⟩; clear ho10 hb10) | (go_at_call 14; (with_reducible refine (eqg_yes 0 0 0 0 a10 none 0 0 c10 0 [] [] _ (By.nil _ _ _) (By.nil _ _ _) ⟨⟨rfl, rfl, rfl⟩⟩ (by omega)).mono ?_); rintro e w11 ⟨rfl, hb11⟩; have HB11 : Hk (Below wr.heap.size wr w11) := ⟨HB10.out.trans (hb11.mono HB10.out.size)⟩; clear hb11))
                  exact ⟨⟨k + 1 + L / 30, by go_num, by omega, ⟨HBL.out.trans (HB11.out.mono HBL.out.size)⟩⟩, by simp [intOf]; omega⟩
                · obtain ⟨x, hx⟩ : ∃ x, zs.getD k 0 = x := ⟨_, rfl⟩
                  obtain ⟨D, hD⟩ : ∃ D, 1 + ((j : Int) + (k : Int)) % 255 = D := ⟨_, rfl⟩
                  have hD1 : 1 ≤ D ∧ D ≤ 255 := by omega
                  obtain ⟨hD1, hD2⟩ := hD1
                  have hD3 : D % 256 = D := by omega
                  obtain ⟨V, hV⟩ : ∃ V, bits BinOp.xor IntKind.u8 x D = V := ⟨_, rfl⟩
                  have hxm := HZB.out _ (getD_mem (xs := zs) (k := k) (by rw [HLL.out]; exact hltk))
                  rw [hx] at hxm
                  have hxor := Fn.xor8 hxm ⟨hD1, hD2⟩
                  rw [hV] at hxor
                  obtain ⟨W2, H2, us, e2, hmt⟩ : ∃ W2 H2 us e2, mapS (zs.set k V) = (W2, H2, us, e2) := ⟨_, _, _, _, rfl⟩
                  have he2 := HTURN.out k V hltk hxor.1 (by rw [hx]; exact hxor.2) _ _ _ _ hmt
                  have HVB := Hk.mk hxor.1
                  have HMT := Hk.mk hmt
                  have be2 : (e2 == 0) = false := by simpa using he2
                  have HX := Hk.mk hx
                  clear hx hxor hmt he2 hxm
                  go_wp2_with (first | (go_at_call 11; (with_reducible refine (lawnum7_any _ _).mono ?_); rintro e w' ⟨rfl, rfl⟩) | (go_at_call 17; (with_reducible refine (mparse_as 0 0 [] 11 (some ⟨g3, 0, none⟩) k c3' (zs.take k) _ HYK.out (by omega) hcm3 (by omega) (fun e0 => by cases e0) HMC).mono ?_); rintro o w10 ⟨a10, c10, rfl, ho10, hb10⟩; have HO10 := Hk.mk ho10.byS; have HB10 : Hk (Below wr.heap.size wr (w10.alloc (.cells #[.int .i64 0, .int .i64 0, .slice a10 0 c10] 26))) := ⟨hb10.alloc hb10.size _⟩; clear ho10 hb10) | (go_at_call 14; (with_reducible refine (eqg_yes 0 0 0 0 a10 none 0 0 c10 0 [] [] _ (By.nil _ _ _) (By.nil _ _ _) ⟨⟨rfl, rfl, rfl⟩⟩ (by omega)).mono ?_); rintro e w11 ⟨rfl, hb11⟩; have HB11 : Hk (Below wr.heap.size wr w11) := ⟨HB10.out.trans (hb11.mono HB10.out.size)⟩; clear hb11) | (go_at_call 16; (with_reducible refine (copy_any (some ⟨g3, 0, none⟩) L c3' zs _ (HY3X.out _ (HB3L.out.trans (HB11.out.mono HB3L.out.size))) (by omega)).mono ?_); rintro e w12 ⟨v12, rfl, ho12, hb12⟩; obtain ⟨a12, c12, rfl, hnc12, -, -⟩ := ho12.by_; have hcm12 := ho12.capm; obtain ⟨g12, rfl, hg12⟩ := ownB_some ho12 (by omega); obtain ⟨q0, q1, q2⟩ := ownB_get ho12 hltk; rw [HX.out] at q0; have HO12 := Hk.mk ho12; have HB12 : Hk (Below wr.heap.size wr w12) := ⟨HB11.out.trans (hb12.mono HB11.out.size)⟩; have HS12 : Hk (wr.heap.size ≤ g12) := ⟨Nat.le_trans HB11.out.size hg12⟩; clear ho12 hb12 hg12) | (go_at_call 17; (with_reducible refine (mparse_as W2 H2 us e2 (some ⟨g12, 0, none⟩) L c12 (zs.set k V) _ (HO12.out.set_ k HVB.out).byS hnc12 hcm12 (by omega) (fun e0 => by cases e0) HMT).mono ?_); rintro o w13 ⟨a13, c13, rfl, ho13, hb13⟩; have HB13 : Hk (Below wr.heap.size wr w13) := ⟨(HB12.out.setCell (p := ⟨g12, k, none⟩) HS12.out _).trans (hb13.mono (by have h1 := HB12.out.size; simp; omega))⟩; have HB14 : Hk (Below wr.heap.size wr (w13.alloc (.cells #[.int .i64 W2, .int .i64 H2, .slice a13 us.length c13] 26))) := ⟨HB13.out.alloc HB13.out.size _⟩; clear ho13 hb13))
                  exact ⟨⟨k + 1 + L / 30, by go_num, by omega, ⟨HBL.out.trans (HB14.out.mono HBL.out.size)⟩⟩, by simp [intOf]; omega⟩
              · go_wp2
                exact ⟨⟨j + 1, by go_num, by omega, by omega, ⟨HB0.out.trans ((HB09.out.trans (HBL.out.mono HB09.out.size)).mono hwz)⟩⟩, by simp [intOf]; omega⟩
        · have HEB : Hk (gB W H ng xs = false) := ⟨gB_no hg⟩
          have HE : Hk (gE W H ng xs = 1) := ⟨gE_no hg⟩
          clear hg
          go_wp2_with (first | (go_at_call 7; (with_reducible refine (heavy7_as false W H ag ax ng cg nx cx _ HV).mono ?_); rintro e w2 ⟨rfl, hb2⟩; have HB2 := Hk.mk hb2; clear hb2; clear c0 c1 c2 c3; obtain ⟨c0, c1, c2, c3⟩ := HCX.out _ HB2.out) | (go_at_call 9; (with_reducible refine (mbytes_no W H ag ng cg xs _ (HGX.out _ HB2.out) (by omega) HE).mono ?_); rintro e w4 ⟨rfl, hb4⟩; have HB4 := Hk.mk (HB2.out.trans (hb4.mono HB2.out.size)); clear hb4; clear c0 c1 c2 c3; obtain ⟨c0, c1, c2, c3⟩ := HCX.out _ HB4.out) | (go_at_call 11; (with_reducible refine (lawnum7_any _ _).mono ?_); rintro e w' ⟨rfl, rfl⟩))
          exact ⟨⟨j + 1, by go_num, by omega, by omega, ⟨HB0.out.trans (HB4.out.mono hwz)⟩⟩, by simp [intOf]; omega⟩
    · go_wp2_with (go_at_call 15; (with_reducible refine (wakes7_any _).mono ?_); rintro e w' ⟨rfl, hb⟩)
      all_goals
        go_ret
        exact ⟨rfl, HB0.out.trans (hb.mono HB0.out.size)⟩

theorem mapcodeBack_own : ownKnob Try.prog.godebug = none := by kernel_rfl
theorem mapcodeBack_laidOut : laidOutB Try.prog = true := by kernel_rfl
set_option maxRecDepth 100000 in
theorem mapcodeBack_lifted (os : Os) (started : os.Started) (H : Type) (enc : TypeId × Value → H) :
    ReturnsInHanded {} Try.checked os 5 .any (Rows.mapcodeBackSpec.pre6 enc Try.prog Try.f5 Rows.mapcodeBackRow.domain false) (Rows.mapcodeBackSpec.post enc Try.prog Try.f5 false true false false) := by
  refine returnsInHanded_of_change (C := Try.checked) mapcodeBack_own started (by kernel_rfl) Try.func5
    (ChangeSpec.witness6 (enc := enc) (C := Try.checked) false ⟨#[], #[.slice none 0 0], []⟩ 8 (by kernel_rfl) (by kernel_rfl) (by kernel_rfl) (by kernel_rfl)) ?_
  intro W base args ds gs before hval0 hW hcnd _
  have hval : ∀ (j : Nat) t v, Try.f5.params[j]? = some t → args[j]? = some v → Value.okWide Try.prog W .any base t v := hval0
  have hW' := hW
  obtain ⟨p, q, hA0, hV, rfl, hfz, hnd⟩ := hW
  have hA : DataW.TrodAll enc Try.prog W 0 (fun _ => true) true Try.f5.params.toList args.toList ds p := hA0
  rw [Try.params5] at hA hval
  obtain ⟨v0, vs0, d0, ds0, p0, q0, hargs, rfl, rfl, h0, r0⟩ := trodAll_cons hA
  obtain ⟨rfl, rfl, rfl⟩ := trodAll_nil r0
  obtain rfl : args = #[v0] := by cases args; simp_all
  obtain ⟨rfl, rfl⟩ := trodVars_none hV
  obtain ⟨a0, len0, cap0, rfl⟩ := okWide_slice Try.underlying22 (hval 0 22 v0 rfl rfl)
  have k0 := h0
  have lt0 : ∀ x ∈ p0, x.block < W.heap.size := by obtain ⟨m, hm⟩ := k0; exact DataW.trod_lt m _ _ _ hm
  have rows : Asks7 W a0 len0 cap0 := by obtain ⟨fuel, hf⟩ := h0; exact asks7_of hf
  clear hA0 hval0
  refine (mapcodeBack_walk a0 len0 cap0 W rows).mono fun e W' ⟨he, bel⟩ => ?_
  subst he
  exact ⟨_, rfl, _, _, _, [], _, [], hW', trodAll_mk1 (shut_bool Try.underlying4 _), (trodAll_cons_mk (Below.trod mapcodeBack_laidOut (by kernel_rfl) (of_decide_eq_true (by kernel_rfl)) k0 bel lt0) trodAll_mk0), rfl, bel.frame _, fun h => by cases h⟩
theorem mapcodeBack_over : Rows.mapcodeBackRow.holds Try.pinned (OpenSpec.ofChange Rows.mapcodeBackSpec) :=
  OpenClaim.holds_of_wide 5 Try.f5 rfl rfl rfl rfl rfl rfl rfl ⟨rfl, rfl, rfl, rfl, rfl⟩ rfl rfl rfl rfl rfl (by kernel_rfl) Try.func5 (by kernel_rfl)
    (of_decide_eq_true (by kernel_rfl)) (by unfold Func.isWrapper; first | (rw [if_pos (by decide +kernel)]; kernel_rfl) | (rw [if_neg (by decide +kernel)]; exact ⟨rfl, rfl⟩))
    (fun os started H enc _ => mapcodeBack_lifted os started H enc)
/-- The given statement of MapcodeBack. -/
theorem mapcodeBack_holds : Rows.MapcodeBackSaid := mapcodeBack_over
end Go.Proofs.Ytmkehmeoglpkeaa
