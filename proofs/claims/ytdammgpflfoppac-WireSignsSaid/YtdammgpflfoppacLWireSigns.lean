/- For every list, WireSigns answers true and leaves its argument as it was: numbers not below 0 are even, those below are odd ones, as bytes; a number of either kind has no other one's bytes. No condition. -/
import Derived.Test.YtdammgpflfoppacWire
import Derived.Test.YtdammgpflfoppacWirg
import Derived.Deep.QuietTactic
import Derived.BigQuiet
import Derived.Deep.RegionWith
import Derived.Deep.RegionHeld3
namespace Go.Proofs.Ytdammgpflfoppac
open Go.ChangeShapes Go.WideShapes Go.ChangeAt Go.RowKit Go.Deep
set_option linter.unusedVariables false
set_option maxRecDepth 100000 in
set_option maxHeartbeats 1600000 in
theorem wireSigns_walk (a : Option Addr) (len cap : Nat) (w : World) (rows : Asks4 w a len cap) :
    Calls Try.prog 5 #[.slice a len cap] w fun e w' => e = .returned (.bool true) ∧ Below w.heap.size w w' := by
  obtain ⟨hl, hm, hall⟩ := rows
  have HALL := Hk.mk hall
  clear hall
  go_enter Try.func5, Try.ntmps5
  go_wp2
  go_loopw [3] (fun i  wr => ∃ (k : Nat), i = .int .i64 k ∧ k ≤ len ∧ k ≤ 15 ∧ Hk (Below w.heap.size w wr)) (fun i  _ => 15 - (intOf i).toNat)
  case atStart => exact ⟨0, rfl, by omega, by omega, ⟨Below.refl _ _⟩⟩
  case round =>
    obtain ⟨k, rfl, hk, hk2, HB⟩ := hrel
    by_cases hlt : k + 1 < len ∧ k < 15
    · obtain ⟨g1, g2⟩ := hlt
      obtain ⟨b, off, s, ab, nb, cb, xs, ax, nx, cx, ys, rfl, hbl, hs, ⟨hnb, hcb, hnob, hby⟩, ⟨hnx, hcx, hnox, hbx⟩, c0, c1, c2⟩ := HALL.out k (by omega)
      have d0 := (HB.out.cell (p := ⟨b, off + k * 3, none⟩) hbl).trans c0
      have d1 := (HB.out.cell (p := ⟨b, off + k * 3 + 1, none⟩) hbl).trans c1
      have d2 := (HB.out.cell (p := ⟨b, off + k * 3 + 2, none⟩) hbl).trans c2
      have HYB := Hk.mk (hby.below HB.out (Nat.le_refl _))
      have HYX := Hk.mk (hbx.below HB.out (Nat.le_refl _))
      have HNOB := Hk.mk hnob
      have HNOX := Hk.mk hnox
      have hsz := HB.out.size
      have O0 := Hk.mk c0
      have O1 := Hk.mk c1
      have O2 := Hk.mk c2
      have HBYO := Hk.mk hby
      have HBXO := Hk.mk hbx
      clear hby hbx c0 c1 c2 hnob hnox
      obtain ⟨b', off', s', ab', nb', cb', xs', ax', nx', cx', ys', e', hbl', hs', -, -, c0', -, -⟩ := HALL.out (k + 1) (by omega)
      simp only [Option.some.injEq, Addr.mk.injEq] at e'
      obtain ⟨rfl, rfl, -⟩ := e'
      have O0' := Hk.mk c0'
      have d0' := (HB.out.cell (p := ⟨b, off + (k + 1) * 3, none⟩) hbl).trans c0'
      clear c0' hbl'
      have i9 : (k : Int) + 1 < (len : Int) := by omega
      by_cases h62 : I62 s
      · have H62 := Hk.mk h62
        clear h62
        by_cases h62' : I62 s'
        · have H62' := Hk.mk h62'
          clear h62'
          go_wp2_with (first | (go_at_call_of 11 (Value.int IntKind.i64 s); (with_reducible refine (int_any s _ H62.out).mono ?_); rintro e w1 ⟨v1, rfl, ho1, hb1⟩; obtain ⟨a1, c1, rfl, -, hy1, -⟩ := ho1.by_; have HY1 := Hk.mk hy1; have HC1 := Hk.mk (HB.out.trans (hb1.mono hsz)); have e0 := (HC1.out.cell (p := ⟨b, off + k * 3, none⟩) hbl).trans O0.out; have e0' := (HC1.out.cell (p := ⟨b, off + (k + 1) * 3, none⟩) hbl).trans O0'.out; clear ho1 hy1 hb1) | (go_at_call_of 11 (Value.int IntKind.i64 s'); (with_reducible refine (int_any s' _ H62'.out).mono ?_); rintro e w2 ⟨v2, rfl, ho2, hb2⟩; obtain ⟨a2, c2, rfl, -, hy2, -⟩ := ho2.by_; have HY2 := Hk.mk hy2; have HB2 := Hk.mk hb2; have HC2 := Hk.mk (HC1.out.trans (hb2.mono HC1.out.size)); have f0 := (HC2.out.cell (p := ⟨b, off + k * 3, none⟩) hbl).trans O0.out; have f0' := (HC2.out.cell (p := ⟨b, off + (k + 1) * 3, none⟩) hbl).trans O0'.out; clear ho2 hy2 hb2) | (go_at_call 8; (with_reducible refine (lawnum_any _ _).mono ?_); rintro e w' ⟨rfl, rfl⟩))
          have HYa := Hk.mk ((HY1.out.below HB2.out (Nat.le_refl _)).mono HB2.out.size)
          have HYb := HY2
          have N9 := Hk.mk (Wr.numL_nine (n := Wr.zig s) (by have := zig_bd H62.out; omega))
          have N9' := Hk.mk (Wr.numL_nine (n := Wr.zig s') (by have := zig_bd H62'.out; omega))
          have npos := Wr.numL_pos (Wr.zig s)
          have hpar := Wr.numL_mod (Wr.zig s)
          obtain ⟨bb, ob, rfl, -, hcell⟩ := HYa.out.at_ npos
          have hx0 := hcell 0 npos
          have hxb := HYa.out.bd (k := 0) npos
          rw [Nat.add_zero] at hx0
          obtain ⟨x0, hx00⟩ : ∃ x0, (Wr.numL (Wr.zig s)).getD 0 0 = x0 := ⟨_, rfl⟩
          rw [hx00] at hx0 hxb hpar
          obtain ⟨hxb0, hxb1⟩ := hxb
          have j0 : ((Wr.numL (Wr.zig s)).length == 0) = false := beq_eq_false_iff_ne.2 (by omega)
          have j1 : (((Wr.numL (Wr.zig s)).length : Int) == 0) = false := beq_eq_false_iff_ne.2 (by omega)
          have j2 : (0 : Int) < ((Wr.numL (Wr.zig s)).length : Int) := by omega
          clear hcell hx00 HY1 e0 e0'
          have i8 : ((k : Int) + 1).toNat = k + 1 := by omega
          rcases Int.lt_or_le s 0 with hp | hp
          · by_cases hss : s = s'
            · subst hss
              have q1 : decide (s < 0) = true := by simpa using hp
              have q2 : decide (0 ≤ s) = false := by simp; omega
              have hodd : (x0 % 2 == 1) = true := by have := (Wr.zig_odd s).2 hp; simp; omega
              obtain ⟨Z, hZ⟩ : ∃ Z : Nat, Z = 0 := ⟨_, rfl⟩
              have hmax : (if s < 0 then 0 else s) = (Z : Int) := by subst hZ; rw [if_pos hp]; rfl
              have hlen : (Wr.numL Z).length ≤ (Wr.numL (Wr.zig s)).length := by subst hZ; exact Wr.numL_mono (by omega)
              have hZm : Z ≤ 9223372036854775807 := by omega
              have HMX := Hk.mk hmax
              have HZM := Hk.mk hZm
              have hle : decide (((Wr.numL (Wr.zig s)).length : Int) < ((Wr.numL Z).length : Int)) = false := by simp; omega
              have hle2 : decide ((Wr.numL (Wr.zig s)).length < (Wr.numL Z).length) = false := by simp; omega
              clear hZ hlen hZm hp hpar
              go_quiet ((first | (go_at_call 15; exact Calls.quiet_of (eqb_yes _ _ _ _ _ (Wr.numL (Wr.zig s)) _ (HYa.out.drewN _) (HYb.out.drewN _) (by have := N9.out; omega)))))
              rename_i nq
              have HC3 := Hk.mk (below_drewN HC2.out nq)
              have g0 : (w2.drewN nq).cell? ⟨b, off + k * 3, none⟩ = some (.int .i64 s) := f0
              clear f0 f0' HYa HYb
              generalize w2.drewN nq = w3 at *
              go_wp2_with (first | (go_at_call 7; refine (num_at _ Z _ ⟨by first | rfl | exact HMX.out⟩ HZM).mono ?_; rintro e w4 ⟨v4, rfl, ho4, hb4⟩; obtain ⟨a4, c4, rfl, -, -, -⟩ := ho4.by_; have HC4 := Hk.mk (HC3.out.trans (hb4.mono HC3.out.size)); have h0 := (HC4.out.cell (p := ⟨b, off + k * 3, none⟩) hbl).trans O0.out; clear ho4 hb4) | (go_at_call 8; (with_reducible refine (lawnum_any _ _).mono ?_); rintro e w' ⟨rfl, rfl⟩))
              go_roundw
              case rel => exact ⟨k + 1, by go_num, by omega, by omega, HC4⟩
              case measure => simp [intOf]; omega
            · have HNE : Hk (Wr.numL (Wr.zig s) ≠ Wr.numL (Wr.zig s')) := ⟨fun h => hss (Wr.zig_inj (Wr.numL_inj (by have := zig_bd H62.out; omega) (by have := zig_bd H62'.out; omega) h))⟩
              have hss2 : (s == s') = false := by simpa using hss
              clear hss
              have q1 : decide (s < 0) = true := by simpa using hp
              have q2 : decide (0 ≤ s) = false := by simp; omega
              have hodd : (x0 % 2 == 1) = true := by have := (Wr.zig_odd s).2 hp; simp; omega
              obtain ⟨Z, hZ⟩ : ∃ Z : Nat, Z = 0 := ⟨_, rfl⟩
              have hmax : (if s < 0 then 0 else s) = (Z : Int) := by subst hZ; rw [if_pos hp]; rfl
              have hlen : (Wr.numL Z).length ≤ (Wr.numL (Wr.zig s)).length := by subst hZ; exact Wr.numL_mono (by omega)
              have hZm : Z ≤ 9223372036854775807 := by omega
              have HMX := Hk.mk hmax
              have HZM := Hk.mk hZm
              have hle : decide (((Wr.numL (Wr.zig s)).length : Int) < ((Wr.numL Z).length : Int)) = false := by simp; omega
              have hle2 : decide ((Wr.numL (Wr.zig s)).length < (Wr.numL Z).length) = false := by simp; omega
              clear hZ hlen hZm hp hpar
              go_quiet ((first | (go_at_call 15; exact Calls.quiet_of (eqb_no _ _ _ _ _ _ (Wr.numL (Wr.zig s)) (Wr.numL (Wr.zig s')) _ (HYa.out.drewN _) (HYb.out.drewN _) (by have := N9.out; omega) (by have := N9'.out; omega) HNE.out))))
              rename_i nq
              have HC3 := Hk.mk (below_drewN HC2.out nq)
              have g0 : (w2.drewN nq).cell? ⟨b, off + k * 3, none⟩ = some (.int .i64 s) := f0
              clear f0 f0' HYa HYb
              generalize w2.drewN nq = w3 at *
              go_wp2_with (first | (go_at_call 7; refine (num_at _ Z _ ⟨by first | rfl | exact HMX.out⟩ HZM).mono ?_; rintro e w4 ⟨v4, rfl, ho4, hb4⟩; obtain ⟨a4, c4, rfl, -, -, -⟩ := ho4.by_; have HC4 := Hk.mk (HC3.out.trans (hb4.mono HC3.out.size)); have h0 := (HC4.out.cell (p := ⟨b, off + k * 3, none⟩) hbl).trans O0.out; clear ho4 hb4) | (go_at_call 8; (with_reducible refine (lawnum_any _ _).mono ?_); rintro e w' ⟨rfl, rfl⟩))
              go_roundw
              case rel => exact ⟨k + 1, by go_num, by omega, by omega, HC4⟩
              case measure => simp [intOf]; omega
          · by_cases hss : s = s'
            · subst hss
              have q1 : decide (s < 0) = false := by simpa using hp
              have q2 : decide (0 ≤ s) = true := by simpa using hp
              have hodd : (x0 % 2 == 1) = false := by have := Wr.zig_odd s; simp; omega
              obtain ⟨Z, hZ⟩ := Int.eq_ofNat_of_zero_le hp
              have hmax : (if s < 0 then 0 else s) = (Z : Int) := by rw [if_neg (by omega), hZ]
              have hlen : (Wr.numL Z).length ≤ (Wr.numL (Wr.zig s)).length := Wr.numL_mono (by unfold Wr.zig; rw [if_neg (by omega)]; omega)
              have hZm : Z ≤ 9223372036854775807 := by omega
              have HMX := Hk.mk hmax
              have HZM := Hk.mk hZm
              have hle : decide (((Wr.numL (Wr.zig s)).length : Int) < ((Wr.numL Z).length : Int)) = false := by simp; omega
              have hle2 : decide ((Wr.numL (Wr.zig s)).length < (Wr.numL Z).length) = false := by simp; omega
              clear hZ hlen hZm hp hpar
              go_quiet ((first | (go_at_call 15; exact Calls.quiet_of (eqb_yes _ _ _ _ _ (Wr.numL (Wr.zig s)) _ (HYa.out.drewN _) (HYb.out.drewN _) (by have := N9.out; omega)))))
              rename_i nq
              have HC3 := Hk.mk (below_drewN HC2.out nq)
              have g0 : (w2.drewN nq).cell? ⟨b, off + k * 3, none⟩ = some (.int .i64 s) := f0
              clear f0 f0' HYa HYb
              generalize w2.drewN nq = w3 at *
              go_wp2_with (first | (go_at_call 7; refine (num_at _ Z _ ⟨by first | rfl | exact HMX.out⟩ HZM).mono ?_; rintro e w4 ⟨v4, rfl, ho4, hb4⟩; obtain ⟨a4, c4, rfl, -, -, -⟩ := ho4.by_; have HC4 := Hk.mk (HC3.out.trans (hb4.mono HC3.out.size)); have h0 := (HC4.out.cell (p := ⟨b, off + k * 3, none⟩) hbl).trans O0.out; clear ho4 hb4) | (go_at_call 8; (with_reducible refine (lawnum_any _ _).mono ?_); rintro e w' ⟨rfl, rfl⟩))
              go_roundw
              case rel => exact ⟨k + 1, by go_num, by omega, by omega, HC4⟩
              case measure => simp [intOf]; omega
            · have HNE : Hk (Wr.numL (Wr.zig s) ≠ Wr.numL (Wr.zig s')) := ⟨fun h => hss (Wr.zig_inj (Wr.numL_inj (by have := zig_bd H62.out; omega) (by have := zig_bd H62'.out; omega) h))⟩
              have hss2 : (s == s') = false := by simpa using hss
              clear hss
              have q1 : decide (s < 0) = false := by simpa using hp
              have q2 : decide (0 ≤ s) = true := by simpa using hp
              have hodd : (x0 % 2 == 1) = false := by have := Wr.zig_odd s; simp; omega
              obtain ⟨Z, hZ⟩ := Int.eq_ofNat_of_zero_le hp
              have hmax : (if s < 0 then 0 else s) = (Z : Int) := by rw [if_neg (by omega), hZ]
              have hlen : (Wr.numL Z).length ≤ (Wr.numL (Wr.zig s)).length := Wr.numL_mono (by unfold Wr.zig; rw [if_neg (by omega)]; omega)
              have hZm : Z ≤ 9223372036854775807 := by omega
              have HMX := Hk.mk hmax
              have HZM := Hk.mk hZm
              have hle : decide (((Wr.numL (Wr.zig s)).length : Int) < ((Wr.numL Z).length : Int)) = false := by simp; omega
              have hle2 : decide ((Wr.numL (Wr.zig s)).length < (Wr.numL Z).length) = false := by simp; omega
              clear hZ hlen hZm hp hpar
              go_quiet ((first | (go_at_call 15; exact Calls.quiet_of (eqb_no _ _ _ _ _ _ (Wr.numL (Wr.zig s)) (Wr.numL (Wr.zig s')) _ (HYa.out.drewN _) (HYb.out.drewN _) (by have := N9.out; omega) (by have := N9'.out; omega) HNE.out))))
              rename_i nq
              have HC3 := Hk.mk (below_drewN HC2.out nq)
              have g0 : (w2.drewN nq).cell? ⟨b, off + k * 3, none⟩ = some (.int .i64 s) := f0
              clear f0 f0' HYa HYb
              generalize w2.drewN nq = w3 at *
              go_wp2_with (first | (go_at_call 7; refine (num_at _ Z _ ⟨by first | rfl | exact HMX.out⟩ HZM).mono ?_; rintro e w4 ⟨v4, rfl, ho4, hb4⟩; obtain ⟨a4, c4, rfl, -, -, -⟩ := ho4.by_; have HC4 := Hk.mk (HC3.out.trans (hb4.mono HC3.out.size)); have h0 := (HC4.out.cell (p := ⟨b, off + k * 3, none⟩) hbl).trans O0.out; clear ho4 hb4) | (go_at_call 8; (with_reducible refine (lawnum_any _ _).mono ?_); rintro e w' ⟨rfl, rfl⟩))
              go_roundw
              case rel => exact ⟨k + 1, by go_num, by omega, by omega, HC4⟩
              case measure => simp [intOf]; omega
        · have H62' := Hk.mk h62'
          clear h62'
          go_wp2_with (first | (go_at_call_of 11 (Value.int IntKind.i64 s); (with_reducible refine (int_any s _ H62.out).mono ?_); rintro e w1 ⟨v1, rfl, ho1, hb1⟩; obtain ⟨a1, c1, rfl, -, hy1, -⟩ := ho1.by_; have HY1 := Hk.mk hy1; have HC1 := Hk.mk (HB.out.trans (hb1.mono hsz)); have e0 := (HC1.out.cell (p := ⟨b, off + k * 3, none⟩) hbl).trans O0.out; have e0' := (HC1.out.cell (p := ⟨b, off + (k + 1) * 3, none⟩) hbl).trans O0'.out; clear ho1 hy1 hb1) | (go_at_call_of 11 (Value.int IntKind.i64 s'); (with_reducible refine (int_no s' _ H62'.out).mono ?_); rintro e w2 ⟨rfl, rfl⟩) | (go_at_call 8; (with_reducible refine (lawnum_any _ _).mono ?_); rintro e w' ⟨rfl, rfl⟩))
          go_roundw
          case rel => exact ⟨k + 1, by go_num, by omega, by omega, HC1⟩
          case measure => simp [intOf]; omega
      · have H62 := Hk.mk h62
        clear h62
        by_cases h62' : I62 s'
        · have H62' := Hk.mk h62'
          clear h62'
          go_wp2_with (first | (go_at_call_of 11 (Value.int IntKind.i64 s); (with_reducible refine (int_no s _ H62.out).mono ?_); rintro e w1 ⟨rfl, rfl⟩) | (go_at_call_of 11 (Value.int IntKind.i64 s'); (with_reducible refine (int_any s' _ H62'.out).mono ?_); rintro e w2 ⟨v2, rfl, ho2, hb2⟩; obtain ⟨a2, c2, rfl, -, hy2, -⟩ := ho2.by_; have HY2 := Hk.mk hy2; have HB2 := Hk.mk hb2; have HC2 := Hk.mk (HB.out.trans (hb2.mono HB.out.size)); have f0 := (HC2.out.cell (p := ⟨b, off + k * 3, none⟩) hbl).trans O0.out; have f0' := (HC2.out.cell (p := ⟨b, off + (k + 1) * 3, none⟩) hbl).trans O0'.out; clear ho2 hy2 hb2) | (go_at_call 8; (with_reducible refine (lawnum_any _ _).mono ?_); rintro e w' ⟨rfl, rfl⟩))
          go_roundw
          case rel => exact ⟨k + 1, by go_num, by omega, by omega, HC2⟩
          case measure => simp [intOf]; omega
        · have H62' := Hk.mk h62'
          clear h62'
          go_wp2_with (first | (go_at_call_of 11 (Value.int IntKind.i64 s); (with_reducible refine (int_no s _ H62.out).mono ?_); rintro e w1 ⟨rfl, rfl⟩) | (go_at_call_of 11 (Value.int IntKind.i64 s'); (with_reducible refine (int_no s' _ H62'.out).mono ?_); rintro e w2 ⟨rfl, rfl⟩) | (go_at_call 8; (with_reducible refine (lawnum_any _ _).mono ?_); rintro e w' ⟨rfl, rfl⟩))
          go_roundw
          case rel => exact ⟨k + 1, by go_num, by omega, by omega, HB⟩
          case measure => simp [intOf]; omega
    · go_wp2_with (go_at_call 16; (with_reducible refine (wakes4_any _).mono ?_); rintro e w' ⟨rfl, hb⟩)
      all_goals
        go_ret
        exact ⟨rfl, HB.out.trans (hb.mono HB.out.size)⟩

theorem wireSigns_own : ownKnob Try.prog.godebug = none := by kernel_rfl
theorem wireSigns_laidOut : laidOutB Try.prog = true := by kernel_rfl
set_option maxRecDepth 100000 in
theorem wireSigns_lifted (os : Os) (started : os.Started) (H : Type) (enc : TypeId × Value → H) :
    ReturnsInHanded {} Try.checked os 5 .any (Rows.wireSignsSpec.pre6 enc Try.prog Try.f5 Rows.wireSignsRow.domain false) (Rows.wireSignsSpec.post enc Try.prog Try.f5 false true false false) := by
  refine returnsInHanded_of_change (C := Try.checked) wireSigns_own started (by kernel_rfl) Try.func5
    (ChangeSpec.witness6 (enc := enc) (C := Try.checked) false ⟨#[], #[.slice none 0 0], []⟩ 8 (by kernel_rfl) (by kernel_rfl) (by kernel_rfl) (by kernel_rfl)) ?_
  intro W base args ds gs before hval0 hW hcnd _
  have hval : ∀ (j : Nat) t v, Try.f5.params[j]? = some t → args[j]? = some v → Value.okWide Try.prog W .any base t v := hval0
  have hW' := hW
  obtain ⟨p, q, hA0, hV, rfl, hfz, hnd⟩ := hW
  have hA : DataW.TrodAll enc Try.prog W 0 (fun _ => true) true Try.f5.params.toList args.toList ds p := hA0
  rw [Try.params5] at hA hval
  obtain ⟨v0, vs0, d0, ds0, p0, q0, hargs, rfl, rfl, h0, r0⟩ := trodAll_cons hA
  obtain ⟨rfl, rfl, rfl⟩ := trodAll_nil r0
  obtain rfl : args = #[v0] := by cases args; simp_all
  obtain ⟨rfl, rfl⟩ := trodVars_none hV
  obtain ⟨a0, len0, cap0, rfl⟩ := okWide_slice Try.underlying22 (hval 0 22 v0 rfl rfl)
  have k0 := h0
  have lt0 : ∀ x ∈ p0, x.block < W.heap.size := by obtain ⟨m, hm⟩ := k0; exact DataW.trod_lt m _ _ _ hm
  have rows : Asks4 W a0 len0 cap0 := by obtain ⟨fuel, hf⟩ := h0; exact asks4_of hf
  clear hA0 hval0
  refine (wireSigns_walk a0 len0 cap0 W rows).mono fun e W' ⟨he, bel⟩ => ?_
  subst he
  exact ⟨_, rfl, _, _, _, [], _, [], hW', trodAll_mk1 (shut_bool Try.underlying4 _), (trodAll_cons_mk (Below.trod wireSigns_laidOut (by kernel_rfl) (of_decide_eq_true (by kernel_rfl)) k0 bel lt0) trodAll_mk0), rfl, bel.frame _, fun h => by cases h⟩
theorem wireSigns_over : Rows.wireSignsRow.holds Try.pinned (OpenSpec.ofChange Rows.wireSignsSpec) :=
  OpenClaim.holds_of_wide 5 Try.f5 rfl rfl rfl rfl rfl rfl rfl ⟨rfl, rfl, rfl, rfl, rfl⟩ rfl rfl rfl rfl rfl (by kernel_rfl) Try.func5 (by kernel_rfl)
    (of_decide_eq_true (by kernel_rfl)) (by unfold Func.isWrapper; first | (rw [if_pos (by decide +kernel)]; kernel_rfl) | (rw [if_neg (by decide +kernel)]; exact ⟨rfl, rfl⟩))
    (fun os started H enc _ => wireSigns_lifted os started H enc)
/-- The given statement of WireSigns. -/
theorem wireSigns_holds : Rows.WireSignsSaid := wireSigns_over
end Go.Proofs.Ytdammgpflfoppac
