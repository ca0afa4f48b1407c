/- For every list, MapcodeSizes answers true and leaves its argument as it was: a map has as many bytes as tiles, and a few more; the greatest one there and back; a side more is refused. No condition. -/
import Derived.Test.YtmkehmeoglpkeaaMpn
import Derived.Test.YtmkehmeoglpkeaaWirg
import Derived.Deep.QuietTactic
import Derived.BigQuiet
import Derived.Deep.RegionWith
import Derived.Deep.RegionHeld3
namespace Go.Proofs.Ytmkehmeoglpkeaa
open Go.ChangeShapes Go.WideShapes Go.ChangeAt Go.RowKit Go.Deep
set_option linter.unusedVariables false
/-- The map that is written over, in its two blocks. -/
structure Sz (T : Nat) (X : World) (ts : List Int) : Prop where
  own : OwnB X T (.slice (some ⟨T, 0, none⟩) 16384 16384) 16384 ts
  g0 : X.cell? ⟨T + 1, 0, none⟩ = some (.int .i64 128)
  g1 : X.cell? ⟨T + 1, 1, none⟩ = some (.int .i64 128)
  g2 : X.cell? ⟨T + 1, 2, none⟩ = some (.slice (some ⟨T, 0, none⟩) 16384 16384)
theorem Sz.facts {T : Nat} {X : World} {ts : List Int} (h : Sz T X ts) : X.cell? ⟨T + 1, 0, none⟩ = some (.int .i64 128) ∧ X.cell? ⟨T + 1, 1, none⟩ = some (.int .i64 128) ∧ X.cell? ⟨T + 1, 2, none⟩ = some (.slice (some ⟨T, 0, none⟩) 16384 16384) ∧ (X.cell? ⟨T, 77, none⟩ = some (.int .u8 (ts.getD 77 0)) ∧ X.frozen? ⟨T, 77, none⟩ = false ∧ T + 1 < X.heap.size) :=
  ⟨h.g0, h.g1, h.g2, (ownB_get h.own (by omega)).1, (ownB_get h.own (by omega)).2.1, World.block_lt_of_cell? _ _ h.g0⟩
theorem Sz.lt {T : Nat} {X : World} {ts : List Int} (h : Sz T X ts) : T + 1 < X.heap.size := World.block_lt_of_cell? _ _ h.g0
theorem Sz.below {T : Nat} {X Y : World} {ts : List Int} (h : Sz T X ts) (hb : Below X.heap.size X Y) : Sz T Y ts :=
  ⟨h.own.below hb, (hb.cell (p := ⟨T + 1, 0, none⟩) h.lt).trans h.g0, (hb.cell (p := ⟨T + 1, 1, none⟩) h.lt).trans h.g1, (hb.cell (p := ⟨T + 1, 2, none⟩) h.lt).trans h.g2⟩
theorem Sz.alloc {T : Nat} {X : World} {ts : List Int} (h : Sz T X ts) (o : Obj) : Sz T (X.alloc o) ts := h.below ((Below.refl _ _).alloc (Nat.le_refl _) o)
theorem Sz.store {T : Nat} {X : World} {ts : List Int} (h : Sz T X ts) (v : Int) (hv : Fn.Byt v) : Sz T (X.setCell ⟨T, 77, none⟩ (.int .u8 v)) (ts.set 77 v) := by
  have h0 := h.g0
  have h1 := h.g1
  have h2 := h.g2
  exact ⟨h.own.set_ 77 hv, by go_simp, by go_simp, by go_simp⟩
set_option maxRecDepth 100000 in
set_option maxHeartbeats 6400000 in
theorem mapcodeSizes_walk (a0 : Option Addr) (len cap : Nat) (w : World) (rows : Asks7 w a0 len cap) :
    Calls Try.prog 6 #[.slice a0 len cap] w fun e w' => e = .returned (.bool true) ∧ Below w.heap.size w w' := by
  obtain ⟨hl, hm, -⟩ := rows
  obtain ⟨T0, hT0⟩ : ∃ T0 : List Int, List.replicate 16384 0 = T0 := ⟨_, rfl⟩
  have htl : T0.length = 16384 := by rw [← hT0]; simp
  have ht0 : ∀ x ∈ T0, 0 ≤ x ∧ x ≤ 5 := fun x hx => by rw [← hT0] at hx; rw [List.eq_of_mem_replicate hx]; omega
  have ht1 : ∀ x ∈ T0.set 77 5, 0 ≤ x ∧ x ≤ 5 := fun x hx => by
    rcases List.mem_or_eq_of_mem_set hx with h1 | rfl
    · exact ht0 x h1
    · omega
  have hg77 : T0.getD 77 0 = 0 := by rw [← hT0]; simp [List.getD]
  have HTL := Hk.mk htl
  obtain ⟨zs0, hz0⟩ : ∃ zs0, Mp.mapL 128 128 T0 = zs0 := ⟨_, rfl⟩
  obtain ⟨zs1, hz1⟩ : ∃ zs1, Mp.mapL 128 128 (T0.set 77 5) = zs1 := ⟨_, rfl⟩
  have HD0 := Hk.mk hz0
  have HD1 := Hk.mk hz1
  have n128 : (Wr.numL (128 : Int).toNat).length = 2 := by
    rw [show (128 : Int).toNat = 128 from rfl, Wr.numL_high (by omega), Wr.numL_low (by omega)]; rfl
  have HL0 : Hk (zs0.length = 16398) := ⟨by rw [← hz0]; unfold Mp.mapL; rw [List.length_append, Mp.eight_len, mapB_len, n128, htl]⟩
  have HL1 : Hk (zs1.length = 16398) := ⟨by rw [← hz1]; unfold Mp.mapL; rw [List.length_append, Mp.eight_len, mapB_len, n128, List.length_set, htl]⟩
  have HG0 : Hk (GOk 128 128 16384 T0) := ⟨⟨by omega, by omega, by omega, by omega, by omega, fun x hx => (ht0 x hx).2⟩⟩
  have HG1 : Hk (GOk 128 128 16384 (T0.set 77 5)) := ⟨⟨by omega, by omega, by omega, by omega, by omega, fun x hx => (ht1 x hx).2⟩⟩
  have HM0 : Hk (mapS zs0 = (128, 128, T0, 0)) := ⟨by have h1 := mapS_back (W := 128) (H := 128) (by omega) (by omega) (by omega) (by omega) (by rw [htl]; rfl) ht0 []; rw [← hz0]; simpa using h1⟩
  have hM1 : mapS zs1 = (128, 128, T0.set 77 5, 0) := by have h1 := mapS_back (W := 128) (H := 128) (by omega) (by omega) (by omega) (by omega) (by rw [List.length_set, htl]; rfl) ht1 []; rw [← hz1]; simpa using h1
  have h77 : T0[77]? = some 0 := by
    rw [List.getElem?_eq_getElem (by omega)]
    have h1 := hg77
    simp only [List.getD, List.getElem?_eq_getElem (show 77 < T0.length by omega), Option.getD_some] at h1
    rw [h1]
  have HNE : Hk (zs0 ≠ zs1) := ⟨fun e => by
    rw [← e, HM0.out] at hM1
    simp only [Prod.mk.injEq] at hM1
    have h1 := congrArg (fun l => l[77]?) hM1.2.2.1
    simp only [h77, List.getElem?_set_self (show 77 < T0.length by omega)] at h1
    simp at h1⟩
  have HE9 : Hk (gE 129 1 129 (List.replicate 129 0) = 1) := ⟨gE_no (fun h => by have := h.w2; omega)⟩
  have HE0 : Hk (gE 0 0 0 [] = 1) := ⟨gE_no (fun h => by have := h.w1; omega)⟩
  have HE2 : Hk (gE 128 128 16384 ((T0.set 77 5).set 77 6) = 1) := ⟨gE_no (fun h => by have := h.ts 6 (List.mem_of_getElem? (i := 77) (by rw [List.getElem?_set_self (by rw [List.length_set]; omega)])); omega)⟩
  have HSS : Hk (T0 = ((T0.set 77 5).set 77 6).set 77 0) := ⟨by
    rw [List.set_set, List.set_set]
    refine List.ext_getElem? fun i => ?_
    by_cases hi : i = 77
    · subst hi; rw [h77, List.getElem?_set_self (by omega)]
    · rw [List.getElem?_set_ne (by omega)]⟩
  have hmk : ∀ w, (Instr.makeSlice 24 (.int .i64 16384) (.int .i64 16384)).run Try.prog w = .ok (.slice (some ⟨w.heap.size, 0, none⟩) 16384 16384) (w.alloc (.cells (Z8 16384) 5)) := make_u8 16384 (by omega)
  have hmk2 : ∀ w, (Instr.makeSlice 24 (.int .i64 129) (.int .i64 129)).run Try.prog w = .ok (.slice (some ⟨w.heap.size, 0, none⟩) 129 129) (w.alloc (.cells (Z8 129) 5)) := make_u8 129 (by omega)
  have HW1 : Hk (Below w.heap.size w ((w.alloc (.cells (Z8 16384) 5)).alloc (.cells #[.int .i64 128, .int .i64 128, .slice (some ⟨w.heap.size, 0, none⟩) 16384 16384] 26))) := ⟨((Below.refl _ _).alloc (Nat.le_refl _) _).alloc (by simp) _⟩
  have HZ1 : Hk (Sz w.heap.size ((w.alloc (.cells (Z8 16384) 5)).alloc (.cells #[.int .i64 128, .int .i64 128, .slice (some ⟨w.heap.size, 0, none⟩) 16384 16384] 26)) T0) := ⟨⟨by rw [← hT0]; exact (own_Z8 w 16384 w.heap.size (Nat.le_refl _) (by omega)).below ((Below.refl _ _).alloc (Nat.le_refl _) _), by go_simp, by go_simp, by go_simp⟩⟩
  obtain ⟨g0, g1, g2, t77, f77, tlt⟩ := HZ1.out.facts
  clear hz0 hz1 htl ht0 ht1 hg77 hT0 n128 hM1 h77
  go_enter Try.func6, Try.ntmps6
  go_wp2_with (first | (go_at_call 9; (with_reducible refine (mbytes_as 128 128 (some ⟨w.heap.size, 0, none⟩) 16384 16384 T0 zs0 16398 _ HZ1.out.own.byS (fun e0 => by cases e0) HG0 HD0 HL0).mono ?_); rintro e w2 ⟨a2, c2, rfl, ho2, hb2⟩; have HO2 := Hk.mk ho2; have hnc2 : 16398 ≤ c2 := (by obtain ⟨_, _, e9, h9, _, _⟩ := ho2.by_; injection e9 with e1 e2 e3; omega); have hcm2 := ho2.capm; have HB2 := Hk.mk hb2; clear ho2 hb2) | (go_at_call 17; (with_reducible refine (mparse_as 128 128 T0 0 a2 16398 c2 zs0 _ HO2.out.byS hnc2 hcm2 (by omega) HO2.out.anm HM0).mono ?_); rintro o w3 ⟨a3, c3, rfl, ho3, hb3⟩; have HO3 := Hk.mk ho3; have HB3 : Hk (Below w2.heap.size w2 (w3.alloc (.cells #[.int .i64 128, .int .i64 128, .slice a3 T0.length c3] 26))) := ⟨hb3.alloc hb3.size _⟩; have HB13 : Hk (Below (((w.alloc (.cells (Z8 16384) 5)).alloc (.cells #[.int .i64 128, .int .i64 128, .slice (some ⟨w.heap.size, 0, none⟩) 16384 16384] 26))).heap.size ((w.alloc (.cells (Z8 16384) 5)).alloc (.cells #[.int .i64 128, .int .i64 128, .slice (some ⟨w.heap.size, 0, none⟩) 16384 16384] 26)) (w3.alloc (.cells #[.int .i64 128, .int .i64 128, .slice a3 T0.length c3] 26))) := ⟨HB2.out.trans (HB3.out.mono HB2.out.size)⟩; have HS3 : Hk (w2.heap.size ≤ w3.heap.size) := ⟨hb3.size⟩; have HZ3 := Hk.mk (HZ1.out.below HB13.out); have HZ4 := Hk.mk (HZ3.out.store 5 (by unfold Fn.Byt; omega)); clear ho3 hb3 g0 g1 g2 t77 f77 tlt; obtain ⟨g0, g1, g2, t77, f77, tlt⟩ := (HZ3.out).facts; obtain ⟨h0, h1, h2, -, -, -⟩ := HZ4.out.facts) | (go_at_call 9; (with_reducible refine (mbytes_as 128 128 (some ⟨w.heap.size, 0, none⟩) 16384 16384 (T0.set 77 5) zs1 16398 _ HZ4.out.own.byS (fun e0 => by cases e0) HG1 HD1 HL1).mono ?_); rintro e w5 ⟨a5, c5, rfl, ho5, hb5⟩; have HO5 := Hk.mk ho5; have HB5 := Hk.mk hb5; have HZ5 := Hk.mk ((HZ4.out.below hb5).alloc (.cells (Z8 129) 5)); clear ho5 hb5 h0 h1 h2 g0 g1 g2 t77 f77 tlt; obtain ⟨g0, g1, g2, t77, f77, tlt⟩ := (HZ5.out).facts; ) | (go_at_call 9; (with_reducible refine (mbytes_no 129 1 (some ⟨w5.heap.size, 0, none⟩) 129 129 (List.replicate 129 0) _ (own_Z8 w5 129 0 (by omega) (by omega)).byS (by omega) HE9).mono ?_); rintro e w6 ⟨rfl, hb6⟩; have HB6 : Hk (Below w5.heap.size w5 w6) := ⟨((Below.refl _ _).alloc (Nat.le_refl _) (.cells (Z8 129) 5)).trans (hb6.mono (by simp))⟩; have HZ6 := Hk.mk (HZ5.out.below hb6); clear hb6 g0 g1 g2 t77 f77 tlt; obtain ⟨g0, g1, g2, t77, f77, tlt⟩ := (HZ6.out).facts; ) | (go_at_call 9; (with_reducible refine (mbytes_no 0 0 none 0 0 [] _ (By.nil _ _ _) (by omega) HE0).mono ?_); rintro e w7 ⟨rfl, hb7⟩; have HB7 : Hk (Below w5.heap.size w5 w7) := ⟨HB6.out.trans (hb7.mono HB6.out.size)⟩; have HZ7 := Hk.mk (HZ6.out.below hb7); have HZ8 := Hk.mk (HZ7.out.store 6 (by unfold Fn.Byt; omega)); clear hb7 g0 g1 g2 t77 f77 tlt; obtain ⟨g0, g1, g2, t77, f77, tlt⟩ := (HZ7.out).facts; obtain ⟨h0, h1, h2, -, -, -⟩ := HZ8.out.facts) | (go_at_call 9; (with_reducible refine (mbytes_no 128 128 (some ⟨w.heap.size, 0, none⟩) 16384 16384 ((T0.set 77 5).set 77 6) _ HZ8.out.own.byS (by omega) HE2).mono ?_); rintro e w8 ⟨rfl, hb8⟩; have HB8 := Hk.mk hb8; have HZ9 := Hk.mk (HZ8.out.below hb8); have HZ10 := Hk.mk (HZ9.out.store 0 (by unfold Fn.Byt; omega)); clear hb8 h0 h1 h2 g0 g1 g2 t77 f77 tlt; obtain ⟨g0, g1, g2, t77, f77, tlt⟩ := (HZ9.out).facts; obtain ⟨h0, h1, h2, -, -, -⟩ := HZ10.out.facts; have HF58 : Hk (Fr (fun j => j = w.heap.size) w5 (w8.setCell ⟨w.heap.size, 77, none⟩ (.int .u8 0))) := ⟨((((Fr.of_all (M := fun j => j = w.heap.size) HB7.out).setCell (p := ⟨w.heap.size, 77, none⟩) (fun _ => rfl) (.int .u8 6)).andThen (Fr.of_all (M := fun j => j = w.heap.size) HB8.out) (fun j hj h => h))).setCell (p := ⟨w.heap.size, 77, none⟩) (fun _ => rfl) _⟩; have HF38 : Hk (Fr (fun j => j = w.heap.size) (w3.alloc (.cells #[.int .i64 128, .int .i64 128, .slice a3 T0.length c3] 26)) (w8.setCell ⟨w.heap.size, 77, none⟩ (.int .u8 0))) := ⟨(((Fr.refl (fun j => j = w.heap.size) (w3.alloc (.cells #[.int .i64 128, .int .i64 128, .slice a3 T0.length c3] 26))).setCell (p := ⟨w.heap.size, 77, none⟩) (fun _ => rfl) (.int .u8 5)).andThen (Fr.of_all (M := fun j => j = w.heap.size) HB5.out) (fun j hj h => h)).andThen HF58.out (fun j hj h => h)⟩; have hw23 : w.heap.size + 2 ≤ w2.heap.size := (by have h1 := HB2.out.size; simp at h1; omega); obtain ⟨x0, x1, x2⟩ : (w8.setCell ⟨w.heap.size, 77, none⟩ (.int .u8 0)).cell? ⟨w3.heap.size, 0, none⟩ = some (.int .i64 128) ∧ (w8.setCell ⟨w.heap.size, 77, none⟩ (.int .u8 0)).cell? ⟨w3.heap.size, 1, none⟩ = some (.int .i64 128) ∧ (w8.setCell ⟨w.heap.size, 77, none⟩ (.int .u8 0)).cell? ⟨w3.heap.size, 2, none⟩ = some (.slice a3 T0.length c3) := ⟨(HF38.out.cell (o := 0) (by simp) (by have h1 := HS3.out; omega)).trans (by go_simp), (HF38.out.cell (o := 1) (by simp) (by have h1 := HS3.out; omega)).trans (by go_simp), (HF38.out.cell (o := 2) (by simp) (by have h1 := HS3.out; omega)).trans (by go_simp)⟩) | (go_at_call 11; (with_reducible refine (lawnum7_any _ _).mono ?_); rintro e w' ⟨rfl, rfl⟩) | (go_at_call 14; (with_reducible refine (eqg_yes 128 128 128 128 a3 (some ⟨w.heap.size, 0, none⟩) T0.length 16384 c3 16384 T0 (((T0.set 77 5).set 77 6).set 77 0) _ ?_ HZ10.out.own.byS ⟨⟨rfl, rfl, HSS.out⟩⟩ ?_).mono ?_); (exact ((By.frn (HO3.out.byS.below ((Below.refl _ _).alloc (Nat.le_refl _) (.cells #[.int .i64 128, .int .i64 128, .slice a3 T0.length c3] 26)) (Nat.le_refl _)) HF38.out (by simp) (fun hn b off e1 hb => (by obtain ⟨g9, e2, h9⟩ := ownB_some HO3.out hn; rw [e1] at e2; injection e2 with e2; injection e2 with e3 e4; omega))).mono (by have h1 := HF38.out.size; simp at h1 ⊢; omega))); (have := HTL.out; omega); rintro e w10 ⟨rfl, hb10⟩; have HB10 := Hk.mk hb10; have HZ11 := Hk.mk (HZ10.out.below hb10); clear hb10 g0 g1 g2 t77 f77 tlt h0 h1 h2; obtain ⟨g0, g1, g2, t77, f77, tlt⟩ := (HZ11.out).facts; ) | (go_at_call 12; (with_reducible refine (eqb_no a2 a5 16398 16398 c2 c5 zs0 zs1 _ ?_ ?_ (by omega) (by omega) HNE.out).mono ?_); (exact (((By.frn (HO2.out.byS.below HB3.out (Nat.le_refl _)) HF38.out (by have h1 := HS3.out; simp; omega) (fun hn b off e1 hb => (by obtain ⟨g9, e2, h9⟩ := ownB_some HO2.out hn; rw [e1] at e2; injection e2 with e2; injection e2 with e3 e4; simp at h9; omega))).below HB10.out (by have h1 := HF38.out.size; have h2 := HS3.out; simp at h1 ⊢; omega)).mono (by have h1 := HF38.out.size; have h2 := HS3.out; have h3 := HB10.out.size; simp at h1 h3 ⊢; omega))); (exact (((By.frn HO5.out.byS HF58.out (Nat.le_refl _) (fun hn b off e1 hb => (by obtain ⟨g9, e2, h9⟩ := ownB_some HO5.out hn; rw [e1] at e2; injection e2 with e2; injection e2 with e3 e4; have h1 := HS3.out; simp at h9; omega))).below HB10.out HF58.out.size).mono (Nat.le_trans HF58.out.size HB10.out.size))); rintro e w11 ⟨rfl, m11, rfl⟩) | (go_at_call 15; (with_reducible refine (wakes7_any _).mono ?_); rintro e w12 ⟨rfl, hb12⟩; have HB12 := Hk.mk hb12; clear hb12))
  go_ret
  have k1 : Below w.heap.size w (w3.alloc (.cells #[.int .i64 128, .int .i64 128, .slice a3 T0.length c3] 26)) := HW1.out.trans (HB13.out.mono (by simp; omega))
  have k2 : Below w.heap.size w (w8.setCell ⟨w.heap.size, 77, none⟩ (.int .u8 0)) := k1.trans (HF38.out.below k1.size (fun j hj h => by omega))
  have k3 := k2.trans (HB10.out.mono k2.size)
  exact ⟨rfl, (below_drewN k3 m11).trans (HB12.out.mono k3.size)⟩

theorem mapcodeSizes_own : ownKnob Try.prog.godebug = none := by kernel_rfl
theorem mapcodeSizes_laidOut : laidOutB Try.prog = true := by kernel_rfl
set_option maxRecDepth 100000 in
theorem mapcodeSizes_lifted (os : Os) (started : os.Started) (H : Type) (enc : TypeId × Value → H) :
    ReturnsInHanded {} Try.checked os 6 .any (Rows.mapcodeSizesSpec.pre6 enc Try.prog Try.f6 Rows.mapcodeSizesRow.domain false) (Rows.mapcodeSizesSpec.post enc Try.prog Try.f6 false true false false) := by
  refine returnsInHanded_of_change (C := Try.checked) mapcodeSizes_own started (by kernel_rfl) Try.func6
    (ChangeSpec.witness6 (enc := enc) (C := Try.checked) false ⟨#[], #[.slice none 0 0], []⟩ 8 (by kernel_rfl) (by kernel_rfl) (by kernel_rfl) (by kernel_rfl)) ?_
  intro W base args ds gs before hval0 hW hcnd _
  have hval : ∀ (j : Nat) t v, Try.f6.params[j]? = some t → args[j]? = some v → Value.okWide Try.prog W .any base t v := hval0
  have hW' := hW
  obtain ⟨p, q, hA0, hV, rfl, hfz, hnd⟩ := hW
  have hA : DataW.TrodAll enc Try.prog W 0 (fun _ => true) true Try.f6.params.toList args.toList ds p := hA0
  rw [Try.params6] at hA hval
  obtain ⟨v0, vs0, d0, ds0, p0, q0, hargs, rfl, rfl, h0, r0⟩ := trodAll_cons hA
  obtain ⟨rfl, rfl, rfl⟩ := trodAll_nil r0
  obtain rfl : args = #[v0] := by cases args; simp_all
  obtain ⟨rfl, rfl⟩ := trodVars_none hV
  obtain ⟨a0, len0, cap0, rfl⟩ := okWide_slice Try.underlying22 (hval 0 22 v0 rfl rfl)
  have k0 := h0
  have lt0 : ∀ x ∈ p0, x.block < W.heap.size := by obtain ⟨m, hm⟩ := k0; exact DataW.trod_lt m _ _ _ hm
  have rows : Asks7 W a0 len0 cap0 := by obtain ⟨fuel, hf⟩ := h0; exact asks7_of hf
  clear hA0 hval0
  refine (mapcodeSizes_walk a0 len0 cap0 W rows).mono fun e W' ⟨he, bel⟩ => ?_
  subst he
  exact ⟨_, rfl, _, _, _, [], _, [], hW', trodAll_mk1 (shut_bool Try.underlying4 _), (trodAll_cons_mk (Below.trod mapcodeSizes_laidOut (by kernel_rfl) (of_decide_eq_true (by kernel_rfl)) k0 bel lt0) trodAll_mk0), rfl, bel.frame _, fun h => by cases h⟩
theorem mapcodeSizes_over : Rows.mapcodeSizesRow.holds Try.pinned (OpenSpec.ofChange Rows.mapcodeSizesSpec) :=
  OpenClaim.holds_of_wide 6 Try.f6 rfl rfl rfl rfl rfl rfl rfl ⟨rfl, rfl, rfl, rfl, rfl⟩ rfl rfl rfl rfl rfl (by kernel_rfl) Try.func6 (by kernel_rfl)
    (of_decide_eq_true (by kernel_rfl)) (by unfold Func.isWrapper; first | (rw [if_pos (by decide +kernel)]; kernel_rfl) | (rw [if_neg (by decide +kernel)]; exact ⟨rfl, rfl⟩))
    (fun os started H enc _ => mapcodeSizes_lifted os started H enc)
/-- The given statement of MapcodeSizes. -/
theorem mapcodeSizes_holds : Rows.MapcodeSizesSaid := mapcodeSizes_over
end Go.Proofs.Ytmkehmeoglpkeaa
