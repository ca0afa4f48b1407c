import Derived.Deep.QuietTactic
import Derived.BigQuiet
import Derived.Deep.RegionWith
import Derived.Deep.RegionHeld3
import Derived.Deep.DeepCutAuto
import Derived.Deep.DeepFit
import Derived.Outline
import Derived.Test.YtcgilmjhbdehpaaZbo
import Derived.Test.YtcgilmjhbdehpaaZbk
import Derived.Test.YtcgilmjhbdehpaaZbe
/- The reference of layer 10: the tiles beside one. -/
namespace Go.Proofs.Ytcgilmjhbdehpaa
open Go.ChangeShapes Go.WideShapes Go.ChangeAt Go.RowKit Go.Deep
set_option linter.unusedVariables false
set_option linter.unusedSimpArgs false
def rbes1 (W t y : Int) : List Int := if (0 < y) then [t - W] else []
def rbes2 (W t x y : Int) : List Int := rbes1 W t y ++ (if (x < W - 1) then [t + 1] else [])
def rbes3 (W H t x y : Int) : List Int := rbes2 W t x y ++ (if (y < H - 1) then [t + W] else [])
def rbes4 (W H t x y : Int) : List Int := rbes3 W H t x y ++ (if (0 < x) then [t - 1] else [])
theorem rbes1_len (W t y : Int) : (rbes1 W t y).length ≤ 1 := by unfold rbes1; split <;> simp
theorem rbes2_len (W t x y : Int) : (rbes2 W t x y).length ≤ 2 := by
  have := rbes1_len W t y
  unfold rbes2; rw [List.length_append]; split <;> simp <;> omega
theorem rbes3_len (W H t x y : Int) : (rbes3 W H t x y).length ≤ 3 := by
  have := rbes2_len W t x y
  unfold rbes3; rw [List.length_append]; split <;> simp <;> omega
theorem rbes4_len (W H t x y : Int) : (rbes4 W H t x y).length ≤ 4 := by
  have := rbes3_len W H t x y
  unfold rbes4; rw [List.length_append]; split <;> simp <;> omega
end Go.Proofs.Ytcgilmjhbdehpaa
/- Package sector: filling, on any map. -/
namespace Go.Proofs.Ytcgilmjhbdehpaa
open Go.ChangeShapes Go.WideShapes Go.ChangeAt Go.RowKit Go.Deep
set_option linter.unusedVariables false
set_option linter.unusedSimpArgs false
def besN (W H : Int) (t : Nat) : List Nat := (bes4 W H t ((t : Int) % W) ((t : Int) / W)).map Int.toNat
theorem besN_mem {W H : Int} {n t v : Nat} (hW : 1 ≤ W) (hn : (n : Int) = W * H) (ht : t < n) : v ∈ besN W H t ↔ v < n ∧ secS W t v ∧ adjS W t v := by
  unfold besN
  rw [List.mem_map]
  constructor
  · rintro ⟨u, hu, rfl⟩
    obtain ⟨b, rfl, h⟩ := (bes_mem hW hn ht).1 hu
    simpa using h
  · intro h
    exact ⟨(v : Int), (bes_mem hW hn ht).2 ⟨v, rfl, h⟩, by simp⟩
theorem besN_vals {W H : Int} {n t : Nat} (hW : 1 ≤ W) (hn : (n : Int) = W * H) (ht : t < n) : intsV (bes4 W H t ((t : Int) % W) ((t : Int) / W)) = natsL (besN W H t) := by
  unfold intsV natsL besN
  rw [List.map_map]
  refine List.map_congr_left fun u hu => ?_
  obtain ⟨b, rfl, _⟩ := (bes_mem hW hn ht).1 hu
  simp
theorem besN_len (W H : Int) (t : Nat) : (bes4 W H t ((t : Int) % W) ((t : Int) / W)).length = (besN W H t).length := by unfold besN; rw [List.length_map]
/-- What the cells of a block say. -/
def cellW (w : World) (J k : Nat) : Int := match w.cell? ⟨J, k, none⟩ with
  | some (.int _ v) => v
  | _ => 0
def lenW : Value → Nat
  | .slice _ n _ => n
  | _ => 0
theorem cellW_arr {w : World} {J n jc : Nat} {P : Nat → Int} (h : Arp w J n jc P) {k : Nat} (hk : k < n) : cellW w J k = P k := by
  unfold cellW
  rw [h.cell hk]
theorem negP_congr {P Q : Nat → Int} : ∀ {n}, (∀ k, k < n → P k = Q k) → negP P n = negP Q n
  | 0, _ => rfl
  | n + 1, h => by
    show negP P n + _ = negP Q n + _
    rw [negP_congr (n := n) (fun k hk => h k (by omega)), h n (by omega)]
theorem negW {w : World} {J n jc : Nat} {P : Nat → Int} (h : Arp w J n jc P) : negP (cellW w J) n = negP P n := negP_congr fun k hk => cellW_arr h hk
theorem own_cut20 {w : World} {S g c u : Nat} {L : List Nat} (h : w.ownsRow S 3 1 (.slice (some ⟨g, 0, none⟩) (L ++ [u]).length c) (L ++ [u]).length (natsL (L ++ [u]))) : w.ownsRow S 3 1 (.slice (some ⟨g, 0, none⟩) L.length c) L.length (natsL L) := by
  refine ⟨by simp [natsL], ?_⟩
  rcases h.2 with ⟨e, h0⟩ | ⟨g', cap, cur, e', hg, hh, hc, hm2, hs, ht⟩
  · cases e
  · injection e' with e1 e2 e3
    injection e1 with e1
    injection e1 with e1
    subst e1 e3
    simp at hc hs ht
    refine Or.inr ⟨g, c, cur, rfl, hg, hh, by omega, hm2, by omega, ?_⟩
    have h1 : (natsL (L ++ [u])).take L.length = natsL L := by simp [natsL]
    rw [← h1, ← ht, List.take_take]
    simp
set_option maxRecDepth 1000000 in
set_option maxHeartbeats 6400000 in
theorem fill_in (W H : Int) (fb fo n fc J jc s : Nat) (fr : Nat → Bool) (P0 : Nat → Int) (w : World) (w1 : 1 ≤ W) (w2 : W ≤ 128) (h1 : 1 ≤ H) (h2 : H ≤ 128) (hn : (n : Int) = W * H) (hs : s < n) (hF : ∀ k, k < n → w.cell? ⟨fb, fo + k, none⟩ = some (.bool (fr k))) (hfl : fb < w.heap.size) (hfJ : fb ≠ J) (hJ : Arp w J n jc (P0)) (hns : ∀ t, t < n → Rch (nbN W n fr) s t → P0 t ≠ (s : Int)) (hfs : fr s = true) (hps : P0 s < 0) :
    Calls Try.prog 36 #[.int .i64 W, .int .i64 H, .slice (some ⟨fb, fo, none⟩) n fc, .slice (some ⟨J, 0, none⟩) n jc, .int .i64 s] w fun e w' => e = .returned (.tuple #[]) ∧ ∃ P, Arp w' J n jc (P) ∧ Fil n (nbN W n fr) s P0 P (fun _ => False) ∧ Fr (fun q => q = J) w w' := by
  obtain ⟨ii, hii, hiz0, hiz1, hiz2⟩ := info_parts info_int
  have n16 : n ≤ 16384 := by have := mul_bd w1 w2 h1 h2; omega
  have HFF := Hk.mk hF
  have c0 := hF s hs
  rw [hfs] at c0
  have c1 := hJ.cell hs
  have f1 := hJ.frozen s
  have hJl := hJ.lt
  have s0 : (0 : Int) ≤ (s : Int) := by omega
  have s1 : (s : Int) < (n : Int) := by omega
  have HJS : Hk (Arp (w.setCell ⟨J, s, none⟩ (.int .i64 s)) J n jc (updP P0 s s)) := ⟨hJ.put hs _⟩
  have d0 : decide (0 ≤ P0 s) = false := by simp; omega
  have HFL : Hk (FilL n (nbN W n fr) s P0 (updP P0 s s) [s]) := ⟨FilL.start hps hns hs⟩
  have HX0 : Hk (Fr (fun q => q = J) w (w.setCell ⟨J, s, none⟩ (.int .i64 s))) := ⟨Fr.setCell (M := fun q => q = J) (Fr.refl _ w) (p := ⟨J, s, none⟩) (fun _ => rfl) _⟩
  clear hJ hF
  go_enter Try.func36, Try.ntmps36
  go_wp2_with fail
  obtain ⟨W1, hW1⟩ : ∃ W1 : World, (w.setCell ⟨J, s, none⟩ (.int .i64 s)).alloc (.cells #[.int .i64 s] 3) = W1 := ⟨_, rfl⟩
  have HO : Hk (World.ownsRow W1 w.heap.size 3 1 (.slice (some ⟨w.heap.size, 0, none⟩) ([s]).length 1) ([s]).length (natsL ([s]))) := ⟨by
    rw [← hW1]
    have := World.ownsRow_lit (base := w.heap.size) (e := 3) (size := 1) (w.setCell ⟨J, s, none⟩ (.int .i64 s)) #[.int .i64 s] 1 (by simp) (by unfold maxLen; omega) rfl
    simpa [natsL] using this⟩
  have HJ : Hk (Arp W1 J n jc (updP P0 s s)) := ⟨by rw [← hW1]; exact HJS.out.alloc _⟩
  have HX : Hk (Fr (fun q => q = J) w W1) := ⟨by rw [← hW1]; exact HX0.out.alloc _⟩
  have HSZ : Hk (w.heap.size ≤ W1.heap.size) := ⟨HX.out.size⟩
  rw [hW1]
  clear hW1 HJS HX0 c0 c1 f1 d0
  go_loopw [10] (fun o wr => ∃ (L : List Nat) (P : Nat → Int) (g c : Nat), o = .slice (some ⟨g, 0, none⟩) L.length c ∧ Hk (World.ownsRow wr w.heap.size 3 1 (.slice (some ⟨g, 0, none⟩) (L).length c) (L).length (natsL (L))) ∧ Hk (Arp wr J n jc (P)) ∧ Hk (FilL n (nbN W n fr) s P0 P L) ∧ Hk (L.length + negP P n ≤ n) ∧ Hk (Fr (fun q => q = J) w wr) ∧ Hk (w.heap.size ≤ wr.heap.size)) (fun o wr => 2 * negP (cellW wr J) n + lenW o)
  case atStart => exact ⟨[s], _, w.heap.size, 1, rfl, HO, HJ, HFL, ⟨by have := negP_put (P := P0) (x := (s : Int)) (by omega) hps hs; have := negP_le P0 n; simp; omega⟩, HX, HSZ⟩
  case round =>
    clear HO HJ HFL HX HSZ
    obtain ⟨L, P, g, c, rfl, HO, HJ, HFL, HNG, HX, HSZ⟩ := hrel
    rcases List.eq_nil_or_concat L with rfl | ⟨L', u, rfl⟩
    · as_aux_lemma =>
        go_wp2_with fail
        go_end0
        exact ⟨rfl, P, HJ.out, HFL.out.end_, HX.out⟩
    · rw [List.concat_eq_append] at *
      obtain ⟨hun, hru⟩ := HFL.out.wl u (by simp)
      have HOC := Hk.mk (own_cut20 HO.out)
      have cu : wr.cell? ⟨g, L'.length, none⟩ = some (.int .i64 (u : Nat)) := by
        rw [HO.out.cellAt L'.length (by simp)]
        simp [natsL]
      have HJ0 := Hk.mk (And.intro (FilL.pop (M := besN W H) (fr := fr) HFL.out) (negW HJ.out))
      have hng := HNG.out
      rw [List.length_append] at hng
      have hLn : L'.length + 1 ≤ n := by simp at hng; omega
      have hcc : (L'.length : Int) ≤ (c : Int) := by
        rcases HOC.out.2 with ⟨e, _⟩ | ⟨g', cap, cur, e, _, _, hc, _⟩
        · cases e
        · injection e with _ _ e3
          omega
      have u0 : (0 : Int) ≤ (u : Int) := by omega
      have u1 : (u : Int) < W * H := by omega
      have l1 : (0 : Int) < (L'.length : Int) + 1 := by omega
      have l2 : (0 : Int) ≤ (L'.length : Int) := by omega
      have l3 : (L'.length : Int) < (L'.length : Int) + 1 := by omega
      have wl : IntKind.i64.wrap (L'.length : Int) = (L'.length : Int) := by rw [IntKind.wrap_i64]; omega
      obtain ⟨M0, hM0⟩ : ∃ M0, 2 * negP P n + (L'.length + 1) = M0 := ⟨_, rfl⟩
      have HM0 : Hk (2 * negP (cellW wr J) n + lenW (.slice (some ⟨g, 0, none⟩) (L' ++ [u]).length c) = M0) := ⟨by rw [HJ0.out.2]; simp [lenW]; omega⟩
      have HFJ := Hk.mk HJ0.out.1
      clear HJ0 HNG HO HFL
      as_aux_lemma =>
        go_wp2_with (go_at_call 51; (with_reducible refine (sbeside_any W H u _ w1 w2 h1 h2 (by omega) (by omega)).mono ?_); rintro e z ⟨rv, rfl, hro, hb⟩; rw [besN_vals w1 hn hun, besN_len] at hro; obtain ⟨aR, cR, rfl, hra⟩ := own_form20 hro; have HRA := Hk.mk hra; have HS := Hk.mk (Sq.of HOC.out hb HSZ.out hro); have HJ2 := Hk.mk (HJ.out.later hb); have HX2 := Hk.mk (HX.out.trans (Fr.of_all hb)); have HSZ2 := Hk.mk (Nat.le_trans HSZ.out hb.size); clear hra hro hb)
        have HS := HS
        have HJ2 := HJ2
        have HX2 := HX2
        have HSZ2 := HSZ2
        have HRA := HRA
        obtain ⟨R, hR⟩ : ∃ R, besN W H u = R := ⟨_, rfl⟩
        rw [hR] at HS HRA ⊢
        have HRE := Hk.mk hR
        clear hR HJ HX HSZ HOC
        obtain ⟨wo, rfl⟩ : ∃ wo : World, wo = z := ⟨z, rfl⟩
        go_loopw [10, 51] (fun o jj wr => ∃ (j : Nat) (L2 : List Nat) (P2 : Nat → Int) (g2 c2 : Nat), jj = .int .i64 j ∧ o = .slice (some ⟨g2, 0, none⟩) L2.length c2 ∧ j ≤ R.length ∧ Hk (Sq wr w.heap.size (.slice (some ⟨g2, 0, none⟩) L2.length c2) (.slice aR R.length cR) L2 R) ∧ Hk (Arp wr J n jc (P2)) ∧ Hk (FilJ n (nbN W n fr) (besN W H) fr s P0 P2 L2 u j) ∧ Hk (2 * negP P2 n + L2.length < M0 ∧ L2.length + negP P2 n ≤ n) ∧ Hk (Fr (fun q => q = J) w wr) ∧ Hk (w.heap.size ≤ wr.heap.size)) (fun _ jj _ => R.length - (intOf jj).toNat)
        case atStart => exact ⟨0, L', P, g, c, rfl, rfl, by omega, HS, HJ2, HFJ, ⟨by omega, by simp at hng; omega⟩, HX2, HSZ2⟩
        case round =>
          clear HS HJ2 HX2 HSZ2 HFJ
          obtain ⟨j, L2, P2, g2, c2, rfl, rfl, hjR, HS, HJ, HFJ, HNG, HX, HSZ⟩ := hrel
          by_cases hjl : j < R.length
          · obtain ⟨gR, rfl⟩ := HRA.out (by omega)
            have cj := own_at20 HS.out.rr hjl
            obtain ⟨v, hv⟩ : ∃ v, R[j] = v := ⟨_, rfl⟩
            have hvm : v ∈ besN W H u := by rw [HRE.out, ← hv]; exact List.getElem_mem hjl
            have hvb := (besN_mem w1 hn hun).1 hvm
            rw [hv] at cj
            have j0 : (0 : Int) ≤ (j : Int) := by omega
            have j1 : (j : Int) < (R.length : Int) := by omega
            have hvn := hvb.1
            have v0 : (0 : Int) ≤ (v : Int) := by omega
            have v1 : (v : Int) < (n : Int) := by omega
            have hcF : wr.cell? ⟨fb, fo + v, none⟩ = some (.bool (fr v)) := by rw [HX.out.cell hfl hfJ]; exact HFF.out v hvn
            have hcP := HJ.out.cell hvn
            have hfP := HJ.out.frozen v
            have hRl : R.length ≤ 4 := by rw [← HRE.out, ← besN_len]; unfold bes4; have := bes3_len W H (u : Int) ((u : Int) % W) ((u : Int) / W); rw [List.length_append]; split <;> simp <;> omega
            have hjb : j < (besN W H u).length := by rw [HRE.out]; exact hjl
            have hgb : (besN W H u)[j]'hjb = v := by simp only [HRE.out]; exact hv
            have hng2 := HNG.out
            have hL2 : L2.length ≤ n := by omega
            by_cases hfv : fr v = true
            · rw [hfv] at hcF
              by_cases hpv : P2 v < 0
              · have d1 : decide (0 ≤ P2 v) = false := by simp; omega
                have d2 : decide (P2 v < 0) = true := by simpa using hpv
                have HS3 : Hk (Sq (wr.setCell ⟨J, v, none⟩ (.int .i64 s)) w.heap.size (.slice (some ⟨g2, 0, none⟩) L2.length c2) (.slice (some ⟨gR, 0, none⟩) R.length cR) L2 R) := ⟨⟨ownsRow_setCell_below HS.out.rf (a := ⟨J, v, none⟩) hJl _, ownsRow_setCell_below HS.out.rr (a := ⟨J, v, none⟩) hJl _, HS.out.ap⟩⟩
                have HJ3 : Hk (Arp (wr.setCell ⟨J, v, none⟩ (.int .i64 s)) J n jc (updP P2 v s)) := ⟨HJ.out.put hvn _⟩
                have HX3 : Hk (Fr (fun q => q = J) w (wr.setCell ⟨J, v, none⟩ (.int .i64 s))) := ⟨Fr.setCell (M := fun q => q = J) HX.out (p := ⟨J, v, none⟩) (fun _ => rfl) _⟩
                have hput := HFJ.out.put hjb (by rw [hgb]; exact hvn) (by rw [hgb]; exact ⟨⟨hun, hvn⟩, ⟨Rch.free nbN_free hru hfs, hfv⟩, hvb.2⟩) (by rw [hgb]; exact hpv)
                rw [hgb] at hput
                have HPU := Hk.mk hput
                have hneg := negP_put (P := P2) (x := (s : Int)) (by omega) hpv hvn
                have HNE := Hk.mk hneg
                clear hput hneg HS HJ HX hfv hgb
                as_aux_lemma =>
                  go_wp2_with (at_builtin; go_must (refine wpList_append_own_at _ rfl _ _ 23 rfl w.heap.size 3 ii (.int .i64 0) 1 8 Try.underlying23 hii hiz0 hiz1 hiz2 rfl (by decide) _ _ _ rfl (HS3.out.rf.alloc _) ⟨wr.heap.size, 0, none⟩ 1 1 [.int .i64 (v : Nat)] rfl rfl (by have := one_new (wr.setCell ⟨J, v, none⟩ (.int .i64 s)) (.int .i64 (v : Nat)) 3; simpa using this) (one_it _) (by unfold maxLen; omega) (by omega) (by have := HSZ.out; simp; omega) ?_; intro v8 z8 hown hgrow hnil hat; have HS8 := Hk.mk ((HS3.out.later ((Below.refl _ _).alloc (Nat.le_refl _) (.cells #[.int .i64 v] 3))).put (t := v) hown hgrow hat); have HG8 := Hk.mk hgrow; have HJ8 := Hk.mk ((HJ3.out.alloc (.cells #[.int .i64 v] 3)).of_block (hgrow.block J (by have h0 := HSZ.out; have h1 := hJl; simp; omega) (fun e => by have := (HS3.out.rf.lt J e.symm).1; omega))); have HX8 := Hk.mk ((HX3.out.alloc (.cells #[.int .i64 v] 3)).grown hgrow (fun q hq e => by have := (HS3.out.rf.lt q e).1; omega)); clear hown hgrow hnil hat))
                  obtain ⟨a8, c8, e8, h8⟩ := own_form20 HS8.out.rf
                  obtain ⟨g8, rfl⟩ := h8 (by simp)
                  subst e8
                  exact ⟨⟨j + 1, L2 ++ [v], updP P2 v s, g8, c8, by go_num, rfl, by omega, HS8, HJ8, HPU, ⟨by have := HNE.out; simp only [List.length_append, List.length_singleton]; omega⟩, HX8, ⟨HX8.out.size⟩⟩, by simp [intOf]; omega⟩
              · have d1 : decide (0 ≤ P2 v) = true := by simp; omega
                have d2 : decide (P2 v < 0) = false := by simpa using hpv
                have HPU := Hk.mk (FilJ.skip HFJ.out fun hj => Or.inr (by rw [hgb]; omega))
                clear hfv hgb hpv
                as_aux_lemma =>
                  go_wp2_with fail
                  exact ⟨⟨j + 1, L2, P2, g2, c2, by go_num, rfl, by omega, HS, HJ, HPU, HNG, HX, HSZ⟩, by simp [intOf]; omega⟩
            · have hfv2 : fr v = false := by simpa using hfv
              rw [hfv2] at hcF
              have HPU := Hk.mk (FilJ.skip HFJ.out fun hj => Or.inl (by rw [hgb]; exact hfv2))
              clear hfv hfv2 hgb
              as_aux_lemma =>
                go_wp2_with fail
                exact ⟨⟨j + 1, L2, P2, g2, c2, by go_num, rfl, by omega, HS, HJ, HPU, HNG, HX, HSZ⟩, by simp [intOf]; omega⟩
          · obtain rfl : j = R.length := by omega
            have hdone := FilJ.done (j := R.length) HFJ.out (by rw [HRE.out]; exact Nat.le_refl _) (fun v hv => ⟨(besN_mem w1 hn hun).2 ⟨hv.1.2, hv.2.2.1, hv.2.2.2⟩, hv.2.1.2⟩)
            have HDN := Hk.mk hdone
            clear hdone hjl
            as_aux_lemma =>
              go_wp2_with fail
              exact ⟨⟨L2, P2, g2, c2, rfl, ⟨HS.out.rf⟩, HJ, HDN, ⟨HNG.out.2⟩, HX, HSZ⟩, by have h1 := negW HJ.out; have h2 := HM0.out; have h3 := HNG.out.1; simp only [lenW] at h2 ⊢; rw [h1]; omega⟩
end Go.Proofs.Ytcgilmjhbdehpaa
/- Package sector: fill and Parts, on any map. -/
namespace Go.Proofs.Ytcgilmjhbdehpaa
open Go.ChangeShapes Go.WideShapes Go.ChangeAt Go.RowKit Go.Deep
set_option linter.unusedVariables false
set_option linter.unusedSimpArgs false
set_option maxRecDepth 1000000 in
set_option maxHeartbeats 6400000 in
theorem fill_no (W H : Int) (fb fo n fc J jc s : Nat) (fr : Nat → Bool) (P0 : Nat → Int) (w : World) (hs : s < n) (hF : w.cell? ⟨fb, fo + s, none⟩ = some (.bool (fr s))) (hJ : Arp w J n jc (P0)) (hk : fr s = false ∨ 0 ≤ P0 s) :
    Calls Try.prog 36 #[.int .i64 W, .int .i64 H, .slice (some ⟨fb, fo, none⟩) n fc, .slice (some ⟨J, 0, none⟩) n jc, .int .i64 s] w fun e w' => e = .returned (.tuple #[]) ∧ w' = w := by
  have c0 := hF
  have c1 := hJ.cell hs
  have s0 : (0 : Int) ≤ (s : Int) := by omega
  have s1 : (s : Int) < (n : Int) := by omega
  by_cases hf : fr s = true
  · have hp : 0 ≤ P0 s := by
      rcases hk with e | e
      · rw [hf] at e; cases e
      · exact e
    rw [hf] at c0
    have d0 : decide (0 ≤ P0 s) = true := by simp; omega
    clear hf hk hJ hF
    go_enter Try.func36, Try.ntmps36
    go_wp2_with fail
    refine bodyPost_ret (results_none rfl _ _ _) rfl ?_
    exact ⟨rfl, rfl⟩
  · have hf : fr s = false := by simpa using hf
    rw [hf] at c0
    clear hk hJ hF
    go_enter Try.func36, Try.ntmps36
    go_wp2_with fail
    refine bodyPost_ret (results_none rfl _ _ _) rfl ?_
    exact ⟨rfl, rfl⟩
theorem fill_any (W H : Int) (fb fo n fc J jc s : Nat) (fr : Nat → Bool) (P0 : Nat → Int) (w : World) (w1 : 1 ≤ W) (w2 : W ≤ 128) (h1 : 1 ≤ H) (h2 : H ≤ 128) (hn : (n : Int) = W * H) (hs : s < n) (hF : ∀ k, k < n → w.cell? ⟨fb, fo + k, none⟩ = some (.bool (fr k))) (hfl : fb < w.heap.size) (hfJ : fb ≠ J) (hJ : Arp w J n jc (P0)) (hU : Upto n (nbN W n fr) fr s P0) :
    Calls Try.prog 36 #[.int .i64 W, .int .i64 H, .slice (some ⟨fb, fo, none⟩) n fc, .slice (some ⟨J, 0, none⟩) n jc, .int .i64 s] w fun e w' => e = .returned (.tuple #[]) ∧ ∃ P, Arp w' J n jc (P) ∧ Upto n (nbN W n fr) fr (s + 1) P ∧ Fr (fun q => q = J) w w' := by
  by_cases hk : fr s = false ∨ 0 ≤ P0 s
  · refine (fill_no W H fb fo n fc J jc s fr P0 w hs (hF s hs) hJ hk).mono ?_
    rintro e z ⟨rfl, rfl⟩
    exact ⟨rfl, P0, hJ, hU.skip nbN_symm nbN_free hs hk, Fr.refl _ _⟩
  · have hfs : fr s = true := by
      cases e : fr s
      · exact absurd (Or.inl e) hk
      · rfl
    have hps : P0 s < 0 := by
      apply Int.not_le.1
      exact fun e => hk (Or.inr e)
    have hns : ∀ t, t < n → Rch (nbN W n fr) s t → P0 t ≠ (s : Int) := by
      intro t ht _ e
      by_cases ef : fr t = true
      · rcases hU.yes t ht ef with ⟨m, hm, e1, _⟩ | ⟨e1, _⟩ <;> omega
      · have := hU.no t ht (by simpa using ef)
        omega
    refine (fill_in W H fb fo n fc J jc s fr P0 w w1 w2 h1 h2 hn hs hF hfl hfJ hJ hns hfs hps).mono ?_
    rintro e z ⟨rfl, P, hP, hfil, hfr⟩
    exact ⟨rfl, P, hP, hU.fill nbN_symm nbN_lt nbN_free hs hfs hps hfil (fun _ h => h), hfr⟩
end Go.Proofs.Ytcgilmjhbdehpaa
/- Package sector: Parts, on any map. -/
namespace Go.Proofs.Ytcgilmjhbdehpaa
open Go.ChangeShapes Go.WideShapes Go.ChangeAt Go.RowKit Go.Deep
set_option linter.unusedVariables false
set_option linter.unusedSimpArgs false
set_option maxRecDepth 1000000 in
set_option maxHeartbeats 6400000 in
theorem sized_yes (W H : Int) (w : World) (w1 : 1 ≤ W) (w2 : W ≤ 128) (h1 : 1 ≤ H) (h2 : H ≤ 128) :
    Calls Try.prog 35 #[.int .i64 W, .int .i64 H] w fun e w' => e = .returned (.bool true) ∧ w' = w := by
  go_enter Try.func35, Try.ntmps35
  go_wp2_with fail
  go_ret
  exact ⟨rfl, rfl⟩
set_option maxRecDepth 1000000 in
set_option maxHeartbeats 6400000 in
theorem sparts_any (W H : Int) (fb fo n fc : Nat) (fr : Nat → Bool) (w : World) (w1 : 1 ≤ W) (w2 : W ≤ 128) (h1 : 1 ≤ H) (h2 : H ≤ 128) (hn : (n : Int) = W * H) (hF : ∀ k, k < n → w.cell? ⟨fb, fo + k, none⟩ = some (.bool (fr k))) (hfl : fb < w.heap.size) :
    Calls Try.prog 19 #[.int .i64 W, .int .i64 H, .slice (some ⟨fb, fo, none⟩) n fc] w fun e w' => ∃ J P, e = .returned (.tuple #[.slice (some ⟨J, 0, none⟩) n n, .int .i64 0]) ∧ w.heap.size ≤ J ∧ Arr w' J n 3 (fun k => .int .i64 (P k)) ∧ IsPart n (nbN W n fr) fr P ∧ Below w.heap.size w w' := by
  obtain ⟨ii, hii, hiz0, hiz1, hiz2⟩ := info_parts info_int
  have n16 : n ≤ 16384 := by have := mul_bd w1 w2 h1 h2; omega
  have HFF := Hk.mk hF
  have e1 : IntKind.i64.wrap (W * H) = (n : Int) := by rw [← hn, IntKind.wrap_i64]; omega
  have n0 : (0 : Int) ≤ (n : Int) := by omega
  clear hF
  go_enter Try.func19, Try.ntmps19
  go_wp2_with (first | (go_at_call 35; (with_reducible refine (sized_yes W H _ w1 w2 h1 h2).mono ?_); rintro e z ⟨rfl, hz⟩; rw [hz]; clear hz z) | (at_make; go_must (refine wpList_make_full _ rfl _ _ 23 rfl w.heap.size 3 ii (.int .i64 0) 1 Try.underlying23 hii hiz0 hiz1 .i64 .i64 _ _ n rfl rfl hn.symm hn.symm (by rw [hiz2]; omega) (by unfold maxLen; omega) (Nat.le_refl _) ?_; intro z1 hown hgrow; have HJ := Hk.mk (Arr.made hown rfl (z := .int .i64 0)); have HB := Hk.mk (below_grown hgrow); clear hown hgrow)))
  rw [← hn]
  have HN := Hk.mk hn
  clear hn e1
  obtain ⟨wo, rfl⟩ : ∃ wo : World, wo = z1 := ⟨z1, rfl⟩
  go_loopw [29] (fun jj wr => ∃ t : Nat, jj = .int .i64 t ∧ t ≤ n ∧ Hk (Arr wr w.heap.size n 3 (fun k => .int .i64 (if k < t then -1 else 0))) ∧ Hk (Below w.heap.size w wr)) (fun jj _ => n - (intOf jj).toNat)
  case atStart => exact ⟨0, rfl, by omega, ⟨HJ.out.congr fun k hk => by rw [if_neg (by omega)]⟩, HB⟩
  case round =>
    clear HJ HB
    obtain ⟨t, rfl, ht, HJ, HB⟩ := hrel
    by_cases htn : t < n
    · have t0 : (0 : Int) ≤ (t : Int) := by omega
      have t1 : (t : Int) < (n : Int) := by omega
      have cj := HJ.out.cell htn
      have fj := HJ.out.frozen t
      have HJ2 : Hk (Arr (wr.setCell ⟨w.heap.size, t, none⟩ (.int .i64 (-1))) w.heap.size n 3 (fun k => .int .i64 (if k < t + 1 then -1 else 0))) := ⟨(HJ.out.set htn _).congr fun k hk => by
        by_cases e : k = t
        · rw [if_pos e, if_pos (by omega)]
        · rw [if_neg e]
          by_cases e2 : k < t
          · rw [if_pos e2, if_pos (by omega)]
          · rw [if_neg e2, if_neg (by omega)]⟩
      have HB2 : Hk (Below w.heap.size w (wr.setCell ⟨w.heap.size, t, none⟩ (.int .i64 (-1)))) := ⟨HB.out.setCell (Nat.le_refl _) _⟩
      clear HJ HB
      as_aux_lemma =>
        go_wp2_with fail
        exact ⟨⟨t + 1, by go_num, by omega, HJ2, HB2⟩, by simp [intOf]; omega⟩
    · obtain rfl : n = t := by omega
      clear htn
      go_wp2_with fail
      (try rw [← HN.out])
      obtain ⟨wq, rfl⟩ : ∃ wq : World, wq = wr := ⟨wr, rfl⟩
      go_loopw [38] (fun jj wr => ∃ (t : Nat) (P : Nat → Int), jj = .int .i64 t ∧ t ≤ n ∧ Hk (Arr wr w.heap.size n 3 (fun k => .int .i64 (P k))) ∧ Hk (Upto n (nbN W n fr) fr t P) ∧ Hk (Below w.heap.size w wr)) (fun jj _ => n - (intOf jj).toNat)
      case atStart => exact ⟨0, fun _ => -1, rfl, by omega, ⟨HJ.out.congr fun k hk => by rw [if_pos hk]⟩, ⟨Upto.start fun t ht => rfl⟩, HB⟩
      case round =>
        clear HJ HB
        obtain ⟨t, P, rfl, ht2, HJ, HU, HB⟩ := hrel
        by_cases htn : t < n
        · have t0 : (0 : Int) ≤ (t : Int) := by omega
          have t1 : (t : Int) < (n : Int) := by omega
          as_aux_lemma =>
            go_wp2_with (go_at_call 36; (with_reducible refine (fill_any W H fb fo n fc w.heap.size n t fr P _ w1 w2 h1 h2 HN.out htn (fun k hk => by rw [HB.out.cell (p := ⟨fb, fo + k, none⟩) hfl]; exact HFF.out k hk) (Nat.lt_of_lt_of_le hfl HB.out.size) (Nat.ne_of_lt hfl) (Arp.of_arr HJ.out) HU.out).mono ?_); rintro e z ⟨rfl, P2, hP, hU2, hfr⟩; have HJ2 := Hk.mk hP.arr; have HU2 := Hk.mk hU2; have HB2 := Hk.mk (HB.out.trans (hfr.below HB.out.size (fun j _ hm => Nat.le_of_eq hm.symm))); clear hP hU2 hfr)
            exact ⟨⟨t + 1, P2, by go_num, by omega, HJ2, HU2, HB2⟩, by simp [intOf]; omega⟩
        · obtain rfl : n = t := by omega
          clear htn
          as_aux_lemma =>
            go_wp2_with fail
            go_ret2
            exact ⟨w.heap.size, P, rfl, Nat.le_refl _, HJ.out, HU.out.all nbN_symm, HB.out⟩
end Go.Proofs.Ytcgilmjhbdehpaa
/- The reference of layer 10: plain words of spreading; sectors of tiles, by calls that only read. -/
namespace Go.Proofs.Ytcgilmjhbdehpaa
open Go.ChangeShapes Go.WideShapes Go.ChangeAt Go.RowKit Go.Deep
set_option linter.unusedVariables false
set_option linter.unusedSimpArgs false
theorem rbes4_iff {W H t x y u : Int} : u ∈ rbes4 W H t x y ↔ (0 < y ∧ u = t - W) ∨ (x < W - 1 ∧ u = t + 1) ∨ (y < H - 1 ∧ u = t + W) ∨ (0 < x ∧ u = t - 1) := by
  unfold rbes4 rbes3 rbes2 rbes1
  simp only [List.mem_append, mem_if]
  constructor
  · rintro (((h | h) | h) | h)
    · exact Or.inl h
    · exact Or.inr (Or.inl h)
    · exact Or.inr (Or.inr (Or.inl h))
    · exact Or.inr (Or.inr (Or.inr h))
  · rintro (h | h | h | h)
    · exact Or.inl (Or.inl (Or.inl h))
    · exact Or.inl (Or.inl (Or.inr h))
    · exact Or.inl (Or.inr h)
    · exact Or.inr h
theorem rbes_mem {W H : Int} {n t : Nat} (hW : 1 ≤ W) (hn : (n : Int) = W * H) (ht : t < n) {u : Int} : u ∈ rbes4 W H t ((t : Int) % W) ((t : Int) / W) ↔ ∃ b : Nat, u = (b : Int) ∧ b < n ∧ adjS W t b := by
  have x0 := Int.emod_nonneg (t : Int) (show W ≠ 0 by omega)
  have x1 := Int.emod_lt_of_pos (t : Int) (show 0 < W by omega)
  have y0 : 0 ≤ (t : Int) / W := Int.ediv_nonneg (by omega) (by omega)
  have y1 : (t : Int) / W < H := Int.ediv_lt_of_lt_mul (by omega) (by rw [Int.mul_comm]; omega)
  have em := Int.emod_add_mul_ediv (t : Int) W
  rw [rbes4_iff]
  constructor
  · have key : ∀ x y : Int, u = x + W * y → 0 ≤ x → x < W → 0 ≤ y → y < H → (((t : Int) % W = x ∧ ((t : Int) / W = y + 1 ∨ y = (t : Int) / W + 1)) ∨ ((t : Int) / W = y ∧ ((t : Int) % W = x + 1 ∨ x = (t : Int) % W + 1))) → ∃ b : Nat, u = (b : Int) ∧ b < n ∧ adjS W t b := by
      intro x y hu a b c d f
      have q : W * (y + 1) ≤ W * H := Int.mul_le_mul_of_nonneg_left (by omega) (by omega)
      have q2 : 0 ≤ W * y := Int.mul_nonneg (by omega) c
      rw [Int.mul_add] at q
      obtain ⟨b', hb⟩ : ∃ b' : Nat, u = (b' : Int) := ⟨u.toNat, by omega⟩
      have hb2 : (b' : Int) = x + W * y := by omega
      obtain ⟨bx, by'⟩ := xy_of20 hb2 a b
      refine ⟨b', hb, by omega, ?_⟩
      unfold adjS; rw [bx, by']; exact f
    generalize (t : Int) % W = x at *
    generalize (t : Int) / W = y at *
    rintro (⟨h, e⟩ | ⟨h, e⟩ | ⟨h, e⟩ | ⟨h, e⟩)
    · exact key x (y - 1) (by rw [e, Int.mul_sub]; omega) x0 x1 (by omega) (by omega) (by omega)
    · exact key (x + 1) y (by omega) (by omega) (by omega) y0 y1 (by omega)
    · exact key x (y + 1) (by rw [e, Int.mul_add]; omega) x0 x1 (by omega) (by omega) (by omega)
    · exact key (x - 1) y (by omega) (by omega) (by omega) y0 y1 (by omega)
  · rintro ⟨b, rfl, hb, ha⟩
    have bx0 := Int.emod_nonneg (b : Int) (show W ≠ 0 by omega)
    have bx1 := Int.emod_lt_of_pos (b : Int) (show 0 < W by omega)
    have by0 : 0 ≤ (b : Int) / W := Int.ediv_nonneg (by omega) (by omega)
    have by1 : (b : Int) / W < H := Int.ediv_lt_of_lt_mul (by omega) (by rw [Int.mul_comm]; omega)
    have eb := Int.emod_add_mul_ediv (b : Int) W
    unfold adjS at ha
    generalize (t : Int) % W = x at *
    generalize (t : Int) / W = y at *
    generalize (b : Int) % W = bx at *
    generalize (b : Int) / W = by' at *
    rcases ha with ⟨e, e2 | e2⟩ | ⟨e, e2 | e2⟩
    · left
      subst e e2
      rw [Int.mul_add] at em
      exact ⟨by omega, by omega⟩
    · right; right; left
      subst e e2
      rw [Int.mul_add] at eb
      exact ⟨by omega, by omega⟩
    · right; right; right
      subst e e2
      exact ⟨by omega, by omega⟩
    · right; left
      subst e e2
      exact ⟨by omega, by omega⟩
def rbesN (W H : Int) (t : Nat) : List Nat := (rbes4 W H t ((t : Int) % W) ((t : Int) / W)).map Int.toNat
theorem rbesN_mem {W H : Int} {n t v : Nat} (hW : 1 ≤ W) (hn : (n : Int) = W * H) (ht : t < n) : v ∈ rbesN W H t ↔ v < n ∧ adjS W t v := by
  unfold rbesN
  rw [List.mem_map]
  constructor
  · rintro ⟨u, hu, rfl⟩
    obtain ⟨b, rfl, h⟩ := (rbes_mem hW hn ht).1 hu
    simpa using h
  · intro h
    exact ⟨(v : Int), (rbes_mem hW hn ht).2 ⟨v, rfl, h⟩, by simp⟩
theorem rbesN_vals {W H : Int} {n t : Nat} (hW : 1 ≤ W) (hn : (n : Int) = W * H) (ht : t < n) : intsV (rbes4 W H t ((t : Int) % W) ((t : Int) / W)) = natsL (rbesN W H t) := by
  unfold intsV natsL rbesN
  rw [List.map_map]
  refine List.map_congr_left fun u hu => ?_
  obtain ⟨b, rfl, _⟩ := (rbes_mem hW hn ht).1 hu
  simp
theorem rbesN_len (W H : Int) (t : Nat) : (rbes4 W H t ((t : Int) % W) ((t : Int) / W)).length = (rbesN W H t).length := by unfold rbesN; rw [List.length_map]
theorem rbesN_le (W H : Int) (t : Nat) : (rbesN W H t).length ≤ 4 := by rw [← rbesN_len]; exact rbes4_len _ _ _ _ _
/-- The sum of all numbers. -/
def sumP (P : Nat → Int) : Nat → Nat
  | 0 => 0
  | k + 1 => sumP P k + (P k + 1).toNat
theorem sumP_congr {P Q : Nat → Int} : ∀ {n}, (∀ k, k < n → P k = Q k) → sumP P n = sumP Q n
  | 0, _ => rfl
  | n + 1, h => by
    show sumP P n + _ = sumP Q n + _
    rw [sumP_congr (n := n) (fun k hk => h k (by omega)), h n (by omega)]
theorem sumP_far {P : Nat → Int} {v : Nat} {x : Int} : ∀ {n}, n ≤ v → sumP (updP P v x) n = sumP P n
  | 0, _ => rfl
  | k + 1, h => by
    show sumP (updP P v x) k + _ = sumP P k + _
    rw [sumP_far (n := k) (by omega), updP_far (by omega)]
theorem sumP_put {P : Nat → Int} {v : Nat} {x : Int} (hx : 0 ≤ x) (hv : x < P v) : ∀ {n}, v < n → sumP (updP P v x) n < sumP P n
  | 0, h => by omega
  | k + 1, h => by
    show sumP (updP P v x) k + _ < sumP P k + _
    by_cases e : k = v
    · subst e
      rw [sumP_far (Nat.le_refl _), updP_at]
      omega
    · have := sumP_put (P := P) hx hv (n := k) (by omega)
      rw [updP_far e]
      omega
theorem sumW {w : World} {J n : Nat} {P : Nat → Int} (h : Arr w J n 3 (fun k => .int .i64 (P k))) : sumP (cellW w J) n = sumP P n := sumP_congr fun k hk => cellW_arr (Arp.of_arr h) hk
def boolW : Value → Nat
  | .bool true => 1
  | _ => 0
/-- Nothing below t is greater than its neighbours, unless something changed. -/
def NoLess (N : Nat → Nat → Prop) (P : Nat → Int) (t : Nat) (b : Bool) : Prop := b = false → ∀ a u, a < t → N a u → P a ≤ P u
def NoLessJ (N : Nat → Nat → Prop) (P : Nat → Int) (R : List Nat) (t j : Nat) (b : Bool) : Prop := b = false → (∀ a u, a < t → N a u → P a ≤ P u) ∧ ∀ i (h : i < j) (h' : i < R.length), N t R[i] → P t ≤ P R[i]
theorem NoLess.zero (N : Nat → Nat → Prop) (P : Nat → Int) (b : Bool) : NoLess N P 0 b := fun _ a u h => absurd h (by omega)
theorem NoLess.start {N : Nat → Nat → Prop} {P : Nat → Int} {R : List Nat} {t : Nat} {b : Bool} (h : NoLess N P t b) : NoLessJ N P R t 0 b := fun hb => ⟨h hb, fun i hi => absurd hi (by omega)⟩
theorem NoLess.shut {N : Nat → Nat → Prop} {P : Nat → Int} {t : Nat} {b : Bool} (h : NoLess N P t b) (hf : ∀ u, ¬ N t u) : NoLess N P (t + 1) b := fun hb a u ha hn => by
  by_cases e : a = t
  · subst e; exact absurd hn (hf u)
  · exact h hb a u (by omega) hn
theorem NoLessJ.skip {N : Nat → Nat → Prop} {P : Nat → Int} {R : List Nat} {t j : Nat} {b : Bool} (h : NoLessJ N P R t j b) (hk : ∀ hj : j < R.length, N t R[j] → P t ≤ P R[j]) : NoLessJ N P R t (j + 1) b := fun hb => ⟨(h hb).1, fun i hi hi' hn => by
  by_cases e : i = j
  · subst e; exact hk hi' hn
  · exact (h hb).2 i (by omega) hi' hn⟩
theorem NoLessJ.any (N : Nat → Nat → Prop) (P : Nat → Int) (R : List Nat) (t j : Nat) : NoLessJ N P R t j true := fun hb => by cases hb
theorem NoLessJ.done {N : Nat → Nat → Prop} {P : Nat → Int} {R : List Nat} {t : Nat} {b : Bool} (h : NoLessJ N P R t R.length b) (hm : ∀ u, N t u → u ∈ R) : NoLess N P (t + 1) b := fun hb a u ha hn => by
  by_cases e : a = t
  · subst e
    obtain ⟨i, hi, he⟩ := List.getElem_of_mem (hm u hn)
    have := (h hb).2 i hi hi (by rw [he]; exact hn)
    rwa [he] at this
  · exact (h hb).1 a u (by omega) hn
theorem across_q (n : Int) (w : World) (a : 1 ≤ n) (b : n ≤ 128) : Calls Try.prog 45 #[.int .i64 n] w fun e w' => e = .returned (.int .i64 (Fx.acS n)) ∧ w' = w := by
  have e1 : IntKind.i64.wrap (n + 8) = n + 8 := wr_in' (by omega)
  have e2 : IntKind.i64.wrap (n + 8 - 1) = n + 8 - 1 := wr_in' (by omega)
  have e3 : (n + 8 - 1).tdiv 8 = (n + 8 - 1) / 8 := Int.tdiv_eq_ediv_of_nonneg (by omega)
  have e4 : IntKind.i64.wrap ((n + 8 - 1) / 8) = (n + 8 - 1) / 8 := wr_in' (by omega)
  go_enter Try.func45, Try.ntmps45
  go_wp2
  go_ret
  exact ⟨rfl, rfl⟩
theorem racross_q (n : Int) (w : World) (a : 1 ≤ n) (b : n ≤ 128) : Calls Try.prog 43 #[.int .i64 n] w fun e w' => e = .returned (.int .i64 (Fx.acS n)) ∧ w' = w := by
  have e1 : IntKind.i64.wrap (n + 8) = n + 8 := wr_in' (by omega)
  have e2 : IntKind.i64.wrap (n + 8 - 1) = n + 8 - 1 := wr_in' (by omega)
  have e3 : (n + 8 - 1).tdiv 8 = (n + 8 - 1) / 8 := Int.tdiv_eq_ediv_of_nonneg (by omega)
  have e4 : IntKind.i64.wrap ((n + 8 - 1) / 8) = (n + 8 - 1) / 8 := wr_in' (by omega)
  go_enter Try.func43, Try.ntmps43
  go_wp2
  go_ret
  exact ⟨rfl, rfl⟩
theorem sof_q (W t : Int) (w : World) (w1 : 1 ≤ W) (w2 : W ≤ 128) (t0 : 0 ≤ t) (t1 : t ≤ 16384) : Calls Try.prog 50 #[.int .i64 W, .int .i64 t] w fun e w' => e = .returned (.int .i64 (Fx.ofS W t)) ∧ ∃ m, w' = w.drewN m := by
  have q1 : 0 ≤ t % W := Int.emod_nonneg _ (by omega)
  have q2 : t % W < W := Int.emod_lt_of_pos _ (by omega)
  have q3 : 0 ≤ t / W := Int.ediv_nonneg t0 (by omega)
  have q4 : t / W ≤ t := Int.ediv_le_self _ t0
  have w0 : ¬ W = 0 := by omega
  obtain ⟨c1, c2⟩ := Fx.acS_bd w1 w2
  have z0 : 0 ≤ t / W / 8 := by omega
  have z1 : t / W / 8 ≤ 2048 := by omega
  have m0 : 0 ≤ Fx.acS W * (t / W / 8) := Int.mul_nonneg (by omega) z0
  have m1 : Fx.acS W * (t / W / 8) ≤ 16 * 2048 := Int.mul_le_mul c2 z1 z0 (by omega)
  have r1 : t.tmod W = t % W := Int.tmod_eq_emod_of_nonneg t0
  have r2 : t.tdiv W = t / W := Int.tdiv_eq_ediv_of_nonneg t0
  have r3 : (t % W).tdiv 8 = t % W / 8 := Int.tdiv_eq_ediv_of_nonneg q1
  have r4 : (t / W).tdiv 8 = t / W / 8 := Int.tdiv_eq_ediv_of_nonneg q3
  have e1 : IntKind.i64.wrap (t / W) = t / W := wr_in' (by omega)
  have e2 : IntKind.i64.wrap (t % W / 8) = t % W / 8 := wr_in' (by omega)
  have e3 : IntKind.i64.wrap (t / W / 8) = t / W / 8 := wr_in' (by omega)
  have e4 : IntKind.i64.wrap (Fx.acS W * (t / W / 8)) = Fx.acS W * (t / W / 8) := wr_in' (by omega)
  have e5 : IntKind.i64.wrap (t % W / 8 + Fx.acS W * (t / W / 8)) = t % W / 8 + Fx.acS W * (t / W / 8) := wr_in' (by omega)
  clear q1 q2 q3 q4 z0 z1 m0 m1 c1 c2
  go_enter Try.func50, Try.ntmps50
  go_wp2
  go_quiet ((go_at_call 45; exact Calls.quiet_of_same (across_q W _ w1 w2)))
  go_wp2
  go_ret
  exact ⟨rfl, nq, rfl⟩
theorem rsof_q (W t : Int) (w : World) (w1 : 1 ≤ W) (w2 : W ≤ 128) (t0 : 0 ≤ t) (t1 : t ≤ 16384) : Calls Try.prog 26 #[.int .i64 W, .int .i64 t] w fun e w' => e = .returned (.int .i64 (Fx.ofS W t)) ∧ ∃ m, w' = w.drewN m := by
  have q1 : 0 ≤ t % W := Int.emod_nonneg _ (by omega)
  have q2 : t % W < W := Int.emod_lt_of_pos _ (by omega)
  have q3 : 0 ≤ t / W := Int.ediv_nonneg t0 (by omega)
  have q4 : t / W ≤ t := Int.ediv_le_self _ t0
  have w0 : ¬ W = 0 := by omega
  obtain ⟨c1, c2⟩ := Fx.acS_bd w1 w2
  have z0 : 0 ≤ t / W / 8 := by omega
  have z1 : t / W / 8 ≤ 2048 := by omega
  have m0 : 0 ≤ Fx.acS W * (t / W / 8) := Int.mul_nonneg (by omega) z0
  have m1 : Fx.acS W * (t / W / 8) ≤ 16 * 2048 := Int.mul_le_mul c2 z1 z0 (by omega)
  have r1 : t.tmod W = t % W := Int.tmod_eq_emod_of_nonneg t0
  have r2 : t.tdiv W = t / W := Int.tdiv_eq_ediv_of_nonneg t0
  have r3 : (t % W).tdiv 8 = t % W / 8 := Int.tdiv_eq_ediv_of_nonneg q1
  have r4 : (t / W).tdiv 8 = t / W / 8 := Int.tdiv_eq_ediv_of_nonneg q3
  have e1 : IntKind.i64.wrap (t / W) = t / W := wr_in' (by omega)
  have e2 : IntKind.i64.wrap (t % W / 8) = t % W / 8 := wr_in' (by omega)
  have e3 : IntKind.i64.wrap (t / W / 8) = t / W / 8 := wr_in' (by omega)
  have e4 : IntKind.i64.wrap (Fx.acS W * (t / W / 8)) = Fx.acS W * (t / W / 8) := wr_in' (by omega)
  have e5 : IntKind.i64.wrap (t % W / 8 + Fx.acS W * (t / W / 8)) = t % W / 8 + Fx.acS W * (t / W / 8) := wr_in' (by omega)
  clear q1 q2 q3 q4 z0 z1 m0 m1 c1 c2
  go_enter Try.func26, Try.ntmps26
  go_wp2
  go_quiet ((go_at_call 43; exact Calls.quiet_of_same (racross_q W _ w1 w2)))
  go_wp2
  go_ret
  exact ⟨rfl, nq, rfl⟩
theorem sof_qas (W t z : Int) (w : World) (w1 : 1 ≤ W) (w2 : W ≤ 128) (t0 : 0 ≤ t) (t1 : t ≤ 16384) (EZ : Hk (Fx.ofS W t = z)) : Calls Try.prog 50 #[.int .i64 W, .int .i64 t] w fun e w' => e = .returned (.int .i64 z) ∧ ∃ m, w' = w.drewN m := by
  rw [← EZ.out]; exact sof_q W t w w1 w2 t0 t1
theorem rsof_qas (W t z : Int) (w : World) (w1 : 1 ≤ W) (w2 : W ≤ 128) (t0 : 0 ≤ t) (t1 : t ≤ 16384) (EZ : Hk (Fx.ofS W t = z)) : Calls Try.prog 26 #[.int .i64 W, .int .i64 t] w fun e w' => e = .returned (.int .i64 z) ∧ ∃ m, w' = w.drewN m := by
  rw [← EZ.out]; exact rsof_q W t w w1 w2 t0 t1
end Go.Proofs.Ytcgilmjhbdehpaa
/- Package sector: the tiles of a sector. -/
namespace Go.Proofs.Ytcgilmjhbdehpaa
open Go.ChangeShapes Go.WideShapes Go.ChangeAt Go.RowKit Go.Deep
set_option linter.unusedVariables false
set_option linter.unusedSimpArgs false
/-- Tiles of t's sector ahead of a place. -/
def TlB (W : Int) (n t : Nat) (y x : Int) (L : List Nat) : Prop := L.Pairwise (· < ·) ∧ ∀ v, v ∈ L ↔ v < n ∧ secS W t v ∧ ((v : Int) / W < y ∨ ((v : Int) / W = y ∧ (v : Int) % W < x))
/-- All tiles of t's sector, rising. -/
def TlS (W : Int) (n t : Nat) (L : List Nat) : Prop := L.Pairwise (· < ·) ∧ ∀ v, v ∈ L ↔ v < n ∧ secS W t v
theorem TlB.nil {W : Int} {n t : Nat} {x : Int} (hx : x = (t : Int) % W / 8 * 8) : TlB W n t ((t : Int) / W / 8 * 8) x [] := by
  refine ⟨List.Pairwise.nil, fun v => ⟨fun h => (by cases h), fun ⟨_, ⟨s1, s2⟩, h⟩ => ?_⟩⟩
  exfalso
  generalize (t : Int) / W = a at *
  generalize (v : Int) / W = b at *
  generalize (t : Int) % W = c at *
  generalize (v : Int) % W = d at *
  omega
theorem TlB.put {W : Int} {n t u : Nat} {y x : Int} {L : List Nat} (h : TlB W n t y x L) (hW : 1 ≤ W) (x0 : 0 ≤ x) (x1 : x < W) (hu : (u : Int) = x + W * y) (hun : u < n) (hs : secS W t u) : TlB W n t y (x + 1) (L ++ [u]) := by
  obtain ⟨ux, uy⟩ := xy_of20 hu x0 x1
  refine ⟨List.pairwise_append.2 ⟨h.1, List.pairwise_singleton _ _, fun a ha b hb => ?_⟩, fun v => ?_⟩
  · have := List.mem_singleton.1 hb
    subst this
    obtain ⟨_, _, hv⟩ := (h.2 a).1 ha
    have a0 := Int.emod_nonneg (a : Int) (show W ≠ 0 by omega)
    have a1 := Int.emod_lt_of_pos (a : Int) (show 0 < W by omega)
    have ea := Int.emod_add_mul_ediv (a : Int) W
    rcases hv with hv | ⟨hv, hx⟩
    · have := Int.mul_le_mul_of_nonneg_left (show (a : Int) / W + 1 ≤ y by omega) (show 0 ≤ W by omega)
      rw [Int.mul_add] at this
      omega
    · rw [hv] at ea
      omega
  · rw [List.mem_append, List.mem_singleton, h.2 v]
    constructor
    · rintro (⟨a, b, c⟩ | rfl)
      · exact ⟨a, b, by omega⟩
      · exact ⟨hun, hs, by omega⟩
    · rintro ⟨a, b, c⟩
      by_cases d : (v : Int) / W < y ∨ ((v : Int) / W = y ∧ (v : Int) % W < x)
      · exact Or.inl ⟨a, b, d⟩
      · right
        have e1 : (v : Int) / W = y ∧ (v : Int) % W = x := by omega
        have ev := Int.emod_add_mul_ediv (v : Int) W
        rw [e1.1, e1.2] at ev
        omega
theorem TlB.row {W : Int} {n t : Nat} {y x x' : Int} {L : List Nat} (h : TlB W n t y x L) (hx : x' = (t : Int) % W / 8 * 8) (hW : 1 ≤ W) (hM : x = W ∨ x = (t : Int) % W / 8 * 8 + 8) : TlB W n t (y + 1) x' L := by
  refine ⟨h.1, fun v => ?_⟩
  rw [h.2 v]
  have v1 := Int.emod_lt_of_pos (v : Int) (show 0 < W by omega)
  unfold secS
  generalize (t : Int) / W = a at *
  generalize (v : Int) / W = b at *
  generalize (t : Int) % W = c at *
  generalize (v : Int) % W = d at *
  constructor
  · rintro ⟨p, q, r⟩
    exact ⟨p, q, by omega⟩
  · rintro ⟨p, q, r⟩
    exact ⟨p, q, by omega⟩
theorem TlB.done {W H : Int} {n t : Nat} {y x : Int} {L : List Nat} (h : TlB W n t y x L) (hx : x = (t : Int) % W / 8 * 8) (hW : 1 ≤ W) (hn : (n : Int) = W * H) (hM : y = H ∨ y = (t : Int) / W / 8 * 8 + 8) : TlS W n t L := by
  refine ⟨h.1, fun v => ?_⟩
  rw [h.2 v]
  constructor
  · rintro ⟨p, q, r⟩
    exact ⟨p, q⟩
  · rintro ⟨p, q⟩
    have y1 : (v : Int) / W < H := Int.ediv_lt_of_lt_mul (by omega) (by rw [Int.mul_comm]; omega)
    unfold secS at q
    refine ⟨p, q, ?_⟩
    generalize (t : Int) / W = a at *
    generalize (v : Int) / W = b at *
    omega
end Go.Proofs.Ytcgilmjhbdehpaa
