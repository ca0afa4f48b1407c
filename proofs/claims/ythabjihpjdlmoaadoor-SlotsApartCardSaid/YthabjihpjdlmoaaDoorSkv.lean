import Derived.Deep.QuietTactic
import Derived.BigQuiet
import Derived.Deep.RegionWith
import Derived.Deep.RegionHeld3
import Derived.Deep.DeepCutAuto
import Derived.Deep.DeepFit
import Derived.Outline
import Derived.Test.YthabjihpjdlmoaaDoorSku
import Derived.Test.YthabjihpjdlmoaaDoorSks
/- Layer 8: package build's Covered. -/
namespace Go.Proofs.YthabjihpjdlmoaaDoor
open Go.RowKit
set_option linter.unusedVariables false
set_option linter.unusedSimpArgs false
/-- What Covered answers. -/
def CovR (w : World) (W H : Int) (n : Nat) (xs : List Int) (bs : List Bd) (e : Ending) (w' : World) : Prop :=
  (MOk W H n xs bs ∧ ∃ g, e = .returned (.tuple #[.slice (some ⟨g, 0, none⟩) n n, .int .i64 0]) ∧ w.heap.size ≤ g ∧ Arr w' g n 4 (fun k => .bool (cvB W bs k)) ∧ Below w.heap.size w w') ∨
  (¬ MOk W H n xs bs ∧ e = .returned (.tuple #[.slice none 0 0, .int .i64 1]) ∧ Below w.heap.size w w')
/-- What is covered when the first buildings, and the first tiles of one more, are in. -/
def covJ (W : Int) (bs : List Bd) (b : Bd) (j : Nat) (k : Nat) : Bool := cvB W bs k || decide ((k : Int) ∈ (undL W b).take j)
theorem covJ_zero (W : Int) (bs : List Bd) (b : Bd) (k : Nat) : covJ W bs b 0 k = cvB W bs k := by unfold covJ; simp
theorem und_take (W : Int) (b : Bd) (j : Nat) (hj : j < b.w.toNat * b.h.toNat) : (undL W b).take (j + 1) = (undL W b).take j ++ [undAt W b j] := by
  rw [List.take_succ_eq_append_getElem (by rw [undL_len]; exact hj)]
  congr 2
  have := undL_getD W b j hj
  rw [List.getD, List.getElem?_eq_getElem (by rw [undL_len]; exact hj)] at this
  simpa using this
theorem covJ_succ (W : Int) (bs : List Bd) (b : Bd) (j k T : Nat) (hj : j < b.w.toNat * b.h.toNat) (hT : undAt W b j = T) : covJ W bs b (j + 1) k = if k = T then true else covJ W bs b j k := by
  unfold covJ
  rw [und_take W b j hj, hT]
  by_cases e : k = T
  · subst e; simp
  · rw [if_neg e]
    congr 1
    simp [List.mem_append]
    intro h
    exact absurd (by omega) e
theorem covJ_full {W H : Int} (bs : List Bd) (b : Bd) (k : Nat) (f : FmOk b) (i : InOk W H b) : covJ W bs b (b.w.toNat * b.h.toNat) k = cvB W (bs ++ [b]) k := by
  unfold covJ
  rw [cvB_snoc, List.take_of_length_le (by rw [undL_len]; exact Nat.le_refl _)]
  congr 1
  rw [Bool.eq_iff_iff, decide_eq_true_iff]
  exact und_mem f i (by omega)
theorem six_box {X Y : World} {p0 p1 p2 p3 p4 p5 : Value} {T : TypeId} (h : Below (X.alloc (.cells #[p0, p1, p2, p3, p4, p5] T)).heap.size (X.alloc (.cells #[p0, p1, p2, p3, p4, p5] T)) Y) : Y.cell? ⟨X.heap.size, 0, none⟩ = some p0 ∧ Y.cell? ⟨X.heap.size, 1, none⟩ = some p1 ∧ Y.cell? ⟨X.heap.size, 2, none⟩ = some p2 ∧ Y.cell? ⟨X.heap.size, 3, none⟩ = some p3 ∧ Y.cell? ⟨X.heap.size, 4, none⟩ = some p4 ∧ Y.cell? ⟨X.heap.size, 5, none⟩ = some p5 ∧ X.heap.size < Y.heap.size :=
  ⟨(h.cell (p := ⟨X.heap.size, 0, none⟩) (by simp)).trans (by go_simp), (h.cell (p := ⟨X.heap.size, 1, none⟩) (by simp)).trans (by go_simp), (h.cell (p := ⟨X.heap.size, 2, none⟩) (by simp)).trans (by go_simp), (h.cell (p := ⟨X.heap.size, 3, none⟩) (by simp)).trans (by go_simp), (h.cell (p := ⟨X.heap.size, 4, none⟩) (by simp)).trans (by go_simp), (h.cell (p := ⟨X.heap.size, 5, none⟩) (by simp)).trans (by go_simp), by have := h.size; simp at this; omega⟩
theorem six_keep {X Y : World} {A : Nat} {p0 p1 p2 p3 p4 p5 : Value} (h : Below X.heap.size X Y) (g : X.cell? ⟨A, 0, none⟩ = some p0 ∧ X.cell? ⟨A, 1, none⟩ = some p1 ∧ X.cell? ⟨A, 2, none⟩ = some p2 ∧ X.cell? ⟨A, 3, none⟩ = some p3 ∧ X.cell? ⟨A, 4, none⟩ = some p4 ∧ X.cell? ⟨A, 5, none⟩ = some p5 ∧ A < X.heap.size) :
    Y.cell? ⟨A, 0, none⟩ = some p0 ∧ Y.cell? ⟨A, 1, none⟩ = some p1 ∧ Y.cell? ⟨A, 2, none⟩ = some p2 ∧ Y.cell? ⟨A, 3, none⟩ = some p3 ∧ Y.cell? ⟨A, 4, none⟩ = some p4 ∧ Y.cell? ⟨A, 5, none⟩ = some p5 ∧ A < Y.heap.size := by
  obtain ⟨h0, h1, h2, h3, h4, h5, h6⟩ := g
  exact ⟨(h.cell (p := ⟨A, 0, none⟩) h6).trans h0, (h.cell (p := ⟨A, 1, none⟩) h6).trans h1, (h.cell (p := ⟨A, 2, none⟩) h6).trans h2, (h.cell (p := ⟨A, 3, none⟩) h6).trans h3, (h.cell (p := ⟨A, 4, none⟩) h6).trans h4, (h.cell (p := ⟨A, 5, none⟩) h6).trans h5, Nat.lt_of_lt_of_le h6 h.size⟩
theorem fr_rules {G : Nat} {Z X : World} (h : Fr (fun j => j = G) Z X) :
    (∀ b o, b < Z.heap.size → ¬ b = G → X.cell? ⟨b, o, none⟩ = Z.cell? ⟨b, o, none⟩) ∧ (∀ b o, b < Z.heap.size → ¬ b = G → X.frozen? ⟨b, o, none⟩ = Z.frozen? ⟨b, o, none⟩) ∧ (∀ b, b < Z.heap.size → b < X.heap.size) ∧ (∀ b, b < Z.heap.size → ¬ b = X.heap.size) ∧ (∀ b, b < Z.heap.size → ¬ X.heap.size = b) := by
  have hs := h.size
  exact ⟨fun b o hb hg => h.cell hb hg, fun b o hb hg => h.frozen hb hg, fun b hb => by omega, fun b hb => by omega, fun b hb => by omega⟩
set_option maxRecDepth 100000 in
set_option maxHeartbeats 1600000 in
theorem cov_any (W H : Int) (a : Option Addr) (n c : Nat) (xs : List Int) (la : Option Addr) (ln lc : Nat) (bs : List Bd) (w : World) (h : By w w.heap.size a n xs) (hb0 : Bq w w.heap.size la ln bs) (hn : n ≤ 140737488355328) (hln : ln ≤ 1099511627776) :
    Calls Tryd.prog 107 #[.agg #[.int .i64 W, .int .i64 H, .slice a n c], .slice la ln lc] w (CovR w W H n xs bs) := by
  have HWB : Hk (Below w.heap.size w (w.alloc (.cells #[.int .i64 W, .int .i64 H, .slice a n c] 24))) := ⟨(Below.refl _ _).alloc (Nat.le_refl _) _⟩
  have hNW : w.heap.size + 1 ≤ (w.alloc (.cells #[.int .i64 W, .int .i64 H, .slice a n c] 24)).heap.size := by simp
  have HB : Hk (Below (w.heap.size + 1) (w.alloc (.cells #[.int .i64 W, .int .i64 H, .slice a n c] 24)) (w.alloc (.cells #[.int .i64 W, .int .i64 H, .slice a n c] 24))) := ⟨Below.refl _ _⟩
  have HTR : Hk (∀ X, Below (w.heap.size + 1) (w.alloc (.cells #[.int .i64 W, .int .i64 H, .slice a n c] 24)) X → Below w.heap.size w X) := ⟨fun X hX => HWB.out.trans (hX.mono (by omega))⟩
  have HBY := Hk.mk (fun (X : World) (hX : Below (w.heap.size + 1) (w.alloc (.cells #[.int .i64 W, .int .i64 H, .slice a n c] 24)) X) => h.below (HTR.out X hX) (Nat.le_refl _))
  have HBQ := Hk.mk (fun (X : World) (hX : Below (w.heap.size + 1) (w.alloc (.cells #[.int .i64 W, .int .i64 H, .slice a n c] 24)) X) => hb0.below (HTR.out X hX) (Nat.le_refl _))
  have HLN := Hk.mk hb0.len
  have HQ0 := Hk.mk hb0
  clear h hb0
  have info_b : (Tryd.prog.info? 4).map (fun i => (i.zero, i.size, i.bytes)) = some (some (.bool false), 1, 1) := by kernel_rfl
  obtain ⟨i0, hi, hz0, hz1, hz2⟩ := info_parts info_b
  clear info_b
  by_cases hg : GOk W H n xs
  case neg =>
    have EQ : Hk (gE W H n xs = 1) := ⟨gE_no hg⟩
    have NO : Hk (¬ MOk W H n xs bs) := ⟨fun m => hg m.g⟩
    clear hg
    go_enter Tryd.func107, Tryd.ntmps107
    go_wp2_with (go_at_call 128; (with_reducible refine (check_as 1 W H a n c w.heap.size xs _ ?_ ?_ hn EQ).mono ?_); (exact HBY.out _ HB.out); (exact hsz1 HB.out); rintro e z ⟨rfl, hb⟩; replace HB := Hk.mk (kw_step HB.out hNW hb); clear hb; obtain ⟨hc, hf, hl, hn', hm⟩ := kw_rules HB.out hNW)
    go_ret2
    exact Or.inr ⟨NO.out, rfl, HTR.out _ HB.out⟩
  have EQ : Hk (gE W H n xs = 0) := ⟨gE_yes hg⟩
  have HG := Hk.mk hg
  have w1 := hg.w1; have w2 := hg.w2; have h1 := hg.h1; have h2 := hg.h2
  have hnn := hg.nn
  obtain ⟨m1, m2⟩ := mul_bd w1 w2 h1 h2
  clear hg
  by_cases hl256 : 256 < ln
  · have NO : Hk (¬ MOk W H n xs bs) := ⟨fun m => by have := m.len; rw [HLN.out] at this; omega⟩
    have d256 : decide ((256 : Int) < (ln : Int)) = true := by simp; omega
    go_enter Tryd.func107, Tryd.ntmps107
    go_wp2_with (go_at_call 128; (with_reducible refine (check_as 0 W H a n c w.heap.size xs _ ?_ ?_ hn EQ).mono ?_); (exact HBY.out _ HB.out); (exact hsz1 HB.out); rintro e z ⟨rfl, hb⟩; replace HB := Hk.mk (kw_step HB.out hNW hb); clear hb; obtain ⟨hc, hf, hl, hn', hm⟩ := kw_rules HB.out hNW)
    go_ret2
    exact Or.inr ⟨NO.out, rfl, HTR.out _ HB.out⟩
  have d256 : decide ((256 : Int) < (ln : Int)) = false := by simp; omega
  by_cases has : ascB bs
  case neg =>
    have EA : Hk (¬ ascB bs) := ⟨has⟩
    have NO : Hk (¬ MOk W H n xs bs) := ⟨fun m => has m.asc⟩
    clear has
    go_enter Tryd.func107, Tryd.ntmps107
    go_wp2_with (first | (go_at_call 128; (with_reducible refine (check_as 0 W H a n c w.heap.size xs _ ?_ ?_ hn EQ).mono ?_); (exact HBY.out _ HB.out); (exact hsz1 HB.out); rintro e z ⟨rfl, hb⟩; replace HB := Hk.mk (kw_step HB.out hNW hb); clear hb; obtain ⟨hc, hf, hl, hn', hm⟩ := kw_rules HB.out hNW) | (go_at_call 129; (with_reducible refine (asc8_no la ln lc w.heap.size bs _ ?_ (by omega) EA).mono ?_); (exact HBQ.out _ HB.out); rintro e z ⟨rfl, m, rfl⟩))
    go_ret2
    exact Or.inr ⟨NO.out, rfl, HTR.out _ (below_drewN HB.out _)⟩
  have EA : Hk (ascB bs) := ⟨has⟩
  clear has
  go_enter Tryd.func107, Tryd.ntmps107
  go_wp2_with (first | (go_at_call 128; (with_reducible refine (check_as 0 W H a n c w.heap.size xs _ ?_ ?_ hn EQ).mono ?_); (exact HBY.out _ HB.out); (exact hsz1 HB.out); rintro e z ⟨rfl, hb⟩; replace HB := Hk.mk (kw_step HB.out hNW hb); clear hb; obtain ⟨hc, hf, hl, hn', hm⟩ := kw_rules HB.out hNW) | (go_at_call 129; (with_reducible refine (asc8_yes la ln lc w.heap.size bs _ ?_ (by omega) EA).mono ?_); (exact HBQ.out _ HB.out); rintro e z ⟨rfl, m, rfl⟩; replace HB := Hk.mk (below_drewN HB.out m)) | (at_make; go_must (refine wpList_make_full _ rfl _ _ 31 rfl (w.heap.size + 1) 4 i0 (.bool false) 1 Tryd.underlying31 hi hz0 hz1 .i64 .i64 _ _ n rfl rfl hnn.symm hnn.symm (by rw [hz2]; omega) (by unfold maxLen; omega) (kw_size HB.out hNW) ?_); intro z1 hown hgrow))
  have HA : Hk (Arr z1 z.heap.size n 4 (fun t => .bool (cvB W (bs.take 0) t))) := ⟨Arr.made hown rfl⟩
  have HGN : Hk (w.heap.size + 1 ≤ z.heap.size) := ⟨by have := kw_size HB.out hNW; simpa using this⟩
  replace HB := Hk.mk (HB.out.trans ((below_grown hgrow).mono (kw_size HB.out hNW)))
  clear hown hgrow hc hf hl hn' hm
  generalize z.heap.size = G at *
  go_loopw [32] (fun i wr => ∃ k : Nat, i = .int .i64 k ∧ k ≤ ln ∧ Hk (∀ j, j < k → FmOk (bs.getD j default) ∧ InOk W H (bs.getD j default) ∧ frB W xs (bs.getD j default) = true ∧ ∀ j2, j2 < j → mtB (bs.getD j default) (bs.getD j2 default) = false) ∧ Hk (Below (w.heap.size + 1) (w.alloc (.cells #[.int .i64 W, .int .i64 H, .slice a n c] 24)) wr) ∧ Hk (Arr wr G n 4 (fun t => .bool (cvB W (bs.take k) t)))) (fun i _ => ln - (intOf i).toNat)
  case atStart => exact ⟨0, rfl, Nat.zero_le _, ⟨fun j hj => absurd hj (by omega)⟩, HB, HA⟩
  case round =>
    clear HA HB
    obtain ⟨k, rfl, hk, HJ, HB, HA⟩ := hrel
    obtain ⟨hc, hf, hl, hn', hm⟩ := kw_rules HB.out hNW
    by_cases hlt : k < ln
    · obtain ⟨bb, off, rfl, hbl, p0, p1, p2, p3, p4, p5⟩ := HQ0.out.six hlt
      have hbw2 : bb < w.heap.size + 1 := by omega
      have hmem : bs.getD k default ∈ bs := getD_memB (by rw [HLN.out]; exact hlt)
      have HM : Hk (MOk W H n xs bs → FmOk (bs.getD k default) ∧ InOk W H (bs.getD k default) ∧ frB W xs (bs.getD k default) = true) := ⟨fun m => ⟨m.fm _ hmem, m.ins _ hmem, m.fr _ hmem⟩⟩
      clear hmem
      obtain ⟨b, hbd⟩ : ∃ b, bs.getD k default = b := ⟨_, rfl⟩
      rw [hbd] at p0 p1 p2 p3 p4 p5 HM
      have HBD := Hk.mk hbd
      clear hbd
      have t0 : (0 : Int) ≤ (k : Int) := by omega
      have t1 : (k : Int) < (ln : Int) := by omega
      have HX := Hk.mk (HB.out.alloc (kw_size HB.out hNW) (.cells #[.int .i64 b.i, .int .i64 b.o, .int .i64 b.x, .int .i64 b.y, .int .i64 b.w, .int .i64 b.h] 121))
      cases hq1 : fmB b
      case false =>
        have NO : Hk (¬ MOk W H n xs bs) := ⟨fun m => by have := fmB_iff.2 (HM.out m).1; rw [hq1] at this; cases this⟩
        have Q1 := Hk.mk hq1
        clear hq1
        go_wp2_with (go_at_call 130; (with_reducible refine (formed_as false b _ Q1).mono ?_); rintro e z2 ⟨rfl, hb⟩; clear hc hf hl hn' hm; obtain ⟨g0, g1, g2, g3, g4, g5, g6⟩ := six_box hb; have HG6 := Hk.mk (And.intro g0 (And.intro g1 (And.intro g2 (And.intro g3 (And.intro g4 (And.intro g5 g6)))))); replace HB := Hk.mk (kw_step HX.out hNW hb); obtain ⟨hc, hf, hl, hn', hm⟩ := kw_rules HB.out hNW; have HA2 := Hk.mk ((HA.out.alloc _).later hb); clear hb)
        go_ret2
        exact Or.inr ⟨NO.out, rfl, HTR.out _ HB.out⟩
      case true =>
        have f1 := fmB_iff.1 hq1
        have Q1 := Hk.mk hq1
        have FF := Hk.mk f1
        clear hq1 f1
        cases hq2 : inB W H b
        case false =>
          have NO : Hk (¬ MOk W H n xs bs) := ⟨fun m => by have := inB_iff.2 (HM.out m).2.1; rw [hq2] at this; cases this⟩
          have Q2 := Hk.mk hq2
          clear hq2
          go_wp2_with (first | (go_at_call 130; (with_reducible refine (formed_as true b _ Q1).mono ?_); rintro e z2 ⟨rfl, hb⟩; clear hc hf hl hn' hm; obtain ⟨g0, g1, g2, g3, g4, g5, g6⟩ := six_box hb; have HG6 := Hk.mk (And.intro g0 (And.intro g1 (And.intro g2 (And.intro g3 (And.intro g4 (And.intro g5 g6)))))); replace HB := Hk.mk (kw_step HX.out hNW hb); obtain ⟨hc, hf, hl, hn', hm⟩ := kw_rules HB.out hNW; have HA2 := Hk.mk ((HA.out.alloc _).later hb); clear hb) | (go_at_call 131; (with_reducible refine (inside_as false W H a n c b _ w1 w2 h1 h2 FF.out Q2).mono ?_); rintro e z3 ⟨rfl, hb⟩; replace HA2 := Hk.mk (HA2.out.later hb); clear hc hf hl hn' hm; clear g0 g1 g2 g3 g4 g5 g6; obtain ⟨g0, g1, g2, g3, g4, g5, g6⟩ := six_keep hb HG6.out; replace HG6 := Hk.mk (And.intro g0 (And.intro g1 (And.intro g2 (And.intro g3 (And.intro g4 (And.intro g5 g6)))))); replace HB := Hk.mk (kw_step HB.out hNW hb); clear hb; obtain ⟨hc, hf, hl, hn', hm⟩ := kw_rules HB.out hNW))
          go_ret2
          exact Or.inr ⟨NO.out, rfl, HTR.out _ HB.out⟩
        case true =>
          have i1 := inB_iff.1 hq2
          have Q2 := Hk.mk hq2
          have II := Hk.mk i1
          clear hq2 i1
          cases hq3 : frB W xs b
          case false =>
            have NO : Hk (¬ MOk W H n xs bs) := ⟨fun m => by have := (HM.out m).2.2; rw [hq3] at this; cases this⟩
            have Q3 := Hk.mk hq3
            clear hq3
            go_wp2_with (first | (go_at_call 130; (with_reducible refine (formed_as true b _ Q1).mono ?_); rintro e z2 ⟨rfl, hb⟩; clear hc hf hl hn' hm; obtain ⟨g0, g1, g2, g3, g4, g5, g6⟩ := six_box hb; have HG6 := Hk.mk (And.intro g0 (And.intro g1 (And.intro g2 (And.intro g3 (And.intro g4 (And.intro g5 g6)))))); replace HB := Hk.mk (kw_step HX.out hNW hb); obtain ⟨hc, hf, hl, hn', hm⟩ := kw_rules HB.out hNW; have HA2 := Hk.mk ((HA.out.alloc _).later hb); clear hb) | (go_at_call 131; (with_reducible refine (inside_as true W H a n c b _ w1 w2 h1 h2 FF.out Q2).mono ?_); rintro e z3 ⟨rfl, hb⟩; replace HA2 := Hk.mk (HA2.out.later hb); clear hc hf hl hn' hm; clear g0 g1 g2 g3 g4 g5 g6; obtain ⟨g0, g1, g2, g3, g4, g5, g6⟩ := six_keep hb HG6.out; replace HG6 := Hk.mk (And.intro g0 (And.intro g1 (And.intro g2 (And.intro g3 (And.intro g4 (And.intro g5 g6)))))); replace HB := Hk.mk (kw_step HB.out hNW hb); clear hb; obtain ⟨hc, hf, hl, hn', hm⟩ := kw_rules HB.out hNW) | (go_at_call 132; (with_reducible refine (firm_as false W H a n c w.heap.size xs b _ ?_ ?_ HG.out FF.out II.out Q3).mono ?_); (exact HBY.out _ HB.out); (exact hsz1 HB.out); rintro e z3 ⟨rfl, hb⟩; replace HA2 := Hk.mk (HA2.out.later hb); clear hc hf hl hn' hm; clear g0 g1 g2 g3 g4 g5 g6; obtain ⟨g0, g1, g2, g3, g4, g5, g6⟩ := six_keep hb HG6.out; replace HG6 := Hk.mk (And.intro g0 (And.intro g1 (And.intro g2 (And.intro g3 (And.intro g4 (And.intro g5 g6)))))); replace HB := Hk.mk (kw_step HB.out hNW hb); clear hb; obtain ⟨hc, hf, hl, hn', hm⟩ := kw_rules HB.out hNW))
            go_ret2
            exact Or.inr ⟨NO.out, rfl, HTR.out _ HB.out⟩
          case true =>
            have Q3 := Hk.mk hq3
            have n16 := n16_of FF.out
            obtain ⟨N, hN⟩ : ∃ N, b.w.toNat * b.h.toNat = N := ⟨_, rfl⟩
            rw [hN] at n16
            have HN := Hk.mk hN
            clear hq3 hN
            go_wp2_with (first | (go_at_call 130; (with_reducible refine (formed_as true b _ Q1).mono ?_); rintro e z2 ⟨rfl, hb⟩; clear hc hf hl hn' hm; obtain ⟨g0, g1, g2, g3, g4, g5, g6⟩ := six_box hb; have HG6 := Hk.mk (And.intro g0 (And.intro g1 (And.intro g2 (And.intro g3 (And.intro g4 (And.intro g5 g6)))))); replace HB := Hk.mk (kw_step HX.out hNW hb); obtain ⟨hc, hf, hl, hn', hm⟩ := kw_rules HB.out hNW; have HA2 := Hk.mk ((HA.out.alloc _).later hb); clear hb) | (go_at_call 131; (with_reducible refine (inside_as true W H a n c b _ w1 w2 h1 h2 FF.out Q2).mono ?_); rintro e z3 ⟨rfl, hb⟩; replace HA2 := Hk.mk (HA2.out.later hb); clear hc hf hl hn' hm; clear g0 g1 g2 g3 g4 g5 g6; obtain ⟨g0, g1, g2, g3, g4, g5, g6⟩ := six_keep hb HG6.out; replace HG6 := Hk.mk (And.intro g0 (And.intro g1 (And.intro g2 (And.intro g3 (And.intro g4 (And.intro g5 g6)))))); replace HB := Hk.mk (kw_step HB.out hNW hb); clear hb; obtain ⟨hc, hf, hl, hn', hm⟩ := kw_rules HB.out hNW) | (go_at_call 132; (with_reducible refine (firm_as true W H a n c w.heap.size xs b _ ?_ ?_ HG.out FF.out II.out Q3).mono ?_); (exact HBY.out _ HB.out); (exact hsz1 HB.out); rintro e z3 ⟨rfl, hb⟩; replace HA2 := Hk.mk (HA2.out.later hb); clear hc hf hl hn' hm; clear g0 g1 g2 g3 g4 g5 g6; obtain ⟨g0, g1, g2, g3, g4, g5, g6⟩ := six_keep hb HG6.out; replace HG6 := Hk.mk (And.intro g0 (And.intro g1 (And.intro g2 (And.intro g3 (And.intro g4 (And.intro g5 g6)))))); replace HB := Hk.mk (kw_step HB.out hNW hb); clear hb; obtain ⟨hc, hf, hl, hn', hm⟩ := kw_rules HB.out hNW) | (go_at_call 133; (with_reducible refine (under_as N W H a n c b _ w1 w2 h1 h2 FF.out II.out HN).mono ?_); rintro e z9 ⟨gg, rfl, hg1, hnq, hg2, hb⟩; have hGgg : ¬ gg = G := (by have := HA2.out.lt; omega); replace HA2 := Hk.mk (HA2.out.later hb); have HGG : Hk (w.heap.size + 1 ≤ gg) := ⟨Nat.le_trans (kw_size HB.out hNW) hg1⟩; replace HB := Hk.mk (kw_step HB.out hNW hb); clear hb; have HNQ := Hk.mk hnq; clear hnq g0 g1 g2 g3 g4 g5 g6; clear hc hf hl hn' hm))
            go_loopw [55] (fun i wr => ∃ j : Nat, i = .int .i64 j ∧ j ≤ N ∧ Hk (Fr (fun q => q = G) z9 wr) ∧ Hk (Arr wr G n 4 (fun t => .bool (covJ W (bs.take k) b j t))) ∧ Hk (∀ j2, j2 < j → cvB W (bs.take k) (undAt W b j2) = false)) (fun i _ => N - (intOf i).toNat)
            case atStart => exact ⟨0, rfl, Nat.zero_le _, ⟨Fr.refl _ _⟩, ⟨HA2.out.congr fun t _ => by rw [covJ_zero]⟩, ⟨fun j hj => absurd hj (by omega)⟩⟩
            case round =>
              obtain ⟨j, rfl, hj, HF, HAJ, HNC⟩ := hrel
              obtain ⟨kc, kf, kl, kn, km⟩ := fr_rules HF.out
              by_cases hjt : j < N
              · have hj' : j < b.w.toNat * b.h.toNat := by rw [HN.out]; exact hjt
                have hu := und_md FF.out II.out hj'
                obtain ⟨T, hT⟩ : ∃ T : Nat, undAt W b j = T := ⟨(undAt W b j).toNat, by omega⟩
                have hTn : T < n := by omega
                have p0 : z9.cell? ⟨gg, j, none⟩ = some (.int .i64 T) := by
                  obtain ⟨g', o', e', _, hc'⟩ := HNQ.out.rd (by omega)
                  injection e' with h9
                  injection h9 with h7 h8
                  subst h7 h8
                  have := hc' j hjt
                  rw [undL_getD W b j hj', hT, Nat.zero_add] at this
                  exact this
                have HU := Hk.mk hT
                clear hu hT hj'
                have j0 : (0 : Int) ≤ (j : Int) := by omega
                have j1 : (j : Int) < (N : Int) := by omega
                have T0 : (0 : Int) ≤ (T : Int) := by omega
                have T1 : (T : Int) < (n : Int) := by omega
                have a0 := HAJ.out.cell hTn
                have az := HAJ.out.frozen T
                cases hcv : covJ W (bs.take k) b j T
                case true =>
                  rw [hcv] at a0
                  have NO : Hk (¬ MOk W H n xs bs) := ⟨fun m => by
                    have hj' : j < b.w.toNat * b.h.toNat := by rw [HN.out]; exact hjt
                    have ho := und_once FF.out II.out hj'
                    rw [HU.out] at ho
                    have hcc : cvB W (bs.take k) T = true := by
                      unfold covJ at hcv
                      simpa [ho] using hcv
                    unfold cvB at hcc
                    obtain ⟨b2, hb2, hh2⟩ := List.any_eq_true.1 hcc
                    obtain ⟨q, hq, e⟩ := mem_getDB hb2
                    have hqk : q < k := by simp at hq; omega
                    rw [getD_takeB hqk] at e
                    have hmm := m.ap k q hqk (by rw [HLN.out]; exact hlt)
                    rw [HBD.out, e] at hmm
                    have hhb : hsB W b T = true := (und_mem FF.out II.out (by omega)).1 (by rw [← HU.out]; exact List.mem_map.2 ⟨j, List.mem_range.2 hj', rfl⟩)
                    rw [mt_of hhb hh2] at hmm
                    cases hmm⟩
                  clear hcv
                  go_wp2
                  go_ret2
                  exact Or.inr ⟨NO.out, rfl, HTR.out _ (HB.out.trans (HF.out.below (B := w.heap.size + 1) (kw_size HB.out hNW) (fun q _ e => by subst e; exact HGN.out)))⟩
                case false =>
                  rw [hcv] at a0
                  have HNC2 : Hk (∀ j2, j2 < j + 1 → cvB W (bs.take k) (undAt W b j2) = false) := ⟨fun j2 hj2 => by
                    by_cases e : j2 = j
                    · subst e
                      rw [HU.out]
                      unfold covJ at hcv
                      simpa using (Bool.or_eq_false_iff.1 hcv).1
                    · exact HNC.out j2 (by omega)⟩
                  clear hcv
                  go_wp2
                  exact ⟨⟨j + 1, by go_num, by omega, ⟨HF.out.setCell (p := ⟨G, T, none⟩) (fun _ => rfl) _⟩, ⟨(HAJ.out.set hTn (.bool true)).congr fun t _ => by
                    rw [covJ_succ W (bs.take k) b j t T (by rw [HN.out]; exact hjt) HU.out]
                    by_cases e : t = T
                    · rw [if_pos e, if_pos e]
                    · rw [if_neg e, if_neg e]⟩, HNC2⟩, by simp [intOf]; omega⟩
              · have hjn : j = N := by omega
                subst hjn
                have R : Hk (∀ j2, j2 < k + 1 → FmOk (bs.getD j2 default) ∧ InOk W H (bs.getD j2 default) ∧ frB W xs (bs.getD j2 default) = true ∧ ∀ j3, j3 < j2 → mtB (bs.getD j2 default) (bs.getD j3 default) = false) := ⟨fun j2 hj2 => by
                  by_cases e : j2 = k
                  · subst e
                    rw [HBD.out]
                    refine ⟨FF.out, II.out, Q3.out, fun j3 hj3 => ?_⟩
                    cases hm3 : mtB b (bs.getD j3 default)
                    · rfl
                    · exfalso
                      have h3 := HJ.out j3 hj3
                      rw [mt_comm] at hm3
                      obtain ⟨q, hq, hh⟩ := mt_tile h3.1 h3.2.1 FF.out II.out hm3
                      have := HNC.out q (by rw [← HN.out]; exact hq)
                      unfold cvB at this
                      rw [List.any_eq_false] at this
                      have hmem : bs.getD j3 default ∈ bs.take j2 := by
                        rw [← getD_takeB hj3]
                        exact getD_memB (by rw [List.length_take, HLN.out]; omega)
                      exact this _ hmem hh
                  · exact HJ.out j2 (by omega)⟩
                have HA3 : Hk (Arr wr G n 4 (fun t => .bool (cvB W (bs.take (k + 1)) t))) := ⟨HAJ.out.congr fun t _ => by rw [take_succB (by rw [HLN.out]; exact hlt), HBD.out, ← covJ_full _ b t FF.out II.out, HN.out]⟩
                have HB3 := Hk.mk (HB.out.trans (HF.out.below (B := w.heap.size + 1) (kw_size HB.out hNW) (fun q _ e => by subst e; exact HGN.out)))
                go_wp2
                exact ⟨⟨k + 1, by go_num, by omega, R, HB3, HA3⟩, by simp [intOf]; omega⟩
    · have hkn : k = ln := by omega
      subst hkn
      have YES : Hk (MOk W H n xs bs) := ⟨by
        have mm : ∀ b ∈ bs, ∃ j, j < k ∧ bs.getD j default = b := fun b hb => by
          obtain ⟨j, hj, e⟩ := mem_getDB hb
          exact ⟨j, by rw [← HLN.out]; exact hj, e⟩
        exact ⟨HG.out, by rw [HLN.out]; omega, EA.out, fun b hb => by obtain ⟨j, hj, rfl⟩ := mm b hb; exact (HJ.out j hj).1, fun b hb => by obtain ⟨j, hj, rfl⟩ := mm b hb; exact (HJ.out j hj).2.1, fun b hb => by obtain ⟨j, hj, rfl⟩ := mm b hb; exact (HJ.out j hj).2.2.1, fun i j hji hi => (HJ.out i (by rw [← HLN.out]; exact hi)).2.2.2 j hji⟩⟩
      go_wp2
      go_ret2
      refine Or.inl ⟨YES.out, G, rfl, by have := HGN.out; omega, HA.out.congr fun t _ => ?_, HTR.out _ HB.out⟩
      rw [List.take_of_length_le (by rw [HLN.out]; exact Nat.le_refl _)]
theorem cov_yes (W H : Int) (a : Option Addr) (n c : Nat) (xs : List Int) (la : Option Addr) (ln lc : Nat) (bs : List Bd) (w : World) (h : By w w.heap.size a n xs) (hb0 : Bq w w.heap.size la ln bs) (hn : n ≤ 140737488355328) (hln : ln ≤ 1099511627776) (M : Hk (MOk W H n xs bs)) :
    Calls Tryd.prog 107 #[.agg #[.int .i64 W, .int .i64 H, .slice a n c], .slice la ln lc] w fun e w' => ∃ g, e = .returned (.tuple #[.slice (some ⟨g, 0, none⟩) n n, .int .i64 0]) ∧ w.heap.size ≤ g ∧ Arr w' g n 4 (fun k => .bool (cvB W bs k)) ∧ Below w.heap.size w w' :=
  (cov_any W H a n c xs la ln lc bs w h hb0 hn hln).mono fun e w' hr => by
    rcases hr with ⟨_, hr⟩ | ⟨hno, _⟩
    · exact hr
    · exact absurd M.out hno
theorem cov_no (W H : Int) (a : Option Addr) (n c : Nat) (xs : List Int) (la : Option Addr) (ln lc : Nat) (bs : List Bd) (w : World) (h : By w w.heap.size a n xs) (hb0 : Bq w w.heap.size la ln bs) (hn : n ≤ 140737488355328) (hln : ln ≤ 1099511627776) (M : Hk (¬ MOk W H n xs bs)) :
    Calls Tryd.prog 107 #[.agg #[.int .i64 W, .int .i64 H, .slice a n c], .slice la ln lc] w fun e w' => e = .returned (.tuple #[.slice none 0 0, .int .i64 1]) ∧ Below w.heap.size w w' :=
  (cov_any W H a n c xs la ln lc bs w h hb0 hn hln).mono fun e w' hr => by
    rcases hr with ⟨hy, _⟩ | ⟨_, hr⟩
    · exact absurd hy M.out
    · exact hr
end Go.Proofs.YthabjihpjdlmoaaDoor
/- Layer 8: the reference's Covered. -/
namespace Go.Proofs.YthabjihpjdlmoaaDoor
open Go.RowKit
set_option linter.unusedVariables false
set_option linter.unusedSimpArgs false
theorem und_rc (W bi bo bx bY : Int) (wn hn r q : Nat) (hq : q < wn) : undAt W ⟨bi, bo, bx, bY, wn, hn⟩ (r * wn + q) = bx + q + W * (bY + r) := by
  unfold undAt
  simp only [Int.toNat_natCast]
  rw [Nat.mul_comm r wn, Nat.mul_add_mod, Nat.mod_eq_of_lt hq, Nat.mul_add_div (by omega), Nat.div_eq_of_lt hq, Nat.add_zero]
set_option maxRecDepth 100000 in
set_option maxHeartbeats 1600000 in
theorem rcov_any (W H : Int) (a : Option Addr) (n c : Nat) (xs : List Int) (la : Option Addr) (ln lc : Nat) (bs : List Bd) (w : World) (hb0 : Bq w w.heap.size la ln bs) (M : Hk (MOk W H n xs bs)) :
    Calls Tryd.prog 106 #[.agg #[.int .i64 W, .int .i64 H, .slice a n c], .slice la ln lc] w fun e w' => ∃ g, e = .returned (.slice (some ⟨g, 0, none⟩) n n) ∧ w.heap.size ≤ g ∧ Arr w' g n 4 (fun k => .bool (cvB W bs k)) ∧ Below w.heap.size w w' := by
  have HWB : Hk (Below w.heap.size w (w.alloc (.cells #[.int .i64 W, .int .i64 H, .slice a n c] 24))) := ⟨(Below.refl _ _).alloc (Nat.le_refl _) _⟩
  have hNW : w.heap.size + 1 ≤ (w.alloc (.cells #[.int .i64 W, .int .i64 H, .slice a n c] 24)).heap.size := by simp
  have HTR : Hk (∀ X, Below (w.heap.size + 1) (w.alloc (.cells #[.int .i64 W, .int .i64 H, .slice a n c] 24)) X → Below w.heap.size w X) := ⟨fun X hX => HWB.out.trans (hX.mono (by omega))⟩
  have HQ0 := Hk.mk hb0
  have HLN := Hk.mk hb0.len
  have hl256 : ln ≤ 256 := by have := M.out.len; rw [hb0.len] at this; exact this
  clear hb0
  have info_b : (Tryd.prog.info? 4).map (fun i => (i.zero, i.size, i.bytes)) = some (some (.bool false), 1, 1) := by kernel_rfl
  obtain ⟨i0, hi, hz0, hz1, hz2⟩ := info_parts info_b
  clear info_b
  have w1 := M.out.g.w1; have w2 := M.out.g.w2; have h1 := M.out.g.h1; have h2 := M.out.g.h2
  have hnn := M.out.g.nn
  obtain ⟨m1, m2⟩ := mul_bd w1 w2 h1 h2
  go_enter Tryd.func106, Tryd.ntmps106
  go_wp2_with (at_make; go_must (refine wpList_make_full _ rfl _ _ 31 rfl (w.heap.size + 1) 4 i0 (.bool false) 1 Tryd.underlying31 hi hz0 hz1 .i64 .i64 _ _ n rfl rfl hnn.symm hnn.symm (by rw [hz2]; omega) (by unfold maxLen; omega) hNW ?_); intro z1 hown hgrow)
  have HA : Hk (Arr z1 (w.heap.size + 1) n 4 (fun t => .bool (cvB W (bs.take 0) t))) := ⟨Arr.made (by simpa using hown) rfl⟩
  have HB : Hk (Below (w.heap.size + 1) (w.alloc (.cells #[.int .i64 W, .int .i64 H, .slice a n c] 24)) z1) := ⟨(below_grown hgrow).mono hNW⟩
  clear hown hgrow
  generalize hG : w.heap.size + 1 = G at HA HB ⊢
  have HGN : Hk (w.heap.size + 1 = G) := ⟨hG⟩
  have hNW : G ≤ (w.alloc (.cells #[.int .i64 W, .int .i64 H, .slice a n c] 24)).heap.size := by rw [← hG]; exact hNW
  have hwG : w.heap.size < G := by omega
  clear hG
  go_loopw [6] (fun i wr => ∃ k : Nat, i = .int .i64 k ∧ k ≤ ln ∧ Hk (Below G (w.alloc (.cells #[.int .i64 W, .int .i64 H, .slice a n c] 24)) wr) ∧ Hk (Arr wr G n 4 (fun t => .bool (cvB W (bs.take k) t)))) (fun i _ => ln - (intOf i).toNat)
  case atStart => exact ⟨0, rfl, Nat.zero_le _, HB, HA⟩
  case round =>
    clear HA HB
    obtain ⟨k, rfl, hk, HB, HA⟩ := hrel
    by_cases hlt : k < ln
    · obtain ⟨bb, off, rfl, hbl, p0, p1, p2, p3, p4, p5⟩ := HQ0.out.six hlt
      have hbG : bb < G := by have := HGN.out; omega
      have hmem : bs.getD k default ∈ bs := getD_memB (by rw [HLN.out]; exact hlt)
      have hfm := M.out.fm _ hmem
      have hin := M.out.ins _ hmem
      clear hmem p0 p1
      obtain ⟨b, hbd⟩ : ∃ b, bs.getD k default = b := ⟨_, rfl⟩
      rw [hbd] at p2 p3 p4 p5 hfm hin
      have HBD := Hk.mk hbd
      clear hbd
      obtain ⟨bi, bo, bx, bY, bw, bh⟩ := b
      obtain ⟨wn, rfl⟩ : ∃ wn : Nat, bw = wn := ⟨bw.toNat, by have := hfm.w1; simp only at this; omega⟩
      obtain ⟨hn, rfl⟩ : ∃ hn : Nat, bh = hn := ⟨bh.toNat, by have := hfm.h1; simp only at this; omega⟩
      have q1 := hfm.w1; have q2 := hfm.w2; have q3 := hfm.h1; have q4 := hfm.h2
      have q5 := hin.x1; have q6 := hin.x2; have q7 := hin.y1; have q8 := hin.y2
      simp only at q1 q2 q3 q4 q5 q6 q7 q8 p2 p3 p4 p5
      have FF := Hk.mk hfm
      have II := Hk.mk hin
      clear hfm hin
      have t0 : (0 : Int) ≤ (k : Int) := by omega
      have t1 : (k : Int) < (ln : Int) := by omega
      have wy : IntKind.i64.wrap (bY + (hn : Int)) = bY + (hn : Int) := by rw [IntKind.wrap_i64]; omega
      have wx : IntKind.i64.wrap (bx + (wn : Int)) = bx + (wn : Int) := by rw [IntKind.wrap_i64]; omega
      obtain ⟨hc, hf, hl, hn', hm⟩ := kw_rules HB.out hNW
      go_wp2_with fail
      clear hc hf hl hn' hm
      obtain ⟨wo, rfl⟩ : ∃ wo : World, wo = wr := ⟨wr, rfl⟩
      go_loopw [7] (fun s wr => ∃ r : Nat, s = .int .i64 (bY + r) ∧ r ≤ hn ∧ Hk (Below G (w.alloc (.cells #[.int .i64 W, .int .i64 H, .slice a n c] 24)) wr) ∧ Hk (Arr wr G n 4 (fun t => .bool (covJ W (bs.take k) ⟨bi, bo, bx, bY, wn, hn⟩ (r * wn) t)))) (fun s _ => (bY + hn - intOf s).toNat)
      case atStart => exact ⟨0, by simp, Nat.zero_le _, HB, ⟨HA.out.congr fun t _ => by rw [Nat.zero_mul, covJ_zero]⟩⟩
      case round =>
        clear HB HA
        obtain ⟨r, rfl, hr, HB, HA⟩ := hrel
        obtain ⟨hc, hf, hl, hn', hm⟩ := kw_rules HB.out hNW
        by_cases hrl : r < hn
        · have d1 : decide (bY + (r : Int) < bY + (hn : Int)) = true := by simp; omega
          have d1' : (r : Int) < (hn : Int) := by omega
          obtain ⟨P, hP⟩ : ∃ P, W * (bY + r) = P := ⟨_, rfl⟩
          have P0 : 0 ≤ P := by rw [← hP]; exact Int.mul_nonneg (by omega) (by omega)
          have P1 : P ≤ 16384 := by
            have := Int.mul_le_mul w2 (show bY + r ≤ 128 by omega) (by omega) (by omega)
            omega
          go_wp2_with fail
          go_quiet (fail)
          go_wp2_with fail
          clear hc hf hl hn' hm
          obtain ⟨wp, rfl⟩ : ∃ wp : World, wp = wr := ⟨wr, rfl⟩
          go_loopw [8] (fun s wr => ∃ q : Nat, s = .int .i64 (bx + q) ∧ q ≤ wn ∧ Hk (Below G (w.alloc (.cells #[.int .i64 W, .int .i64 H, .slice a n c] 24)) wr) ∧ Hk (Arr wr G n 4 (fun t => .bool (covJ W (bs.take k) ⟨bi, bo, bx, bY, wn, hn⟩ (r * wn + q) t)))) (fun s _ => (bx + wn - intOf s).toNat)
          case atStart => exact ⟨0, by simp, Nat.zero_le _, ⟨below_drewN HB.out _⟩, ⟨(HA.out.drewN _).congr fun t _ => rfl⟩⟩
          case round =>
            clear HB HA
            obtain ⟨q, rfl, hq, HB, HA⟩ := hrel
            obtain ⟨hc, hf, hl, hn', hm⟩ := kw_rules HB.out hNW
            by_cases hql : q < wn
            · have d2 : decide (bx + (q : Int) < bx + (wn : Int)) = true := by simp; omega
              have d2' : (q : Int) < (wn : Int) := by omega
              have hj : r * wn + q < wn * hn := by
                have := Nat.mul_le_mul_left wn (show r + 1 ≤ hn by omega)
                rw [Nat.mul_add, Nat.mul_one, Nat.mul_comm] at this
                omega
              have hu := und_md FF.out II.out (k := r * wn + q) (by simpa using hj)
              have he : undAt W ⟨bi, bo, bx, bY, wn, hn⟩ (r * wn + q) = bx + q + P := by rw [und_rc W bi bo bx bY wn hn r q hql, hP]
              obtain ⟨T, hT⟩ : ∃ T : Nat, bx + q + P = T := ⟨(bx + q + P).toNat, by omega⟩
              have hTn : T < n := by omega
              have HU : Hk (undAt W ⟨bi, bo, bx, bY, wn, hn⟩ (r * wn + q) = (T : Int) ∧ r * wn + q < wn * hn) := ⟨he.trans hT, hj⟩
              have T0 : (0 : Int) ≤ (T : Int) := by omega
              have T1 : (T : Int) < (n : Int) := by omega
              have a0 := HA.out.cell hTn
              have az := HA.out.frozen T
              clear hu he hj
              obtain ⟨cv, hcv⟩ : ∃ cv, covJ W (bs.take k) ⟨bi, bo, bx, bY, wn, hn⟩ (r * wn + q) T = cv := ⟨_, rfl⟩
              rw [hcv] at a0
              clear hcv
              go_wp2_with fail
              go_quiet (fail)
              go_wp2
              exact ⟨⟨q + 1, by go_num, by omega, ⟨Below.setCell (p := ⟨G, T, none⟩) (below_drewN HB.out _) (Nat.le_refl _) _⟩, ⟨((HA.out.drewN _).set hTn (.bool true)).congr fun t _ => by
                rw [← Nat.add_assoc, covJ_succ W (bs.take k) ⟨bi, bo, bx, bY, wn, hn⟩ (r * wn + q) t T (by simpa using HU.out.2) HU.out.1]
                by_cases e : t = T
                · rw [if_pos e, if_pos e]
                · rw [if_neg e, if_neg e]⟩⟩, by simp [intOf]; omega⟩
            · have hqw : q = wn := by omega
              subst hqw
              go_wp2_with fail
              go_quiet (fail)
              go_wp2
              exact ⟨⟨r + 1, by go_num, by omega, ⟨below_drewN HB.out _⟩, ⟨(HA.out.drewN _).congr fun t _ => by rw [Nat.add_mul, Nat.one_mul]⟩⟩, by simp [intOf]; omega⟩
        · have hrh : r = hn := by omega
          subst hrh
          go_wp2_with fail
          go_quiet (fail)
          go_wp2
          exact ⟨⟨k + 1, by go_num, by omega, ⟨below_drewN HB.out _⟩, ⟨(HA.out.drewN _).congr fun t _ => by
            have := covJ_full (bs.take k) (⟨bi, bo, bx, bY, wn, r⟩ : Bd) t FF.out II.out
            simp only [Int.toNat_natCast] at this
            rw [take_succB (by rw [HLN.out]; exact hlt), HBD.out, ← this, Nat.mul_comm]⟩⟩, by simp [intOf]; omega⟩
    · have hkn : k = ln := by omega
      subst hkn
      obtain ⟨hc, hf, hl, hn', hm⟩ := kw_rules HB.out hNW
      go_wp2
      go_ret
      refine ⟨G, rfl, by have := HGN.out; omega, HA.out.congr fun t _ => ?_, HTR.out _ (HB.out.mono (by have := HGN.out; omega))⟩
      rw [List.take_of_length_le (by rw [HLN.out]; exact Nat.le_refl _)]
end Go.Proofs.YthabjihpjdlmoaaDoor
/- Layer 9: clear.Open. -/
namespace Go.Proofs.YthabjihpjdlmoaaDoor
open Go.RowKit
set_option linter.unusedVariables false
set_option linter.unusedSimpArgs false
/-- Is the tile open for the class? -/
def opn (W : Int) (xs : List Int) (bs : List Bd) (c k : Nat) : Bool := opB c (xs.getD k 0).toNat && !(cvB W bs k)
theorem z_of {c : Nat} {X : World} {P : Nat} (h : X.cell? ⟨P, 0, none⟩ = some (.bool (opB c 0)) ∧ X.cell? ⟨P, 1, none⟩ = some (.bool (opB c 1)) ∧ X.cell? ⟨P, 2, none⟩ = some (.bool (opB c 2)) ∧ X.cell? ⟨P, 3, none⟩ = some (.bool (opB c 3)) ∧ X.cell? ⟨P, 4, none⟩ = some (.bool (opB c 4)) ∧ X.cell? ⟨P, 5, none⟩ = some (.bool (opB c 5)) ∧ P < X.heap.size) : ∀ j, j < 6 → X.cell? ⟨P, j, none⟩ = some (.bool (opB c j)) := by
  obtain ⟨h0, h1, h2, h3, h4, h5, _⟩ := h
  intro j hj
  match j, hj with
  | 0, _ => exact h0
  | 1, _ => exact h1
  | 2, _ => exact h2
  | 3, _ => exact h3
  | 4, _ => exact h4
  | 5, _ => exact h5
theorem open_no (W H : Int) (a : Option Addr) (n c : Nat) (xs : List Int) (la : Option Addr) (ln lc : Nat) (bs : List Bd) (w : World) (h : By w w.heap.size a n xs) (hb0 : Bq w w.heap.size la ln bs) (hn : n ≤ 140737488355328) (hln : ln ≤ 1099511627776) (x : Int) (MM : Hk (¬ (MOk W H n xs bs ∧ 0 ≤ x ∧ x ≤ 2))) :
    Calls Tryd.prog 78 #[.agg #[.int .i64 W, .int .i64 H, .slice a n c], .slice la ln lc, .int .i64 x] w fun e w' => e = .returned (.tuple #[.slice none 0 0, .int .i64 1]) ∧ Below w.heap.size w w' := by
  have HWB : Hk (Below w.heap.size w (w.alloc (.cells #[.int .i64 W, .int .i64 H, .slice a n c] 24))) := ⟨(Below.refl _ _).alloc (Nat.le_refl _) _⟩
  have hNW : w.heap.size + 1 ≤ (w.alloc (.cells #[.int .i64 W, .int .i64 H, .slice a n c] 24)).heap.size := by simp
  have HB : Hk (Below (w.heap.size + 1) (w.alloc (.cells #[.int .i64 W, .int .i64 H, .slice a n c] 24)) (w.alloc (.cells #[.int .i64 W, .int .i64 H, .slice a n c] 24))) := ⟨Below.refl _ _⟩
  have HTR : Hk (∀ X, Below (w.heap.size + 1) (w.alloc (.cells #[.int .i64 W, .int .i64 H, .slice a n c] 24)) X → Below w.heap.size w X) := ⟨fun X hX => HWB.out.trans (hX.mono (by omega))⟩
  have HBY := Hk.mk (fun (X : World) (hX : Below (w.heap.size + 1) (w.alloc (.cells #[.int .i64 W, .int .i64 H, .slice a n c] 24)) X) => h.below (HTR.out X hX) (Nat.le_refl _))
  have HBQ := Hk.mk (fun (X : World) (hX : Below (w.heap.size + 1) (w.alloc (.cells #[.int .i64 W, .int .i64 H, .slice a n c] 24)) X) => hb0.below (HTR.out X hX) (Nat.le_refl _))
  clear h hb0
  by_cases hM : MOk W H n xs bs
  · have hx : x < 0 ∨ 2 < x := by
      rcases Int.lt_or_le x 0 with h | h
      · exact Or.inl h
      · right
        rcases Int.lt_or_le 2 x with h2 | h2
        · exact h2
        · exact absurd ⟨hM, h, h2⟩ MM.out
    replace MM := Hk.mk hM
    clear hM
    rcases hx with hx | hx
    all_goals
      go_enter Tryd.func78, Tryd.ntmps78
      go_wp2_with (go_at_call 107; (with_reducible refine (cov_yes W H a n c xs la ln lc bs _ ?_ ?_ hn hln MM).mono ?_); (exact (HBY.out _ HB.out).mono (hsz1 HB.out)); (exact (HBQ.out _ HB.out).mono (hsz1 HB.out)); rintro e z ⟨g, rfl, hg, hA, hb⟩; replace HB := Hk.mk (kw_step HB.out hNW hb); clear hb)
      go_ret2
      exact ⟨rfl, HTR.out _ HB.out⟩
  · replace MM := Hk.mk hM
    clear hM
    go_enter Tryd.func78, Tryd.ntmps78
    go_wp2_with (go_at_call 107; (with_reducible refine (cov_no W H a n c xs la ln lc bs _ ?_ ?_ hn hln MM).mono ?_); (exact (HBY.out _ HB.out).mono (hsz1 HB.out)); (exact (HBQ.out _ HB.out).mono (hsz1 HB.out)); rintro e z ⟨rfl, hb⟩; replace HB := Hk.mk (kw_step HB.out hNW hb); clear hb)
    go_ret2
    exact ⟨rfl, HTR.out _ HB.out⟩
theorem frb {N G : Nat} {w Z X : World} (h : Below N w Z) (hN : N ≤ w.heap.size) (f : Fr (fun q => q = G) Z X) (hG : N ≤ G) : Below N w X :=
  h.trans (f.below (B := N) (Nat.le_trans hN h.size) (fun q _ e => by subst e; exact hG))
set_option maxRecDepth 100000 in
set_option maxHeartbeats 800000 in
theorem open_yes (W H : Int) (a : Option Addr) (n c : Nat) (xs : List Int) (la : Option Addr) (ln lc : Nat) (bs : List Bd) (w : World) (h : By w w.heap.size a n xs) (hb0 : Bq w w.heap.size la ln bs) (hn : n ≤ 140737488355328) (hln : ln ≤ 1099511627776) (cl : Nat) (hL : LC w) (hc3 : cl < 3) (MM : Hk (MOk W H n xs bs)) :
    Calls Tryd.prog 78 #[.agg #[.int .i64 W, .int .i64 H, .slice a n c], .slice la ln lc, .int .i64 cl] w fun e w' => ∃ g, e = .returned (.tuple #[.slice (some ⟨g, 0, none⟩) n n, .int .i64 0]) ∧ w.heap.size ≤ g ∧ Arr w' g n 4 (fun k => .bool (opn W xs bs cl k)) ∧ Below w.heap.size w w' := by
  have HWB : Hk (Below w.heap.size w (w.alloc (.cells #[.int .i64 W, .int .i64 H, .slice a n c] 24))) := ⟨(Below.refl _ _).alloc (Nat.le_refl _) _⟩
  have hNW : w.heap.size + 1 ≤ (w.alloc (.cells #[.int .i64 W, .int .i64 H, .slice a n c] 24)).heap.size := by simp
  have HB : Hk (Below (w.heap.size + 1) (w.alloc (.cells #[.int .i64 W, .int .i64 H, .slice a n c] 24)) (w.alloc (.cells #[.int .i64 W, .int .i64 H, .slice a n c] 24))) := ⟨Below.refl _ _⟩
  have HTR : Hk (∀ X, Below (w.heap.size + 1) (w.alloc (.cells #[.int .i64 W, .int .i64 H, .slice a n c] 24)) X → Below w.heap.size w X) := ⟨fun X hX => HWB.out.trans (hX.mono (by omega))⟩
  have HBY := Hk.mk (fun (X : World) (hX : Below (w.heap.size + 1) (w.alloc (.cells #[.int .i64 W, .int .i64 H, .slice a n c] 24)) X) => h.below (HTR.out X hX) (Nat.le_refl _))
  have HBQ := Hk.mk (fun (X : World) (hX : Below (w.heap.size + 1) (w.alloc (.cells #[.int .i64 W, .int .i64 H, .slice a n c] 24)) X) => hb0.below (HTR.out X hX) (Nat.le_refl _))
  have HLL := Hk.mk (fun (X : World) (hX : Below (w.heap.size + 1) (w.alloc (.cells #[.int .i64 W, .int .i64 H, .slice a n c] 24)) X) => hL.below (HTR.out X hX) (Nat.le_refl _))
  have HY := Hk.mk h
  have info_b : (Tryd.prog.info? 4).map (fun i => (i.zero, i.size, i.bytes)) = some (some (.bool false), 1, 1) := by kernel_rfl
  obtain ⟨i0, hi, hz0, hz1, hz2⟩ := info_parts info_b
  clear info_b h hb0 hL
  have hn16 : n ≤ 16384 := by have := MM.out.g.nn; have := mul_bd MM.out.g.w1 MM.out.g.w2 MM.out.g.h1 MM.out.g.h2; omega
  have d1 : decide ((cl : Int) < 0) = false := by simp
  have d2 : decide ((2 : Int) < (cl : Int)) = false := by simp; omega
  go_enter Tryd.func78, Tryd.ntmps78
  go_wp2_with (first | (go_at_call 107; (with_reducible refine (cov_yes W H a n c xs la ln lc bs _ ?_ ?_ hn hln MM).mono ?_); (exact (HBY.out _ HB.out).mono (hsz1 HB.out)); (exact (HBQ.out _ HB.out).mono (hsz1 HB.out)); rintro e z1 ⟨g1, rfl, hg1, hA1, hb⟩; have HG1 : Hk (w.heap.size + 1 ≤ g1) := ⟨Nat.le_trans (kw_size HB.out hNW) hg1⟩; have HA1 := Hk.mk hA1; clear hA1 hg1; replace HB := Hk.mk (kw_step HB.out hNW hb); clear hb; obtain ⟨hc, hf, hl, hn', hm⟩ := kw_rules HB.out hNW) | (go_at_call 108; (with_reducible refine (terr_any cl _ ?_ hc3).mono ?_); (exact HLL.out _ HB.out); rintro e z2 ⟨rfl, hb⟩; replace HA1 := Hk.mk (HA1.out.later hb); replace HB := Hk.mk (kw_step HB.out hNW hb); clear hb; clear hc hf hl hn' hm) | (at_make; go_must (refine wpList_make_full _ rfl _ _ 31 rfl (w.heap.size + 1) 4 i0 (.bool false) 1 Tryd.underlying31 hi hz0 hz1 .i64 .i64 _ _ n rfl rfl rfl rfl (by rw [hz2]; omega) (by unfold maxLen; omega) (by have := kw_size HB.out hNW; simp; omega) ?_); intro z4 hown hgrow; have hb := below_grown hgrow; have hG6 := six_box hb; have HG20 : Hk (w.heap.size + 1 ≤ z2.heap.size ∧ g1 < z2.heap.size) := ⟨⟨kw_size HB.out hNW, HA1.out.lt⟩⟩; replace HA1 := Hk.mk ((HA1.out.alloc _).later hb); replace HB := Hk.mk (kw_step (HB.out.alloc (kw_size HB.out hNW) _) hNW hb); have HA2 : Hk (Arr z4 (z2.heap.size + 1) n 4 (fun _ => .bool false)) := (by have h9 := Arr.made hown rfl; simpa using Hk.mk h9);  have HP := Hk.mk (z_of hG6); obtain ⟨-, -, -, -, -, -, hPl⟩ := hG6; obtain ⟨hc, hf, hl, hn', hm⟩ := kw_rules HB.out hNW; clear hb hown hgrow))
  generalize hP0 : z2.heap.size = P at *
  have hP1 : ¬ P = P + 1 := by omega
  have HPb := HP.out
  have hg1P : ¬ g1 = P + 1 := by have := HG20.out; omega
  have hwP : ¬ w.heap.size = P + 1 := by have := HG20.out; omega
  have hg1l := HA1.out.lt
  have hwl : w.heap.size < z4.heap.size := by have := HB.out.size; simp at this; omega
  clear hc hf hl hn' hm HPb
  go_loopw [38] (fun i wr => ∃ k : Nat, i = .int .i64 k ∧ k ≤ n ∧ Hk (Fr (fun q => q = P + 1) z4 wr) ∧ Hk (Arr wr (P + 1) n 4 (fun j => .bool (if j < k then opn W xs bs cl j else false)))) (fun i _ => n - (intOf i).toNat)
  case atStart => exact ⟨0, rfl, Nat.zero_le _, ⟨Fr.refl _ _⟩, ⟨HA2.out.congr fun j _ => by rw [if_neg (by omega)]⟩⟩
  case round =>
    clear HA2
    obtain ⟨k, rfl, hk, HF, HA2⟩ := hrel
    obtain ⟨kc, kf, kl, kn, km⟩ := fr_rules HF.out
    by_cases hlt : k < n
    · obtain ⟨bb, off, rfl, hbl, hcc⟩ := HY.out.at_ (by omega)
      have hY4 : By z4 w.heap.size (some ⟨bb, off, none⟩) n xs := HBY.out _ HB.out
      obtain ⟨b2, off2, e2, -, hc4⟩ := hY4.at_ (by omega)
      obtain ⟨rfl, rfl⟩ : b2 = bb ∧ off2 = off := by
        injection e2 with h9
        injection h9 with h7 h8
        exact ⟨h7.symm, h8.symm⟩
      have p0 := hc4 k hlt
      have hx := HY.out.bd hlt
      have hmem := MM.out.g.ts (xs.getD k 0) (getD_mem (by rw [HY.out.len]; exact hlt))
      obtain ⟨x, hxx⟩ : ∃ x : Nat, xs.getD k 0 = x := ⟨(xs.getD k 0).toNat, by omega⟩
      rw [hxx] at p0 hx hmem
      have HX := Hk.mk hxx
      have hbz : b2 < z4.heap.size := by omega
      have hbP : ¬ b2 = P + 1 := by have := HG20.out; omega
      have x0 : (0 : Int) ≤ (x : Int) := by omega
      have x1 : (x : Int) < 6 := by omega
      have c0 := HP.out x (by omega)
      have v0 := HA1.out.cell hlt
      have a0 := HA2.out.cell hlt
      have az := HA2.out.frozen k
      rw [if_neg (by omega)] at a0
      have t0 : (0 : Int) ≤ (k : Int) := by omega
      have t1 : (k : Int) < (n : Int) := by omega
      have HO : Hk (opn W xs bs cl k = (opB cl x && !(cvB W bs k))) := ⟨by unfold opn; rw [HX.out]; simp⟩
      obtain ⟨q1, hq1⟩ : ∃ q1, opB cl x = q1 := ⟨_, rfl⟩
      obtain ⟨q2, hq2⟩ : ∃ q2, cvB W bs k = q2 := ⟨_, rfl⟩
      rw [hq1] at c0 HO
      rw [hq2] at v0 HO
      clear hcc hc4 e2 hY4 hxx hq1 hq2
      cases q1
      all_goals
        go_wp2
        exact ⟨⟨k + 1, by go_num, by omega, ⟨HF.out.setCell (p := ⟨P + 1, k, none⟩) (fun _ => rfl) _⟩, ⟨(HA2.out.set hlt _).congr fun j hj => by
          by_cases e : j = k
          · subst e; rw [if_pos rfl, if_pos (by omega), HO.out]; rfl
          · rw [if_neg e]
            by_cases e2 : j < k
            · rw [if_pos e2, if_pos (by omega)]
            · rw [if_neg e2, if_neg (by omega)]⟩⟩, by simp [intOf]; omega⟩
    · have hkn : k = n := by omega
      subst hkn
      go_wp2
      go_ret2
      exact ⟨P + 1, rfl, by have := HG20.out; omega, HA2.out.congr fun j hj => by rw [if_pos hj], HTR.out _ (frb HB.out hNW HF.out (by have := HG20.out; omega))⟩
end Go.Proofs.YthabjihpjdlmoaaDoor
/- Layer 9: the reference's Open; slices of tests compared, and written over. -/
namespace Go.Proofs.YthabjihpjdlmoaaDoor
open Go.RowKit
set_option linter.unusedVariables false
set_option linter.unusedSimpArgs false
set_option maxRecDepth 100000 in
set_option maxHeartbeats 800000 in
theorem ropen_any (W H : Int) (a : Option Addr) (n c : Nat) (xs : List Int) (la : Option Addr) (ln lc : Nat) (bs : List Bd) (w : World) (h : By w w.heap.size a n xs) (hb0 : Bq w w.heap.size la ln bs) (cl : Nat) (hc3 : cl < 3) (MM : Hk (MOk W H n xs bs)) :
    Calls Tryd.prog 77 #[.agg #[.int .i64 W, .int .i64 H, .slice a n c], .slice la ln lc, .int .i64 cl] w fun e w' => ∃ g, e = .returned (.slice (some ⟨g, 0, none⟩) n n) ∧ w.heap.size ≤ g ∧ Arr w' g n 4 (fun k => .bool (opn W xs bs cl k)) ∧ Below w.heap.size w w' := by
  have HWB : Hk (Below w.heap.size w (w.alloc (.cells #[.int .i64 W, .int .i64 H, .slice a n c] 24))) := ⟨(Below.refl _ _).alloc (Nat.le_refl _) _⟩
  have hNW : w.heap.size + 1 ≤ (w.alloc (.cells #[.int .i64 W, .int .i64 H, .slice a n c] 24)).heap.size := by simp
  have HB : Hk (Below (w.heap.size + 1) (w.alloc (.cells #[.int .i64 W, .int .i64 H, .slice a n c] 24)) (w.alloc (.cells #[.int .i64 W, .int .i64 H, .slice a n c] 24))) := ⟨Below.refl _ _⟩
  have HTR : Hk (∀ X, Below (w.heap.size + 1) (w.alloc (.cells #[.int .i64 W, .int .i64 H, .slice a n c] 24)) X → Below w.heap.size w X) := ⟨fun X hX => HWB.out.trans (hX.mono (by omega))⟩
  have HBY := Hk.mk (fun (X : World) (hX : Below (w.heap.size + 1) (w.alloc (.cells #[.int .i64 W, .int .i64 H, .slice a n c] 24)) X) => h.below (HTR.out X hX) (Nat.le_refl _))
  have HBQ := Hk.mk (fun (X : World) (hX : Below (w.heap.size + 1) (w.alloc (.cells #[.int .i64 W, .int .i64 H, .slice a n c] 24)) X) => hb0.below (HTR.out X hX) (Nat.le_refl _))
  have HY := Hk.mk h
  clear h hb0
  have hn16 : n ≤ 16384 := by have := MM.out.g.nn; have := mul_bd MM.out.g.w1 MM.out.g.w2 MM.out.g.h1 MM.out.g.h2; omega
  go_enter Tryd.func77, Tryd.ntmps77
  go_wp2_with (go_at_call 106; (with_reducible refine (rcov_any W H a n c xs la ln lc bs _ ?_ MM).mono ?_); (exact (HBQ.out _ HB.out).mono (hsz1 HB.out)); rintro e z1 ⟨g1, rfl, hg1, hA1, hb⟩; have HG1 : Hk (w.heap.size + 1 ≤ g1) := ⟨Nat.le_trans (kw_size HB.out hNW) hg1⟩; have HA1 := Hk.mk hA1; clear hA1 hg1; replace HB := Hk.mk (kw_step HB.out hNW hb); clear hb)
  go_loopw [8] (fun i wr => ∃ k : Nat, i = .int .i64 k ∧ k ≤ n ∧ Hk (Below (w.heap.size + 1) (w.alloc (.cells #[.int .i64 W, .int .i64 H, .slice a n c] 24)) wr) ∧ Hk (Arr wr g1 n 4 (fun j => .bool (if j < k then opn W xs bs cl j else cvB W bs j)))) (fun i _ => n - (intOf i).toNat)
  case atStart => exact ⟨0, rfl, Nat.zero_le _, HB, ⟨HA1.out.congr fun j _ => by rw [if_neg (by omega)]⟩⟩
  case round =>
    clear HA1 HB
    obtain ⟨k, rfl, hk, HB, HA1⟩ := hrel
    obtain ⟨hc, hf, hl, hn', hm⟩ := kw_rules HB.out hNW
    by_cases hlt : k < n
    · obtain ⟨bb, off, rfl, hbl, hcc⟩ := HY.out.at_ (by omega)
      have hbw : bb < w.heap.size + 1 := by omega
      have p0 := hcc k hlt
      have hx := HY.out.bd hlt
      have hmem := MM.out.g.ts (xs.getD k 0) (getD_mem (by rw [HY.out.len]; exact hlt))
      obtain ⟨x, hxx⟩ : ∃ x : Nat, xs.getD k 0 = x := ⟨(xs.getD k 0).toNat, by omega⟩
      rw [hxx] at p0 hx hmem
      have HX := Hk.mk hxx
      have v0 := HA1.out.cell hlt
      have az := HA1.out.frozen k
      rw [if_neg (by omega)] at v0
      have t0 : (0 : Int) ≤ (k : Int) := by omega
      have t1 : (k : Int) < (n : Int) := by omega
      have HO : Hk (opn W xs bs cl k = (opB cl x && !(cvB W bs k))) := ⟨by unfold opn; rw [HX.out]; simp⟩
      obtain ⟨r, hr⟩ : ∃ r, ctS cl x = r := ⟨_, rfl⟩
      have HR := Hk.mk hr
      have HO2 : Hk (opB cl x = decide (0 < r)) := ⟨by rw [opB_iff, hr]⟩
      obtain ⟨q2, hq2⟩ : ∃ q2, cvB W bs k = q2 := ⟨_, rfl⟩
      rw [hq2] at v0 HO
      clear hcc hxx hq2 hr
      have hf1 := HA1.out
      cases q2
      case true =>
        go_wp2
        exact ⟨⟨k + 1, by go_num, by omega, ⟨bset HB.out k HG1.out _⟩, ⟨(hf1.set hlt _).congr fun j hj => by
          by_cases e : j = k
          · subst e; rw [if_pos rfl, if_pos (by omega), HO.out]; simp
          · rw [if_neg e]
            by_cases e2 : j < k
            · rw [if_pos e2, if_pos (by omega)]
            · rw [if_neg e2, if_neg (by omega)]⟩⟩, by simp [intOf]; omega⟩
      case false =>
        go_wp2_with (go_at_call 61; (with_reducible refine (rcostC_as cl x _ _ r _ hc3 (by omega) ⟨rfl⟩ ⟨rfl⟩ HR).mono ?_); rintro e z2 ⟨rfl, hb⟩; replace HA1 := Hk.mk (HA1.out.later hb); clear v0 az; have v0 := HA1.out.cell hlt; have az := HA1.out.frozen k; replace HB := Hk.mk (kw_step HB.out hNW hb); clear hb; clear hc hf hl hn' hm; obtain ⟨hc, hf, hl, hn', hm⟩ := kw_rules HB.out hNW)
        exact ⟨⟨k + 1, by go_num, by omega, ⟨bset HB.out k HG1.out _⟩, ⟨(HA1.out.set hlt _).congr fun j hj => by
          by_cases e : j = k
          · subst e; rw [if_pos rfl, if_pos (by omega), HO.out, HO2.out]; simp
          · rw [if_neg e]
            by_cases e2 : j < k
            · rw [if_pos e2, if_pos (by omega)]
            · rw [if_neg e2, if_neg (by omega)]⟩⟩, by simp [intOf]; omega⟩
    · have hkn : k = n := by omega
      subst hkn
      go_wp2
      go_ret
      exact ⟨g1, rfl, by have := HG1.out; omega, HA1.out.congr fun j hj => by rw [if_pos hj], HTR.out _ HB.out⟩
end Go.Proofs.YthabjihpjdlmoaaDoor
/- Layer 9, plain: how much room there is; by two walks over the tiles, by taking away again and again. -/
namespace Go.Proofs.YthabjihpjdlmoaaDoor
set_option linter.unusedVariables false
/-- All within r - 1 steps. -/
def sqB (op : Int → Int → Bool) : Nat → Int → Int → Bool
  | 0, _, _ => true
  | r + 1, x, y => op x y && sqB op r (x - 1) (y - 1) && sqB op r x (y - 1) && sqB op r (x + 1) (y - 1) && sqB op r (x - 1) y && sqB op r x y && sqB op r (x + 1) y && sqB op r (x - 1) (y + 1) && sqB op r x (y + 1) && sqB op r (x + 1) (y + 1)
/-- What lies above and left. -/
def fqB (op : Int → Int → Bool) : Nat → Int → Int → Bool
  | 0, _, _ => true
  | r + 1, x, y => op x y && fqB op r (x - 1) y && fqB op r (x - 1) (y - 1) && fqB op r x (y - 1) && fqB op r (x + 1) (y - 1)
/-- And what lies below and right. -/
def bqB (op : Int → Int → Bool) : Nat → Int → Int → Bool
  | 0, _, _ => true
  | r + 1, x, y => fqB op (r + 1) x y && bqB op r (x + 1) y && bqB op r (x + 1) (y + 1) && bqB op r x (y + 1) && bqB op r (x - 1) (y + 1)
theorem sq_iff (op : Int → Int → Bool) : ∀ (r : Nat) (x y : Int), sqB op (r + 1) x y = true ↔ ∀ i j : Int, -(r : Int) ≤ i → i ≤ r → -(r : Int) ≤ j → j ≤ r → op (x + i) (y + j) = true
  | 0, x, y => by
    simp only [sqB, Bool.and_true]
    constructor
    · intro h i j h1 h2 h3 h4
      obtain rfl : i = 0 := by simp at h1 h2; omega
      obtain rfl : j = 0 := by simp at h3 h4; omega
      simpa using h
    · intro h
      have := h 0 0 (by simp) (by simp) (by simp) (by simp)
      simpa using this
  | r + 1, x, y => by
    rw [sqB]
    simp only [Bool.and_eq_true, sq_iff op r]
    constructor
    · rintro ⟨⟨⟨⟨⟨⟨⟨⟨⟨h0, h1⟩, h2⟩, h3⟩, h4⟩, h5⟩, h6⟩, h7⟩, h8⟩, h9⟩ i j i1 i2 j1 j2
      have cut : ∀ a b : Int, (a = -1 ∨ a = 0 ∨ a = 1) → (b = -1 ∨ b = 0 ∨ b = 1) → -(r : Int) ≤ i - a → i - a ≤ r → -(r : Int) ≤ j - b → j - b ≤ r → op (x + i) (y + j) = true := by
        intro a b ha hb q1 q2 q3 q4
        rcases ha with rfl | rfl | rfl <;> rcases hb with rfl | rfl | rfl
        · have := h1 (i - -1) (j - -1) q1 q2 q3 q4
          rw [show x - 1 + (i - -1) = x + i by omega, show y - 1 + (j - -1) = y + j by omega] at this
          exact this
        · have := h4 (i - -1) (j - 0) q1 q2 q3 q4
          rw [show x - 1 + (i - -1) = x + i by omega, show y + (j - 0) = y + j by omega] at this
          exact this
        · have := h7 (i - -1) (j - 1) q1 q2 q3 q4
          rw [show x - 1 + (i - -1) = x + i by omega, show y + 1 + (j - 1) = y + j by omega] at this
          exact this
        · have := h2 (i - 0) (j - -1) q1 q2 q3 q4
          rw [show x + (i - 0) = x + i by omega, show y - 1 + (j - -1) = y + j by omega] at this
          exact this
        · have := h5 (i - 0) (j - 0) q1 q2 q3 q4
          rw [show x + (i - 0) = x + i by omega, show y + (j - 0) = y + j by omega] at this
          exact this
        · have := h8 (i - 0) (j - 1) q1 q2 q3 q4
          rw [show x + (i - 0) = x + i by omega, show y + 1 + (j - 1) = y + j by omega] at this
          exact this
        · have := h3 (i - 1) (j - -1) q1 q2 q3 q4
          rw [show x + 1 + (i - 1) = x + i by omega, show y - 1 + (j - -1) = y + j by omega] at this
          exact this
        · have := h6 (i - 1) (j - 0) q1 q2 q3 q4
          rw [show x + 1 + (i - 1) = x + i by omega, show y + (j - 0) = y + j by omega] at this
          exact this
        · have := h9 (i - 1) (j - 1) q1 q2 q3 q4
          rw [show x + 1 + (i - 1) = x + i by omega, show y + 1 + (j - 1) = y + j by omega] at this
          exact this
      push_cast at i1 i2 j1 j2
      have ha : ∃ a : Int, (a = -1 ∨ a = 0 ∨ a = 1) ∧ -(r : Int) ≤ i - a ∧ i - a ≤ r := by
        rcases Int.lt_trichotomy i 0 with h | h | h
        · exact ⟨-1, Or.inl rfl, by omega, by omega⟩
        · exact ⟨0, Or.inr (Or.inl rfl), by omega, by omega⟩
        · exact ⟨1, Or.inr (Or.inr rfl), by omega, by omega⟩
      have hb : ∃ a : Int, (a = -1 ∨ a = 0 ∨ a = 1) ∧ -(r : Int) ≤ j - a ∧ j - a ≤ r := by
        rcases Int.lt_trichotomy j 0 with h | h | h
        · exact ⟨-1, Or.inl rfl, by omega, by omega⟩
        · exact ⟨0, Or.inr (Or.inl rfl), by omega, by omega⟩
        · exact ⟨1, Or.inr (Or.inr rfl), by omega, by omega⟩
      obtain ⟨a, ha, a1, a2⟩ := ha
      obtain ⟨b, hb, b1, b2⟩ := hb
      exact cut a b ha hb a1 a2 b1 b2
    · intro h
      have go : ∀ a b : Int, -1 ≤ a → a ≤ 1 → -1 ≤ b → b ≤ 1 → ∀ i j : Int, -(r : Int) ≤ i → i ≤ r → -(r : Int) ≤ j → j ≤ r → op (x + a + i) (y + b + j) = true := by
        intro a b a1 a2 b1 b2 i j q1 q2 q3 q4
        have := h (a + i) (b + j) (by push_cast; omega) (by push_cast; omega) (by push_cast; omega) (by push_cast; omega)
        rw [← Int.add_assoc, ← Int.add_assoc] at this
        exact this
      have s : ∀ z : Int, z - 1 = z + -1 := fun z => by omega
      have z0 : ∀ z : Int, z + 0 = z := fun z => by omega
      have k := fun a b a1 a2 b1 b2 => go a b a1 a2 b1 b2
      refine ⟨⟨⟨⟨⟨⟨⟨⟨⟨?_, ?_⟩, ?_⟩, ?_⟩, ?_⟩, ?_⟩, ?_⟩, ?_⟩, ?_⟩, ?_⟩
      · have := h 0 0 (by push_cast; omega) (by push_cast; omega) (by push_cast; omega) (by push_cast; omega)
        simpa using this
      · rw [s x, s y]; exact k (-1) (-1) (by omega) (by omega) (by omega) (by omega)
      · rw [s y]; have := k 0 (-1) (by omega) (by omega) (by omega) (by omega); rw [z0] at this; exact this
      · rw [s y]; exact k 1 (-1) (by omega) (by omega) (by omega) (by omega)
      · rw [s x]; have := k (-1) 0 (by omega) (by omega) (by omega) (by omega); rw [z0] at this; exact this
      · have := k 0 0 (by omega) (by omega) (by omega) (by omega); rw [z0, z0] at this; exact this
      · have := k 1 0 (by omega) (by omega) (by omega) (by omega); rw [z0] at this; exact this
      · rw [s x]; exact k (-1) 1 (by omega) (by omega) (by omega) (by omega)
      · have := k 0 1 (by omega) (by omega) (by omega) (by omega); rw [z0] at this; exact this
      · exact k 1 1 (by omega) (by omega) (by omega) (by omega)
theorem fq_op {op : Int → Int → Bool} : ∀ (r : Nat) (x y : Int), fqB op (r + 1) x y = true → ∀ i j : Int, 0 ≤ j → j ≤ r → -(r : Int) ≤ i → i ≤ j → op (x + i) (y - j) = true
  | 0, x, y, h, i, j, j0, j1, i1, i2 => by
    simp only [fqB, Bool.and_true] at h
    obtain rfl : j = 0 := by simp at j1; omega
    obtain rfl : i = 0 := by simp at i1; omega
    simpa using h
  | r + 1, x, y, h, i, j, j0, j1, i1, i2 => by
    rw [fqB] at h
    simp only [Bool.and_eq_true] at h
    obtain ⟨⟨⟨⟨h0, h1⟩, h2⟩, h3⟩, h4⟩ := h
    push_cast at j1 i1
    rcases Int.lt_trichotomy j 0 with hj | hj | hj
    · omega
    · subst hj
      by_cases hi : i = 0
      · subst hi; simpa using h0
      · have := fq_op r (x - 1) y h1 (i + 1) 0 (by omega) (by omega) (by omega) (by omega)
        rw [show x - 1 + (i + 1) = x + i by omega] at this
        exact this
    · rcases Int.lt_trichotomy i 0 with hi | hi | hi
      · have := fq_op r (x - 1) (y - 1) h2 (i + 1) (j - 1) (by omega) (by omega) (by omega) (by omega)
        rw [show x - 1 + (i + 1) = x + i by omega, show y - 1 - (j - 1) = y - j by omega] at this
        exact this
      · have := fq_op r x (y - 1) h3 i (j - 1) (by omega) (by omega) (by omega) (by omega)
        rw [show y - 1 - (j - 1) = y - j by omega] at this
        exact this
      · have := fq_op r (x + 1) (y - 1) h4 (i - 1) (j - 1) (by omega) (by omega) (by omega) (by omega)
        rw [show x + 1 + (i - 1) = x + i by omega, show y - 1 - (j - 1) = y - j by omega] at this
        exact this
theorem bq_op {op : Int → Int → Bool} : ∀ (r : Nat) (x y : Int), bqB op (r + 1) x y = true → ∀ i j : Int, -(r : Int) ≤ i → i ≤ r → -(r : Int) ≤ j → j ≤ r → op (x + i) (y + j) = true
  | 0, x, y, h, i, j, i1, i2, j1, j2 => by
    simp only [bqB, fqB, Bool.and_true] at h
    obtain rfl : j = 0 := by simp at j1 j2; omega
    obtain rfl : i = 0 := by simp at i1 i2; omega
    simpa using h
  | r + 1, x, y, h, i, j, i1, i2, j1, j2 => by
    rw [bqB] at h
    simp only [Bool.and_eq_true] at h
    obtain ⟨⟨⟨⟨h0, h1⟩, h2⟩, h3⟩, h4⟩ := h
    push_cast at i1 i2 j1 j2
    by_cases hj : 0 < j
    · rcases Int.lt_trichotomy i 0 with hi | hi | hi
      · have := bq_op r (x - 1) (y + 1) h4 (i + 1) (j - 1) (by omega) (by omega) (by omega) (by omega)
        rw [show x - 1 + (i + 1) = x + i by omega, show y + 1 + (j - 1) = y + j by omega] at this
        exact this
      · have := bq_op r x (y + 1) h3 i (j - 1) (by omega) (by omega) (by omega) (by omega)
        rw [show y + 1 + (j - 1) = y + j by omega] at this
        exact this
      · have := bq_op r (x + 1) (y + 1) h2 (i - 1) (j - 1) (by omega) (by omega) (by omega) (by omega)
        rw [show x + 1 + (i - 1) = x + i by omega, show y + 1 + (j - 1) = y + j by omega] at this
        exact this
    · by_cases hi : i ≤ -j
      · have := fq_op (r + 1) x y h0 i (-j) (by omega) (by push_cast; omega) (by push_cast; omega) (by omega)
        rw [show y - -j = y + j by omega] at this
        exact this
      · have := bq_op r (x + 1) y h1 (i - 1) j (by omega) (by omega) (by omega) (by omega)
        rw [show x + 1 + (i - 1) = x + i by omega] at this
        exact this
theorem sq_fq {op : Int → Int → Bool} : ∀ (r : Nat) (x y : Int), sqB op r x y = true → fqB op r x y = true
  | 0, _, _, _ => rfl
  | r + 1, x, y, h => by
    rw [sqB] at h
    simp only [Bool.and_eq_true] at h
    obtain ⟨⟨⟨⟨⟨⟨⟨⟨⟨h0, h1⟩, h2⟩, h3⟩, h4⟩, h5⟩, h6⟩, h7⟩, h8⟩, h9⟩ := h
    rw [fqB]
    simp only [Bool.and_eq_true]
    exact ⟨⟨⟨⟨h0, sq_fq r _ _ h4⟩, sq_fq r _ _ h1⟩, sq_fq r _ _ h2⟩, sq_fq r _ _ h3⟩
theorem sq_bq {op : Int → Int → Bool} : ∀ (r : Nat) (x y : Int), sqB op r x y = true → bqB op r x y = true
  | 0, _, _, _ => rfl
  | r + 1, x, y, h => by
    have hf := sq_fq (r + 1) x y h
    rw [sqB] at h
    simp only [Bool.and_eq_true] at h
    obtain ⟨⟨⟨⟨⟨⟨⟨⟨⟨h0, h1⟩, h2⟩, h3⟩, h4⟩, h5⟩, h6⟩, h7⟩, h8⟩, h9⟩ := h
    rw [bqB]
    simp only [Bool.and_eq_true]
    exact ⟨⟨⟨⟨hf, sq_bq r _ _ h6⟩, sq_bq r _ _ h9⟩, sq_bq r _ _ h8⟩, sq_bq r _ _ h7⟩
theorem bq_sq (op : Int → Int → Bool) (r : Nat) (x y : Int) : bqB op r x y = sqB op r x y := by
  rw [Bool.eq_iff_iff]
  refine ⟨fun h => ?_, sq_bq r x y⟩
  match r, h with
  | 0, _ => rfl
  | r + 1, h => exact (sq_iff op r x y).2 fun i j a b c d => bq_op r x y h i j a b c d
end Go.Proofs.YthabjihpjdlmoaaDoor
/- Layer 9, plain: how much room there is, as a number. -/
namespace Go.Proofs.YthabjihpjdlmoaaDoor
set_option linter.unusedVariables false
/-- The greatest r up to k with q r. -/
def grt (q : Nat → Bool) : Nat → Nat
  | 0 => 0
  | k + 1 => if q (k + 1) then k + 1 else grt q k
theorem grt_iff {q : Nat → Bool} (h0 : q 0 = true) (ha : ∀ r, q (r + 1) = true → q r = true) : ∀ (k r : Nat), r ≤ grt q k ↔ r ≤ k ∧ q r = true
  | 0, r => by
    unfold grt
    constructor
    · intro h; obtain rfl : r = 0 := by omega
      exact ⟨by omega, h0⟩
    · exact fun h => h.1
  | k + 1, r => by
    have hd : ∀ d r : Nat, q (r + d) = true → q r = true := by
      intro d
      induction d with
      | zero => intro r h; exact h
      | succ d ih => intro r h; exact ih r (ha (r + d) h)
    unfold grt
    split
    · rename_i hq
      constructor
      · intro h
        refine ⟨h, ?_⟩
        obtain ⟨d, e⟩ : ∃ d, k + 1 = r + d := ⟨k + 1 - r, by omega⟩
        rw [e] at hq
        exact hd d r hq
      · exact fun h => h.1
    · rename_i hq
      rw [grt_iff h0 ha k r]
      constructor
      · exact fun h => ⟨by omega, h.2⟩
      · rintro ⟨h1, h2⟩
        refine ⟨?_, h2⟩
        rcases Nat.lt_or_ge r (k + 1) with h | h
        · omega
        · obtain rfl : r = k + 1 := by omega
          exact absurd h2 hq
theorem fq_anti {op : Int → Int → Bool} : ∀ (r : Nat) (x y : Int), fqB op (r + 1) x y = true → fqB op r x y = true
  | 0, _, _, _ => rfl
  | r + 1, x, y, h => by
    rw [fqB] at h ⊢
    simp only [Bool.and_eq_true] at h ⊢
    obtain ⟨⟨⟨⟨h0, h1⟩, h2⟩, h3⟩, h4⟩ := h
    exact ⟨⟨⟨⟨h0, fq_anti r _ _ h1⟩, fq_anti r _ _ h2⟩, fq_anti r _ _ h3⟩, fq_anti r _ _ h4⟩
theorem sq_anti {op : Int → Int → Bool} (r : Nat) (x y : Int) (h : sqB op (r + 1) x y = true) : sqB op r x y = true := by
  match r, h with
  | 0, _ => rfl
  | r + 1, h =>
    rw [sq_iff] at h ⊢
    exact fun i j a b c d => h i j (by push_cast; omega) (by push_cast; omega) (by push_cast; omega) (by push_cast; omega)
/-- The tiles of a ground as a plane: nothing beside it. -/
def opXY (W H : Int) (f : Nat → Bool) (x y : Int) : Bool := decide (0 ≤ x ∧ x < W ∧ 0 ≤ y ∧ y < H) && f (x + W * y).toNat
theorem opXY_in {W H : Int} {f : Nat → Bool} {x y : Int} (h : opXY W H f x y = true) : 0 ≤ x ∧ x < W ∧ 0 ≤ y ∧ y < H := by
  unfold opXY at h; simp at h; exact ⟨h.1.1, h.1.2.1, h.1.2.2.1, h.1.2.2.2⟩
theorem fq_bd {W H : Int} {f : Nat → Bool} (hW : W ≤ 128) {r : Nat} {x y : Int} (h : fqB (opXY W H f) r x y = true) : r ≤ 128 := by
  match r, h with
  | 0, _ => omega
  | r + 1, h =>
    have a := opXY_in (fq_op r x y h 0 0 (by omega) (by omega) (by omega) (by omega))
    have b := opXY_in (fq_op r x y h (-(r : Int)) 0 (by omega) (by omega) (by omega) (by omega))
    omega
/-- Room above and left; room at all sides. -/
def fV (W H : Int) (f : Nat → Bool) (x y : Int) : Nat := grt (fun r => fqB (opXY W H f) r x y) 128
def sV (W H : Int) (f : Nat → Bool) (x y : Int) : Nat := grt (fun r => sqB (opXY W H f) r x y) 128
theorem fV_iff {W H : Int} {f : Nat → Bool} (hW : W ≤ 128) (x y : Int) (r : Nat) : r ≤ fV W H f x y ↔ fqB (opXY W H f) r x y = true := by
  unfold fV
  rw [grt_iff rfl (fun r h => fq_anti r x y h)]
  exact ⟨fun h => h.2, fun h => ⟨fq_bd hW h, h⟩⟩
theorem sV_iff {W H : Int} {f : Nat → Bool} (hW : W ≤ 128) (x y : Int) (r : Nat) : r ≤ sV W H f x y ↔ sqB (opXY W H f) r x y = true := by
  unfold sV
  rw [grt_iff rfl (fun r h => sq_anti r x y h)]
  exact ⟨fun h => h.2, fun h => ⟨fq_bd hW (sq_fq r x y h), h⟩⟩
theorem nat_eq {a b : Nat} (h : ∀ r, r ≤ a ↔ r ≤ b) : a = b := Nat.le_antisymm ((h a).1 (Nat.le_refl _)) ((h b).2 (Nat.le_refl _))
theorem fV_no {W H : Int} {f : Nat → Bool} (hW : W ≤ 128) {x y : Int} (h : opXY W H f x y = false) : fV W H f x y = 0 := by
  have := (fV_iff (f := f) hW (H := H) x y 1)
  rw [fqB, h] at this
  simp at this
  omega
theorem sV_no {W H : Int} {f : Nat → Bool} (hW : W ≤ 128) {x y : Int} (h : opXY W H f x y = false) : sV W H f x y = 0 := by
  have := (sV_iff (f := f) hW (H := H) x y 1)
  rw [sqB, h] at this
  simp at this
  omega
theorem fV_rec {W H : Int} {f : Nat → Bool} (hW : W ≤ 128) {x y : Int} (h : opXY W H f x y = true) :
    fV W H f x y = 1 + min (min (min (fV W H f (x - 1) y) (fV W H f (x - 1) (y - 1))) (fV W H f x (y - 1))) (fV W H f (x + 1) (y - 1)) := by
  refine nat_eq fun r => ?_
  rw [fV_iff hW]
  match r with
  | 0 => simp [fqB]
  | r + 1 =>
    rw [fqB, h]
    simp only [Bool.true_and, Bool.and_eq_true, ← fV_iff hW]
    omega
theorem sV_rec {W H : Int} {f : Nat → Bool} (hW : W ≤ 128) {x y : Int} (h : opXY W H f x y = true) :
    sV W H f x y = min (fV W H f x y) (1 + min (min (min (sV W H f (x + 1) y) (sV W H f (x - 1) (y + 1))) (sV W H f x (y + 1))) (sV W H f (x + 1) (y + 1))) := by
  refine nat_eq fun r => ?_
  rw [sV_iff hW, ← bq_sq]
  match r with
  | 0 => simp [bqB]
  | r + 1 =>
    rw [bqB]
    simp only [bq_sq, Bool.and_eq_true, ← fV_iff hW, ← sV_iff hW]
    omega
theorem fV_le {W H : Int} {f : Nat → Bool} (x y : Int) : fV W H f x y ≤ 128 := by
  unfold fV
  have : ∀ (q : Nat → Bool) k, grt q k ≤ k := by
    intro q k
    induction k with
    | zero => exact Nat.le_refl _
    | succ k ih => unfold grt; split <;> omega
  exact this _ _
theorem sV_le {W H : Int} {f : Nat → Bool} (x y : Int) : sV W H f x y ≤ 128 := by
  unfold sV
  have : ∀ (q : Nat → Bool) k, grt q k ≤ k := by
    intro q k
    induction k with
    | zero => exact Nat.le_refl _
    | succ k ih => unfold grt; split <;> omega
  exact this _ _
end Go.Proofs.YthabjihpjdlmoaaDoor
