import Derived.Deep.QuietTactic
import Derived.BigQuiet
import Derived.Deep.RegionWith
import Derived.Deep.RegionHeld3
import Derived.Deep.DeepCutAuto
import Derived.Deep.DeepFit
import Derived.Outline
import Derived.Test.YtjjodfdmbiebnaaRd
import Derived.Shelf.Abstract
import Derived.OneCell
import Derived.Laws.Rows
import Derived.Test.YtjjodfdmbiebnaaRa
import Derived.Lib.SliceRun
/- Layer 8: package build's Covered. -/
namespace Go.Proofs.Ytjjodfdmbiebnaa
open Go.RowKit
set_option linter.unusedVariables false
set_option linter.unusedSimpArgs false
/-- What Covered answers. -/
def CovR (w : World) (W H : Int) (n : Nat) (xs : List Int) (bs : List Bd) (e : Ending) (w' : World) : Prop :=
  (MOk W H n xs bs ∧ ∃ g, e = .returned (.tuple #[.slice (some ⟨g, 0, none⟩) n n, .int .i64 0]) ∧ w.heap.size ≤ g ∧ Arr w' g n 4 (fun k => .bool (cvB W bs k)) ∧ Below w.heap.size w w') ∨
  (¬ MOk W H n xs bs ∧ e = .returned (.tuple #[.slice none 0 0, .int .i64 1]) ∧ Below w.heap.size w w')
/-- What is covered when the first buildings, and the first tiles of one more, are in. -/
def covJ (W : Int) (bs : List Bd) (b : Bd) (j : Nat) (k : Nat) : Bool := cvB W bs k || decide ((k : Int) ∈ (undL W b).take j)
theorem covJ_zero (W : Int) (bs : List Bd) (b : Bd) (k : Nat) : covJ W bs b 0 k = cvB W bs k := by unfold covJ; simp
theorem und_take (W : Int) (b : Bd) (j : Nat) (hj : j < b.w.toNat * b.h.toNat) : (undL W b).take (j + 1) = (undL W b).take j ++ [undAt W b j] := by
  rw [List.take_succ_eq_append_getElem (by rw [undL_len]; exact hj)]
  congr 2
  have := undL_getD W b j hj
  rw [List.getD, List.getElem?_eq_getElem (by rw [undL_len]; exact hj)] at this
  simpa using this
theorem covJ_succ (W : Int) (bs : List Bd) (b : Bd) (j k T : Nat) (hj : j < b.w.toNat * b.h.toNat) (hT : undAt W b j = T) : covJ W bs b (j + 1) k = if k = T then true else covJ W bs b j k := by
  unfold covJ
  rw [und_take W b j hj, hT]
  by_cases e : k = T
  · subst e; simp
  · rw [if_neg e]
    congr 1
    simp [List.mem_append]
    intro h
    exact absurd (by omega) e
theorem covJ_full {W H : Int} (bs : List Bd) (b : Bd) (k : Nat) (f : FmOk b) (i : InOk W H b) : covJ W bs b (b.w.toNat * b.h.toNat) k = cvB W (bs ++ [b]) k := by
  unfold covJ
  rw [cvB_snoc, List.take_of_length_le (by rw [undL_len]; exact Nat.le_refl _)]
  congr 1
  rw [Bool.eq_iff_iff, decide_eq_true_iff]
  exact und_mem f i (by omega)
theorem six_box {X Y : World} {p0 p1 p2 p3 p4 p5 : Value} {T : TypeId} (h : Below (X.alloc (.cells #[p0, p1, p2, p3, p4, p5] T)).heap.size (X.alloc (.cells #[p0, p1, p2, p3, p4, p5] T)) Y) : Y.cell? ⟨X.heap.size, 0, none⟩ = some p0 ∧ Y.cell? ⟨X.heap.size, 1, none⟩ = some p1 ∧ Y.cell? ⟨X.heap.size, 2, none⟩ = some p2 ∧ Y.cell? ⟨X.heap.size, 3, none⟩ = some p3 ∧ Y.cell? ⟨X.heap.size, 4, none⟩ = some p4 ∧ Y.cell? ⟨X.heap.size, 5, none⟩ = some p5 ∧ X.heap.size < Y.heap.size :=
  ⟨(h.cell (p := ⟨X.heap.size, 0, none⟩) (by simp)).trans (by go_simp), (h.cell (p := ⟨X.heap.size, 1, none⟩) (by simp)).trans (by go_simp), (h.cell (p := ⟨X.heap.size, 2, none⟩) (by simp)).trans (by go_simp), (h.cell (p := ⟨X.heap.size, 3, none⟩) (by simp)).trans (by go_simp), (h.cell (p := ⟨X.heap.size, 4, none⟩) (by simp)).trans (by go_simp), (h.cell (p := ⟨X.heap.size, 5, none⟩) (by simp)).trans (by go_simp), by have := h.size; simp at this; omega⟩
theorem six_keep {X Y : World} {A : Nat} {p0 p1 p2 p3 p4 p5 : Value} (h : Below X.heap.size X Y) (g : X.cell? ⟨A, 0, none⟩ = some p0 ∧ X.cell? ⟨A, 1, none⟩ = some p1 ∧ X.cell? ⟨A, 2, none⟩ = some p2 ∧ X.cell? ⟨A, 3, none⟩ = some p3 ∧ X.cell? ⟨A, 4, none⟩ = some p4 ∧ X.cell? ⟨A, 5, none⟩ = some p5 ∧ A < X.heap.size) :
    Y.cell? ⟨A, 0, none⟩ = some p0 ∧ Y.cell? ⟨A, 1, none⟩ = some p1 ∧ Y.cell? ⟨A, 2, none⟩ = some p2 ∧ Y.cell? ⟨A, 3, none⟩ = some p3 ∧ Y.cell? ⟨A, 4, none⟩ = some p4 ∧ Y.cell? ⟨A, 5, none⟩ = some p5 ∧ A < Y.heap.size := by
  obtain ⟨h0, h1, h2, h3, h4, h5, h6⟩ := g
  exact ⟨(h.cell (p := ⟨A, 0, none⟩) h6).trans h0, (h.cell (p := ⟨A, 1, none⟩) h6).trans h1, (h.cell (p := ⟨A, 2, none⟩) h6).trans h2, (h.cell (p := ⟨A, 3, none⟩) h6).trans h3, (h.cell (p := ⟨A, 4, none⟩) h6).trans h4, (h.cell (p := ⟨A, 5, none⟩) h6).trans h5, Nat.lt_of_lt_of_le h6 h.size⟩
theorem fr_rules {G : Nat} {Z X : World} (h : Fr (fun j => j = G) Z X) :
    (∀ b o, b < Z.heap.size → ¬ b = G → X.cell? ⟨b, o, none⟩ = Z.cell? ⟨b, o, none⟩) ∧ (∀ b o, b < Z.heap.size → ¬ b = G → X.frozen? ⟨b, o, none⟩ = Z.frozen? ⟨b, o, none⟩) ∧ (∀ b, b < Z.heap.size → b < X.heap.size) ∧ (∀ b, b < Z.heap.size → ¬ b = X.heap.size) ∧ (∀ b, b < Z.heap.size → ¬ X.heap.size = b) := by
  have hs := h.size
  exact ⟨fun b o hb hg => h.cell hb hg, fun b o hb hg => h.frozen hb hg, fun b hb => by omega, fun b hb => by omega, fun b hb => by omega⟩
set_option maxRecDepth 100000 in
set_option maxHeartbeats 1600000 in
theorem cov_any (W H : Int) (a : Option Addr) (n c : Nat) (xs : List Int) (la : Option Addr) (ln lc : Nat) (bs : List Bd) (w : World) (h : By w w.heap.size a n xs) (hb0 : Bq w w.heap.size la ln bs) (hn : n ≤ 140737488355328) (hln : ln ≤ 1099511627776) :
    Calls Try.prog 28 #[.agg #[.int .i64 W, .int .i64 H, .slice a n c], .slice la ln lc] w (CovR w W H n xs bs) := by
  have HWB : Hk (Below w.heap.size w (w.alloc (.cells #[.int .i64 W, .int .i64 H, .slice a n c] 24))) := ⟨(Below.refl _ _).alloc (Nat.le_refl _) _⟩
  have hNW : w.heap.size + 1 ≤ (w.alloc (.cells #[.int .i64 W, .int .i64 H, .slice a n c] 24)).heap.size := by simp
  have HB : Hk (Below (w.heap.size + 1) (w.alloc (.cells #[.int .i64 W, .int .i64 H, .slice a n c] 24)) (w.alloc (.cells #[.int .i64 W, .int .i64 H, .slice a n c] 24))) := ⟨Below.refl _ _⟩
  have HTR : Hk (∀ X, Below (w.heap.size + 1) (w.alloc (.cells #[.int .i64 W, .int .i64 H, .slice a n c] 24)) X → Below w.heap.size w X) := ⟨fun X hX => HWB.out.trans (hX.mono (by omega))⟩
  have HBY := Hk.mk (fun (X : World) (hX : Below (w.heap.size + 1) (w.alloc (.cells #[.int .i64 W, .int .i64 H, .slice a n c] 24)) X) => h.below (HTR.out X hX) (Nat.le_refl _))
  have HBQ := Hk.mk (fun (X : World) (hX : Below (w.heap.size + 1) (w.alloc (.cells #[.int .i64 W, .int .i64 H, .slice a n c] 24)) X) => hb0.below (HTR.out X hX) (Nat.le_refl _))
  have HLN := Hk.mk hb0.len
  have HQ0 := Hk.mk hb0
  clear h hb0
  have info_b : (Try.prog.info? 4).map (fun i => (i.zero, i.size, i.bytes)) = some (some (.bool false), 1, 1) := by kernel_rfl
  obtain ⟨i0, hi, hz0, hz1, hz2⟩ := info_parts info_b
  clear info_b
  by_cases hg : GOk W H n xs
  case neg =>
    have EQ : Hk (gE W H n xs = 1) := ⟨gE_no hg⟩
    have NO : Hk (¬ MOk W H n xs bs) := ⟨fun m => hg m.g⟩
    clear hg
    go_enter Try.func28, Try.ntmps28
    go_wp2_with (go_at_call 71; (with_reducible refine (check_as 1 W H a n c w.heap.size xs _ ?_ ?_ hn EQ).mono ?_); (exact HBY.out _ HB.out); (exact hsz1 HB.out); rintro e z ⟨rfl, hb⟩; replace HB := Hk.mk (kw_step HB.out hNW hb); clear hb; obtain ⟨hc, hf, hl, hn', hm⟩ := kw_rules HB.out hNW)
    go_ret2
    exact Or.inr ⟨NO.out, rfl, HTR.out _ HB.out⟩
  have EQ : Hk (gE W H n xs = 0) := ⟨gE_yes hg⟩
  have HG := Hk.mk hg
  have w1 := hg.w1; have w2 := hg.w2; have h1 := hg.h1; have h2 := hg.h2
  have hnn := hg.nn
  obtain ⟨m1, m2⟩ := mul_bd w1 w2 h1 h2
  clear hg
  by_cases hl256 : 256 < ln
  · have NO : Hk (¬ MOk W H n xs bs) := ⟨fun m => by have := m.len; rw [HLN.out] at this; omega⟩
    have d256 : decide ((256 : Int) < (ln : Int)) = true := by simp; omega
    go_enter Try.func28, Try.ntmps28
    go_wp2_with (go_at_call 71; (with_reducible refine (check_as 0 W H a n c w.heap.size xs _ ?_ ?_ hn EQ).mono ?_); (exact HBY.out _ HB.out); (exact hsz1 HB.out); rintro e z ⟨rfl, hb⟩; replace HB := Hk.mk (kw_step HB.out hNW hb); clear hb; obtain ⟨hc, hf, hl, hn', hm⟩ := kw_rules HB.out hNW)
    go_ret2
    exact Or.inr ⟨NO.out, rfl, HTR.out _ HB.out⟩
  have d256 : decide ((256 : Int) < (ln : Int)) = false := by simp; omega
  by_cases has : ascB bs
  case neg =>
    have EA : Hk (¬ ascB bs) := ⟨has⟩
    have NO : Hk (¬ MOk W H n xs bs) := ⟨fun m => has m.asc⟩
    clear has
    go_enter Try.func28, Try.ntmps28
    go_wp2_with (first | (go_at_call 71; (with_reducible refine (check_as 0 W H a n c w.heap.size xs _ ?_ ?_ hn EQ).mono ?_); (exact HBY.out _ HB.out); (exact hsz1 HB.out); rintro e z ⟨rfl, hb⟩; replace HB := Hk.mk (kw_step HB.out hNW hb); clear hb; obtain ⟨hc, hf, hl, hn', hm⟩ := kw_rules HB.out hNW) | (go_at_call 69; (with_reducible refine (asc8_no la ln lc w.heap.size bs _ ?_ (by omega) EA).mono ?_); (exact HBQ.out _ HB.out); rintro e z ⟨rfl, m, rfl⟩))
    go_ret2
    exact Or.inr ⟨NO.out, rfl, HTR.out _ (below_drewN HB.out _)⟩
  have EA : Hk (ascB bs) := ⟨has⟩
  clear has
  go_enter Try.func28, Try.ntmps28
  go_wp2_with (first | (go_at_call 71; (with_reducible refine (check_as 0 W H a n c w.heap.size xs _ ?_ ?_ hn EQ).mono ?_); (exact HBY.out _ HB.out); (exact hsz1 HB.out); rintro e z ⟨rfl, hb⟩; replace HB := Hk.mk (kw_step HB.out hNW hb); clear hb; obtain ⟨hc, hf, hl, hn', hm⟩ := kw_rules HB.out hNW) | (go_at_call 69; (with_reducible refine (asc8_yes la ln lc w.heap.size bs _ ?_ (by omega) EA).mono ?_); (exact HBQ.out _ HB.out); rintro e z ⟨rfl, m, rfl⟩; replace HB := Hk.mk (below_drewN HB.out m)) | (at_make; go_must (refine wpList_make_full _ rfl _ _ 48 rfl (w.heap.size + 1) 4 i0 (.bool false) 1 Try.underlying48 hi hz0 hz1 .i64 .i64 _ _ n rfl rfl hnn.symm hnn.symm (by rw [hz2]; omega) (by unfold maxLen; omega) (kw_size HB.out hNW) ?_); intro z1 hown hgrow))
  have HA : Hk (Arr z1 z.heap.size n 4 (fun t => .bool (cvB W (bs.take 0) t))) := ⟨Arr.made hown rfl⟩
  have HGN : Hk (w.heap.size + 1 ≤ z.heap.size) := ⟨by have := kw_size HB.out hNW; simpa using this⟩
  replace HB := Hk.mk (HB.out.trans ((below_grown hgrow).mono (kw_size HB.out hNW)))
  clear hown hgrow hc hf hl hn' hm
  generalize z.heap.size = G at *
  go_loopw [32] (fun i wr => ∃ k : Nat, i = .int .i64 k ∧ k ≤ ln ∧ Hk (∀ j, j < k → FmOk (bs.getD j default) ∧ InOk W H (bs.getD j default) ∧ frB W xs (bs.getD j default) = true ∧ ∀ j2, j2 < j → mtB (bs.getD j default) (bs.getD j2 default) = false) ∧ Hk (Below (w.heap.size + 1) (w.alloc (.cells #[.int .i64 W, .int .i64 H, .slice a n c] 24)) wr) ∧ Hk (Arr wr G n 4 (fun t => .bool (cvB W (bs.take k) t)))) (fun i _ => ln - (intOf i).toNat)
  case atStart => exact ⟨0, rfl, Nat.zero_le _, ⟨fun j hj => absurd hj (by omega)⟩, HB, HA⟩
  case round =>
    clear HA HB
    obtain ⟨k, rfl, hk, HJ, HB, HA⟩ := hrel
    obtain ⟨hc, hf, hl, hn', hm⟩ := kw_rules HB.out hNW
    by_cases hlt : k < ln
    · obtain ⟨bb, off, rfl, hbl, p0, p1, p2, p3, p4, p5⟩ := HQ0.out.six hlt
      have hbw2 : bb < w.heap.size + 1 := by omega
      have hmem : bs.getD k default ∈ bs := getD_memB (by rw [HLN.out]; exact hlt)
      have HM : Hk (MOk W H n xs bs → FmOk (bs.getD k default) ∧ InOk W H (bs.getD k default) ∧ frB W xs (bs.getD k default) = true) := ⟨fun m => ⟨m.fm _ hmem, m.ins _ hmem, m.fr _ hmem⟩⟩
      clear hmem
      obtain ⟨b, hbd⟩ : ∃ b, bs.getD k default = b := ⟨_, rfl⟩
      rw [hbd] at p0 p1 p2 p3 p4 p5 HM
      have HBD := Hk.mk hbd
      clear hbd
      have t0 : (0 : Int) ≤ (k : Int) := by omega
      have t1 : (k : Int) < (ln : Int) := by omega
      have HX := Hk.mk (HB.out.alloc (kw_size HB.out hNW) (.cells #[.int .i64 b.i, .int .i64 b.o, .int .i64 b.x, .int .i64 b.y, .int .i64 b.w, .int .i64 b.h] 35))
      cases hq1 : fmB b
      case false =>
        have NO : Hk (¬ MOk W H n xs bs) := ⟨fun m => by have := fmB_iff.2 (HM.out m).1; rw [hq1] at this; cases this⟩
        have Q1 := Hk.mk hq1
        clear hq1
        go_wp2_with (go_at_call 61; (with_reducible refine (formed_as false b _ Q1).mono ?_); rintro e z2 ⟨rfl, hb⟩; clear hc hf hl hn' hm; obtain ⟨g0, g1, g2, g3, g4, g5, g6⟩ := six_box hb; have HG6 := Hk.mk (And.intro g0 (And.intro g1 (And.intro g2 (And.intro g3 (And.intro g4 (And.intro g5 g6)))))); replace HB := Hk.mk (kw_step HX.out hNW hb); obtain ⟨hc, hf, hl, hn', hm⟩ := kw_rules HB.out hNW; have HA2 := Hk.mk ((HA.out.alloc _).later hb); clear hb)
        go_ret2
        exact Or.inr ⟨NO.out, rfl, HTR.out _ HB.out⟩
      case true =>
        have f1 := fmB_iff.1 hq1
        have Q1 := Hk.mk hq1
        have FF := Hk.mk f1
        clear hq1 f1
        cases hq2 : inB W H b
        case false =>
          have NO : Hk (¬ MOk W H n xs bs) := ⟨fun m => by have := inB_iff.2 (HM.out m).2.1; rw [hq2] at this; cases this⟩
          have Q2 := Hk.mk hq2
          clear hq2
          go_wp2_with (first | (go_at_call 61; (with_reducible refine (formed_as true b _ Q1).mono ?_); rintro e z2 ⟨rfl, hb⟩; clear hc hf hl hn' hm; obtain ⟨g0, g1, g2, g3, g4, g5, g6⟩ := six_box hb; have HG6 := Hk.mk (And.intro g0 (And.intro g1 (And.intro g2 (And.intro g3 (And.intro g4 (And.intro g5 g6)))))); replace HB := Hk.mk (kw_step HX.out hNW hb); obtain ⟨hc, hf, hl, hn', hm⟩ := kw_rules HB.out hNW; have HA2 := Hk.mk ((HA.out.alloc _).later hb); clear hb) | (go_at_call 62; (with_reducible refine (inside_as false W H a n c b _ w1 w2 h1 h2 FF.out Q2).mono ?_); rintro e z3 ⟨rfl, hb⟩; replace HA2 := Hk.mk (HA2.out.later hb); clear hc hf hl hn' hm; clear g0 g1 g2 g3 g4 g5 g6; obtain ⟨g0, g1, g2, g3, g4, g5, g6⟩ := six_keep hb HG6.out; replace HG6 := Hk.mk (And.intro g0 (And.intro g1 (And.intro g2 (And.intro g3 (And.intro g4 (And.intro g5 g6)))))); replace HB := Hk.mk (kw_step HB.out hNW hb); clear hb; obtain ⟨hc, hf, hl, hn', hm⟩ := kw_rules HB.out hNW))
          go_ret2
          exact Or.inr ⟨NO.out, rfl, HTR.out _ HB.out⟩
        case true =>
          have i1 := inB_iff.1 hq2
          have Q2 := Hk.mk hq2
          have II := Hk.mk i1
          clear hq2 i1
          cases hq3 : frB W xs b
          case false =>
            have NO : Hk (¬ MOk W H n xs bs) := ⟨fun m => by have := (HM.out m).2.2; rw [hq3] at this; cases this⟩
            have Q3 := Hk.mk hq3
            clear hq3
            go_wp2_with (first | (go_at_call 61; (with_reducible refine (formed_as true b _ Q1).mono ?_); rintro e z2 ⟨rfl, hb⟩; clear hc hf hl hn' hm; obtain ⟨g0, g1, g2, g3, g4, g5, g6⟩ := six_box hb; have HG6 := Hk.mk (And.intro g0 (And.intro g1 (And.intro g2 (And.intro g3 (And.intro g4 (And.intro g5 g6)))))); replace HB := Hk.mk (kw_step HX.out hNW hb); obtain ⟨hc, hf, hl, hn', hm⟩ := kw_rules HB.out hNW; have HA2 := Hk.mk ((HA.out.alloc _).later hb); clear hb) | (go_at_call 62; (with_reducible refine (inside_as true W H a n c b _ w1 w2 h1 h2 FF.out Q2).mono ?_); rintro e z3 ⟨rfl, hb⟩; replace HA2 := Hk.mk (HA2.out.later hb); clear hc hf hl hn' hm; clear g0 g1 g2 g3 g4 g5 g6; obtain ⟨g0, g1, g2, g3, g4, g5, g6⟩ := six_keep hb HG6.out; replace HG6 := Hk.mk (And.intro g0 (And.intro g1 (And.intro g2 (And.intro g3 (And.intro g4 (And.intro g5 g6)))))); replace HB := Hk.mk (kw_step HB.out hNW hb); clear hb; obtain ⟨hc, hf, hl, hn', hm⟩ := kw_rules HB.out hNW) | (go_at_call 66; (with_reducible refine (firm_as false W H a n c w.heap.size xs b _ ?_ ?_ HG.out FF.out II.out Q3).mono ?_); (exact HBY.out _ HB.out); (exact hsz1 HB.out); rintro e z3 ⟨rfl, hb⟩; replace HA2 := Hk.mk (HA2.out.later hb); clear hc hf hl hn' hm; clear g0 g1 g2 g3 g4 g5 g6; obtain ⟨g0, g1, g2, g3, g4, g5, g6⟩ := six_keep hb HG6.out; replace HG6 := Hk.mk (And.intro g0 (And.intro g1 (And.intro g2 (And.intro g3 (And.intro g4 (And.intro g5 g6)))))); replace HB := Hk.mk (kw_step HB.out hNW hb); clear hb; obtain ⟨hc, hf, hl, hn', hm⟩ := kw_rules HB.out hNW))
            go_ret2
            exact Or.inr ⟨NO.out, rfl, HTR.out _ HB.out⟩
          case true =>
            have Q3 := Hk.mk hq3
            have n16 := n16_of FF.out
            obtain ⟨N, hN⟩ : ∃ N, b.w.toNat * b.h.toNat = N := ⟨_, rfl⟩
            rw [hN] at n16
            have HN := Hk.mk hN
            clear hq3 hN
            go_wp2_with (first | (go_at_call 61; (with_reducible refine (formed_as true b _ Q1).mono ?_); rintro e z2 ⟨rfl, hb⟩; clear hc hf hl hn' hm; obtain ⟨g0, g1, g2, g3, g4, g5, g6⟩ := six_box hb; have HG6 := Hk.mk (And.intro g0 (And.intro g1 (And.intro g2 (And.intro g3 (And.intro g4 (And.intro g5 g6)))))); replace HB := Hk.mk (kw_step HX.out hNW hb); obtain ⟨hc, hf, hl, hn', hm⟩ := kw_rules HB.out hNW; have HA2 := Hk.mk ((HA.out.alloc _).later hb); clear hb) | (go_at_call 62; (with_reducible refine (inside_as true W H a n c b _ w1 w2 h1 h2 FF.out Q2).mono ?_); rintro e z3 ⟨rfl, hb⟩; replace HA2 := Hk.mk (HA2.out.later hb); clear hc hf hl hn' hm; clear g0 g1 g2 g3 g4 g5 g6; obtain ⟨g0, g1, g2, g3, g4, g5, g6⟩ := six_keep hb HG6.out; replace HG6 := Hk.mk (And.intro g0 (And.intro g1 (And.intro g2 (And.intro g3 (And.intro g4 (And.intro g5 g6)))))); replace HB := Hk.mk (kw_step HB.out hNW hb); clear hb; obtain ⟨hc, hf, hl, hn', hm⟩ := kw_rules HB.out hNW) | (go_at_call 66; (with_reducible refine (firm_as true W H a n c w.heap.size xs b _ ?_ ?_ HG.out FF.out II.out Q3).mono ?_); (exact HBY.out _ HB.out); (exact hsz1 HB.out); rintro e z3 ⟨rfl, hb⟩; replace HA2 := Hk.mk (HA2.out.later hb); clear hc hf hl hn' hm; clear g0 g1 g2 g3 g4 g5 g6; obtain ⟨g0, g1, g2, g3, g4, g5, g6⟩ := six_keep hb HG6.out; replace HG6 := Hk.mk (And.intro g0 (And.intro g1 (And.intro g2 (And.intro g3 (And.intro g4 (And.intro g5 g6)))))); replace HB := Hk.mk (kw_step HB.out hNW hb); clear hb; obtain ⟨hc, hf, hl, hn', hm⟩ := kw_rules HB.out hNW) | (go_at_call 64; (with_reducible refine (under_as N W H a n c b _ w1 w2 h1 h2 FF.out II.out HN).mono ?_); rintro e z9 ⟨gg, rfl, hg1, hnq, hg2, hb⟩; have hGgg : ¬ gg = G := (by have := HA2.out.lt; omega); replace HA2 := Hk.mk (HA2.out.later hb); have HGG : Hk (w.heap.size + 1 ≤ gg) := ⟨Nat.le_trans (kw_size HB.out hNW) hg1⟩; replace HB := Hk.mk (kw_step HB.out hNW hb); clear hb; have HNQ := Hk.mk hnq; clear hnq g0 g1 g2 g3 g4 g5 g6; clear hc hf hl hn' hm))
            go_loopw [55] (fun i wr => ∃ j : Nat, i = .int .i64 j ∧ j ≤ N ∧ Hk (Fr (fun q => q = G) z9 wr) ∧ Hk (Arr wr G n 4 (fun t => .bool (covJ W (bs.take k) b j t))) ∧ Hk (∀ j2, j2 < j → cvB W (bs.take k) (undAt W b j2) = false)) (fun i _ => N - (intOf i).toNat)
            case atStart => exact ⟨0, rfl, Nat.zero_le _, ⟨Fr.refl _ _⟩, ⟨HA2.out.congr fun t _ => by rw [covJ_zero]⟩, ⟨fun j hj => absurd hj (by omega)⟩⟩
            case round =>
              obtain ⟨j, rfl, hj, HF, HAJ, HNC⟩ := hrel
              obtain ⟨kc, kf, kl, kn, km⟩ := fr_rules HF.out
              by_cases hjt : j < N
              · have hj' : j < b.w.toNat * b.h.toNat := by rw [HN.out]; exact hjt
                have hu := und_md FF.out II.out hj'
                obtain ⟨T, hT⟩ : ∃ T : Nat, undAt W b j = T := ⟨(undAt W b j).toNat, by omega⟩
                have hTn : T < n := by omega
                have p0 : z9.cell? ⟨gg, j, none⟩ = some (.int .i64 T) := by
                  obtain ⟨g', o', e', _, hc'⟩ := HNQ.out.rd (by omega)
                  injection e' with h9
                  injection h9 with h7 h8
                  subst h7 h8
                  have := hc' j hjt
                  rw [undL_getD W b j hj', hT, Nat.zero_add] at this
                  exact this
                have HU := Hk.mk hT
                clear hu hT hj'
                have j0 : (0 : Int) ≤ (j : Int) := by omega
                have j1 : (j : Int) < (N : Int) := by omega
                have T0 : (0 : Int) ≤ (T : Int) := by omega
                have T1 : (T : Int) < (n : Int) := by omega
                have a0 := HAJ.out.cell hTn
                have az := HAJ.out.frozen T
                cases hcv : covJ W (bs.take k) b j T
                case true =>
                  rw [hcv] at a0
                  have NO : Hk (¬ MOk W H n xs bs) := ⟨fun m => by
                    have hj' : j < b.w.toNat * b.h.toNat := by rw [HN.out]; exact hjt
                    have ho := und_once FF.out II.out hj'
                    rw [HU.out] at ho
                    have hcc : cvB W (bs.take k) T = true := by
                      unfold covJ at hcv
                      simpa [ho] using hcv
                    unfold cvB at hcc
                    obtain ⟨b2, hb2, hh2⟩ := List.any_eq_true.1 hcc
                    obtain ⟨q, hq, e⟩ := mem_getDB hb2
                    have hqk : q < k := by simp at hq; omega
                    rw [getD_takeB hqk] at e
                    have hmm := m.ap k q hqk (by rw [HLN.out]; exact hlt)
                    rw [HBD.out, e] at hmm
                    have hhb : hsB W b T = true := (und_mem FF.out II.out (by omega)).1 (by rw [← HU.out]; exact List.mem_map.2 ⟨j, List.mem_range.2 hj', rfl⟩)
                    rw [mt_of hhb hh2] at hmm
                    cases hmm⟩
                  clear hcv
                  go_wp2
                  go_ret2
                  exact Or.inr ⟨NO.out, rfl, HTR.out _ (HB.out.trans (HF.out.below (B := w.heap.size + 1) (kw_size HB.out hNW) (fun q _ e => by subst e; exact HGN.out)))⟩
                case false =>
                  rw [hcv] at a0
                  have HNC2 : Hk (∀ j2, j2 < j + 1 → cvB W (bs.take k) (undAt W b j2) = false) := ⟨fun j2 hj2 => by
                    by_cases e : j2 = j
                    · subst e
                      rw [HU.out]
                      unfold covJ at hcv
                      simpa using (Bool.or_eq_false_iff.1 hcv).1
                    · exact HNC.out j2 (by omega)⟩
                  clear hcv
                  go_wp2
                  exact ⟨⟨j + 1, by go_num, by omega, ⟨HF.out.setCell (p := ⟨G, T, none⟩) (fun _ => rfl) _⟩, ⟨(HAJ.out.set hTn (.bool true)).congr fun t _ => by
                    rw [covJ_succ W (bs.take k) b j t T (by rw [HN.out]; exact hjt) HU.out]
                    by_cases e : t = T
                    · rw [if_pos e, if_pos e]
                    · rw [if_neg e, if_neg e]⟩, HNC2⟩, by simp [intOf]; omega⟩
              · have hjn : j = N := by omega
                subst hjn
                have R : Hk (∀ j2, j2 < k + 1 → FmOk (bs.getD j2 default) ∧ InOk W H (bs.getD j2 default) ∧ frB W xs (bs.getD j2 default) = true ∧ ∀ j3, j3 < j2 → mtB (bs.getD j2 default) (bs.getD j3 default) = false) := ⟨fun j2 hj2 => by
                  by_cases e : j2 = k
                  · subst e
                    rw [HBD.out]
                    refine ⟨FF.out, II.out, Q3.out, fun j3 hj3 => ?_⟩
                    cases hm3 : mtB b (bs.getD j3 default)
                    · rfl
                    · exfalso
                      have h3 := HJ.out j3 hj3
                      rw [mt_comm] at hm3
                      obtain ⟨q, hq, hh⟩ := mt_tile h3.1 h3.2.1 FF.out II.out hm3
                      have := HNC.out q (by rw [← HN.out]; exact hq)
                      unfold cvB at this
                      rw [List.any_eq_false] at this
                      have hmem : bs.getD j3 default ∈ bs.take j2 := by
                        rw [← getD_takeB hj3]
                        exact getD_memB (by rw [List.length_take, HLN.out]; omega)
                      exact this _ hmem hh
                  · exact HJ.out j2 (by omega)⟩
                have HA3 : Hk (Arr wr G n 4 (fun t => .bool (cvB W (bs.take (k + 1)) t))) := ⟨HAJ.out.congr fun t _ => by rw [take_succB (by rw [HLN.out]; exact hlt), HBD.out, ← covJ_full _ b t FF.out II.out, HN.out]⟩
                have HB3 := Hk.mk (HB.out.trans (HF.out.below (B := w.heap.size + 1) (kw_size HB.out hNW) (fun q _ e => by subst e; exact HGN.out)))
                go_wp2
                exact ⟨⟨k + 1, by go_num, by omega, R, HB3, HA3⟩, by simp [intOf]; omega⟩
    · have hkn : k = ln := by omega
      subst hkn
      have YES : Hk (MOk W H n xs bs) := ⟨by
        have mm : ∀ b ∈ bs, ∃ j, j < k ∧ bs.getD j default = b := fun b hb => by
          obtain ⟨j, hj, e⟩ := mem_getDB hb
          exact ⟨j, by rw [← HLN.out]; exact hj, e⟩
        exact ⟨HG.out, by rw [HLN.out]; omega, EA.out, fun b hb => by obtain ⟨j, hj, rfl⟩ := mm b hb; exact (HJ.out j hj).1, fun b hb => by obtain ⟨j, hj, rfl⟩ := mm b hb; exact (HJ.out j hj).2.1, fun b hb => by obtain ⟨j, hj, rfl⟩ := mm b hb; exact (HJ.out j hj).2.2.1, fun i j hji hi => (HJ.out i (by rw [← HLN.out]; exact hi)).2.2.2 j hji⟩⟩
      go_wp2
      go_ret2
      refine Or.inl ⟨YES.out, G, rfl, by have := HGN.out; omega, HA.out.congr fun t _ => ?_, HTR.out _ HB.out⟩
      rw [List.take_of_length_le (by rw [HLN.out]; exact Nat.le_refl _)]
theorem cov_yes (W H : Int) (a : Option Addr) (n c : Nat) (xs : List Int) (la : Option Addr) (ln lc : Nat) (bs : List Bd) (w : World) (h : By w w.heap.size a n xs) (hb0 : Bq w w.heap.size la ln bs) (hn : n ≤ 140737488355328) (hln : ln ≤ 1099511627776) (M : Hk (MOk W H n xs bs)) :
    Calls Try.prog 28 #[.agg #[.int .i64 W, .int .i64 H, .slice a n c], .slice la ln lc] w fun e w' => ∃ g, e = .returned (.tuple #[.slice (some ⟨g, 0, none⟩) n n, .int .i64 0]) ∧ w.heap.size ≤ g ∧ Arr w' g n 4 (fun k => .bool (cvB W bs k)) ∧ Below w.heap.size w w' :=
  (cov_any W H a n c xs la ln lc bs w h hb0 hn hln).mono fun e w' hr => by
    rcases hr with ⟨_, hr⟩ | ⟨hno, _⟩
    · exact hr
    · exact absurd M.out hno
theorem cov_no (W H : Int) (a : Option Addr) (n c : Nat) (xs : List Int) (la : Option Addr) (ln lc : Nat) (bs : List Bd) (w : World) (h : By w w.heap.size a n xs) (hb0 : Bq w w.heap.size la ln bs) (hn : n ≤ 140737488355328) (hln : ln ≤ 1099511627776) (M : Hk (¬ MOk W H n xs bs)) :
    Calls Try.prog 28 #[.agg #[.int .i64 W, .int .i64 H, .slice a n c], .slice la ln lc] w fun e w' => e = .returned (.tuple #[.slice none 0 0, .int .i64 1]) ∧ Below w.heap.size w w' :=
  (cov_any W H a n c xs la ln lc bs w h hb0 hn hln).mono fun e w' hr => by
    rcases hr with ⟨hy, _⟩ | ⟨_, hr⟩
    · exact absurd hy M.out
    · exact hr
end Go.Proofs.Ytjjodfdmbiebnaa
/- Layer 8: the reference's Covered. -/
namespace Go.Proofs.Ytjjodfdmbiebnaa
open Go.RowKit
set_option linter.unusedVariables false
set_option linter.unusedSimpArgs false
theorem und_rc (W bi bo bx bY : Int) (wn hn r q : Nat) (hq : q < wn) : undAt W ⟨bi, bo, bx, bY, wn, hn⟩ (r * wn + q) = bx + q + W * (bY + r) := by
  unfold undAt
  simp only [Int.toNat_natCast]
  rw [Nat.mul_comm r wn, Nat.mul_add_mod, Nat.mod_eq_of_lt hq, Nat.mul_add_div (by omega), Nat.div_eq_of_lt hq, Nat.add_zero]
set_option maxRecDepth 100000 in
set_option maxHeartbeats 1600000 in
theorem rcov_any (W H : Int) (a : Option Addr) (n c : Nat) (xs : List Int) (la : Option Addr) (ln lc : Nat) (bs : List Bd) (w : World) (hb0 : Bq w w.heap.size la ln bs) (M : Hk (MOk W H n xs bs)) :
    Calls Try.prog 27 #[.agg #[.int .i64 W, .int .i64 H, .slice a n c], .slice la ln lc] w fun e w' => ∃ g, e = .returned (.slice (some ⟨g, 0, none⟩) n n) ∧ w.heap.size ≤ g ∧ Arr w' g n 4 (fun k => .bool (cvB W bs k)) ∧ Below w.heap.size w w' := by
  have HWB : Hk (Below w.heap.size w (w.alloc (.cells #[.int .i64 W, .int .i64 H, .slice a n c] 24))) := ⟨(Below.refl _ _).alloc (Nat.le_refl _) _⟩
  have hNW : w.heap.size + 1 ≤ (w.alloc (.cells #[.int .i64 W, .int .i64 H, .slice a n c] 24)).heap.size := by simp
  have HTR : Hk (∀ X, Below (w.heap.size + 1) (w.alloc (.cells #[.int .i64 W, .int .i64 H, .slice a n c] 24)) X → Below w.heap.size w X) := ⟨fun X hX => HWB.out.trans (hX.mono (by omega))⟩
  have HQ0 := Hk.mk hb0
  have HLN := Hk.mk hb0.len
  have hl256 : ln ≤ 256 := by have := M.out.len; rw [hb0.len] at this; exact this
  clear hb0
  have info_b : (Try.prog.info? 4).map (fun i => (i.zero, i.size, i.bytes)) = some (some (.bool false), 1, 1) := by kernel_rfl
  obtain ⟨i0, hi, hz0, hz1, hz2⟩ := info_parts info_b
  clear info_b
  have w1 := M.out.g.w1; have w2 := M.out.g.w2; have h1 := M.out.g.h1; have h2 := M.out.g.h2
  have hnn := M.out.g.nn
  obtain ⟨m1, m2⟩ := mul_bd w1 w2 h1 h2
  go_enter Try.func27, Try.ntmps27
  go_wp2_with (at_make; go_must (refine wpList_make_full _ rfl _ _ 48 rfl (w.heap.size + 1) 4 i0 (.bool false) 1 Try.underlying48 hi hz0 hz1 .i64 .i64 _ _ n rfl rfl hnn.symm hnn.symm (by rw [hz2]; omega) (by unfold maxLen; omega) hNW ?_); intro z1 hown hgrow)
  have HA : Hk (Arr z1 (w.heap.size + 1) n 4 (fun t => .bool (cvB W (bs.take 0) t))) := ⟨Arr.made (by simpa using hown) rfl⟩
  have HB : Hk (Below (w.heap.size + 1) (w.alloc (.cells #[.int .i64 W, .int .i64 H, .slice a n c] 24)) z1) := ⟨(below_grown hgrow).mono hNW⟩
  clear hown hgrow
  generalize hG : w.heap.size + 1 = G at HA HB ⊢
  have HGN : Hk (w.heap.size + 1 = G) := ⟨hG⟩
  have hNW : G ≤ (w.alloc (.cells #[.int .i64 W, .int .i64 H, .slice a n c] 24)).heap.size := by rw [← hG]; exact hNW
  have hwG : w.heap.size < G := by omega
  clear hG
  go_loopw [6] (fun i wr => ∃ k : Nat, i = .int .i64 k ∧ k ≤ ln ∧ Hk (Below G (w.alloc (.cells #[.int .i64 W, .int .i64 H, .slice a n c] 24)) wr) ∧ Hk (Arr wr G n 4 (fun t => .bool (cvB W (bs.take k) t)))) (fun i _ => ln - (intOf i).toNat)
  case atStart => exact ⟨0, rfl, Nat.zero_le _, HB, HA⟩
  case round =>
    clear HA HB
    obtain ⟨k, rfl, hk, HB, HA⟩ := hrel
    by_cases hlt : k < ln
    · obtain ⟨bb, off, rfl, hbl, p0, p1, p2, p3, p4, p5⟩ := HQ0.out.six hlt
      have hbG : bb < G := by have := HGN.out; omega
      have hmem : bs.getD k default ∈ bs := getD_memB (by rw [HLN.out]; exact hlt)
      have hfm := M.out.fm _ hmem
      have hin := M.out.ins _ hmem
      clear hmem p0 p1
      obtain ⟨b, hbd⟩ : ∃ b, bs.getD k default = b := ⟨_, rfl⟩
      rw [hbd] at p2 p3 p4 p5 hfm hin
      have HBD := Hk.mk hbd
      clear hbd
      obtain ⟨bi, bo, bx, bY, bw, bh⟩ := b
      obtain ⟨wn, rfl⟩ : ∃ wn : Nat, bw = wn := ⟨bw.toNat, by have := hfm.w1; simp only at this; omega⟩
      obtain ⟨hn, rfl⟩ : ∃ hn : Nat, bh = hn := ⟨bh.toNat, by have := hfm.h1; simp only at this; omega⟩
      have q1 := hfm.w1; have q2 := hfm.w2; have q3 := hfm.h1; have q4 := hfm.h2
      have q5 := hin.x1; have q6 := hin.x2; have q7 := hin.y1; have q8 := hin.y2
      simp only at q1 q2 q3 q4 q5 q6 q7 q8 p2 p3 p4 p5
      have FF := Hk.mk hfm
      have II := Hk.mk hin
      clear hfm hin
      have t0 : (0 : Int) ≤ (k : Int) := by omega
      have t1 : (k : Int) < (ln : Int) := by omega
      have wy : IntKind.i64.wrap (bY + (hn : Int)) = bY + (hn : Int) := by rw [IntKind.wrap_i64]; omega
      have wx : IntKind.i64.wrap (bx + (wn : Int)) = bx + (wn : Int) := by rw [IntKind.wrap_i64]; omega
      obtain ⟨hc, hf, hl, hn', hm⟩ := kw_rules HB.out hNW
      go_wp2_with fail
      clear hc hf hl hn' hm
      obtain ⟨wo, rfl⟩ : ∃ wo : World, wo = wr := ⟨wr, rfl⟩
      go_loopw [7] (fun s wr => ∃ r : Nat, s = .int .i64 (bY + r) ∧ r ≤ hn ∧ Hk (Below G (w.alloc (.cells #[.int .i64 W, .int .i64 H, .slice a n c] 24)) wr) ∧ Hk (Arr wr G n 4 (fun t => .bool (covJ W (bs.take k) ⟨bi, bo, bx, bY, wn, hn⟩ (r * wn) t)))) (fun s _ => (bY + hn - intOf s).toNat)
      case atStart => exact ⟨0, by simp, Nat.zero_le _, HB, ⟨HA.out.congr fun t _ => by rw [Nat.zero_mul, covJ_zero]⟩⟩
      case round =>
        clear HB HA
        obtain ⟨r, rfl, hr, HB, HA⟩ := hrel
        obtain ⟨hc, hf, hl, hn', hm⟩ := kw_rules HB.out hNW
        by_cases hrl : r < hn
        · have d1 : decide (bY + (r : Int) < bY + (hn : Int)) = true := by simp; omega
          have d1' : (r : Int) < (hn : Int) := by omega
          obtain ⟨P, hP⟩ : ∃ P, W * (bY + r) = P := ⟨_, rfl⟩
          have P0 : 0 ≤ P := by rw [← hP]; exact Int.mul_nonneg (by omega) (by omega)
          have P1 : P ≤ 16384 := by
            have := Int.mul_le_mul w2 (show bY + r ≤ 128 by omega) (by omega) (by omega)
            omega
          go_wp2_with fail
          go_quiet (fail)
          go_wp2_with fail
          clear hc hf hl hn' hm
          obtain ⟨wp, rfl⟩ : ∃ wp : World, wp = wr := ⟨wr, rfl⟩
          go_loopw [8] (fun s wr => ∃ q : Nat, s = .int .i64 (bx + q) ∧ q ≤ wn ∧ Hk (Below G (w.alloc (.cells #[.int .i64 W, .int .i64 H, .slice a n c] 24)) wr) ∧ Hk (Arr wr G n 4 (fun t => .bool (covJ W (bs.take k) ⟨bi, bo, bx, bY, wn, hn⟩ (r * wn + q) t)))) (fun s _ => (bx + wn - intOf s).toNat)
          case atStart => exact ⟨0, by simp, Nat.zero_le _, ⟨below_drewN HB.out _⟩, ⟨(HA.out.drewN _).congr fun t _ => rfl⟩⟩
          case round =>
            clear HB HA
            obtain ⟨q, rfl, hq, HB, HA⟩ := hrel
            obtain ⟨hc, hf, hl, hn', hm⟩ := kw_rules HB.out hNW
            by_cases hql : q < wn
            · have d2 : decide (bx + (q : Int) < bx + (wn : Int)) = true := by simp; omega
              have d2' : (q : Int) < (wn : Int) := by omega
              have hj : r * wn + q < wn * hn := by
                have := Nat.mul_le_mul_left wn (show r + 1 ≤ hn by omega)
                rw [Nat.mul_add, Nat.mul_one, Nat.mul_comm] at this
                omega
              have hu := und_md FF.out II.out (k := r * wn + q) (by simpa using hj)
              have he : undAt W ⟨bi, bo, bx, bY, wn, hn⟩ (r * wn + q) = bx + q + P := by rw [und_rc W bi bo bx bY wn hn r q hql, hP]
              obtain ⟨T, hT⟩ : ∃ T : Nat, bx + q + P = T := ⟨(bx + q + P).toNat, by omega⟩
              have hTn : T < n := by omega
              have HU : Hk (undAt W ⟨bi, bo, bx, bY, wn, hn⟩ (r * wn + q) = (T : Int) ∧ r * wn + q < wn * hn) := ⟨he.trans hT, hj⟩
              have T0 : (0 : Int) ≤ (T : Int) := by omega
              have T1 : (T : Int) < (n : Int) := by omega
              have a0 := HA.out.cell hTn
              have az := HA.out.frozen T
              clear hu he hj
              obtain ⟨cv, hcv⟩ : ∃ cv, covJ W (bs.take k) ⟨bi, bo, bx, bY, wn, hn⟩ (r * wn + q) T = cv := ⟨_, rfl⟩
              rw [hcv] at a0
              clear hcv
              go_wp2_with fail
              go_quiet (fail)
              go_wp2
              exact ⟨⟨q + 1, by go_num, by omega, ⟨Below.setCell (p := ⟨G, T, none⟩) (below_drewN HB.out _) (Nat.le_refl _) _⟩, ⟨((HA.out.drewN _).set hTn (.bool true)).congr fun t _ => by
                rw [← Nat.add_assoc, covJ_succ W (bs.take k) ⟨bi, bo, bx, bY, wn, hn⟩ (r * wn + q) t T (by simpa using HU.out.2) HU.out.1]
                by_cases e : t = T
                · rw [if_pos e, if_pos e]
                · rw [if_neg e, if_neg e]⟩⟩, by simp [intOf]; omega⟩
            · have hqw : q = wn := by omega
              subst hqw
              go_wp2_with fail
              go_quiet (fail)
              go_wp2
              exact ⟨⟨r + 1, by go_num, by omega, ⟨below_drewN HB.out _⟩, ⟨(HA.out.drewN _).congr fun t _ => by rw [Nat.add_mul, Nat.one_mul]⟩⟩, by simp [intOf]; omega⟩
        · have hrh : r = hn := by omega
          subst hrh
          go_wp2_with fail
          go_quiet (fail)
          go_wp2
          exact ⟨⟨k + 1, by go_num, by omega, ⟨below_drewN HB.out _⟩, ⟨(HA.out.drewN _).congr fun t _ => by
            have := covJ_full (bs.take k) (⟨bi, bo, bx, bY, wn, r⟩ : Bd) t FF.out II.out
            simp only [Int.toNat_natCast] at this
            rw [take_succB (by rw [HLN.out]; exact hlt), HBD.out, ← this, Nat.mul_comm]⟩⟩, by simp [intOf]; omega⟩
    · have hkn : k = ln := by omega
      subst hkn
      obtain ⟨hc, hf, hl, hn', hm⟩ := kw_rules HB.out hNW
      go_wp2
      go_ret
      refine ⟨G, rfl, by have := HGN.out; omega, HA.out.congr fun t _ => ?_, HTR.out _ (HB.out.mono (by have := HGN.out; omega))⟩
      rw [List.take_of_length_le (by rw [HLN.out]; exact Nat.le_refl _)]
end Go.Proofs.Ytjjodfdmbiebnaa
/- Layer 8: where a building's ID stands. -/
namespace Go.Proofs.Ytjjodfdmbiebnaa
open Go.RowKit Go.Deep
set_option linter.unusedVariables false
set_option linter.unusedSimpArgs false
def cmB (a b : Int) : Int := if a < b then -1 else if b < a then 1 else 0
theorem asc_lt {bs : List Bd} (h : ascB bs) : ∀ (d k : Nat), k + d + 1 < bs.length → (bs.getD k default).i < (bs.getD (k + d + 1) default).i
  | 0, k, hk => h k hk
  | d + 1, k, hk => by
    have h1 := asc_lt h d k (by omega)
    have h2 := h (k + d + 1) (by omega)
    rw [show k + (d + 1) + 1 = k + d + 1 + 1 by omega]
    omega
theorem asc_le {bs : List Bd} (h : ascB bs) {k j : Nat} (hkj : k ≤ j) (hj : j < bs.length) : (bs.getD k default).i ≤ (bs.getD j default).i := by
  by_cases e : k = j
  · subst e; omega
  · obtain ⟨d, rfl⟩ : ∃ d, j = k + d + 1 := ⟨j - k - 1, by omega⟩
    have := asc_lt h d k hj
    omega
theorem cmp8_as (b : Bd) (id r : Int) (w : World) (E : Hk (cmB b.i id = r)) :
    Calls Try.prog 83 #[.agg #[.int .i64 b.i, .int .i64 b.o, .int .i64 b.x, .int .i64 b.y, .int .i64 b.w, .int .i64 b.h], .int .i64 id] w fun e w' => e = .returned (.int .i64 r) ∧ Below w.heap.size w w' := by
  have HB : Below w.heap.size w (w.alloc (.cells #[.int .i64 b.i, .int .i64 b.o, .int .i64 b.x, .int .i64 b.y, .int .i64 b.w, .int .i64 b.h] 35)) := (Below.refl _ _).alloc (Nat.le_refl _) _
  by_cases c1 : b.i < id
  · have d1 : decide (b.i < id) = true := by simpa using c1
    obtain rfl : r = -1 := by rw [← E.out]; unfold cmB; rw [if_pos c1]
    go_enter Try.func83, Try.ntmps83
    go_wp2_with fail
    go_ret
    exact ⟨rfl, HB⟩
  · have d1 : decide (b.i < id) = false := by simpa using c1
    by_cases c2 : id < b.i
    · have d2 : decide (id < b.i) = true := by simpa using c2
      obtain rfl : r = 1 := by rw [← E.out]; unfold cmB; rw [if_neg c1, if_pos c2]
      go_enter Try.func83, Try.ntmps83
      go_wp2_with fail
      go_ret
      exact ⟨rfl, HB⟩
    · have d2 : decide (id < b.i) = false := by simpa using c2
      obtain rfl : r = 0 := by rw [← E.out]; unfold cmB; rw [if_neg c1, if_neg c2]
      go_enter Try.func83, Try.ntmps83
      go_wp2_with fail
      go_ret
      exact ⟨rfl, HB⟩
set_option maxRecDepth 100000 in
set_option maxHeartbeats 800000 in
theorem bsearch8 (a : Option Addr) (n c B : Nat) (bs : List Bd) (id : Int) (w : World) (h : Bq w B a n bs) (hB : B ≤ w.heap.size) (hn : n ≤ 1099511627776) (ha : ascB bs) :
    Calls Try.prog 82 #[.slice a n c, .int .i64 id, .func (.func 83) #[] #[]] w fun e w' => (∃ i : Nat, e = .returned (.tuple #[.int .i64 i, .bool (decide (i < n ∧ (bs.getD i default).i = id))]) ∧ i ≤ n ∧ (∀ k, k < i → (bs.getD k default).i < id) ∧ (∀ k, i ≤ k → k < n → id ≤ (bs.getD k default).i)) ∧ Below w.heap.size w w' := by
  have eg : ∀ args w, (callFunc 83 args).run Try.prog w = .ok (.enter 83 args) w := enters_of Try.func83 (by kernel_rfl) rfl
  have HH := Hk.mk h
  have HA := Hk.mk ha
  have hlen := h.len
  clear h ha
  go_enter Try.func82, Try.ntmps82
  go_wp2_with fail
  go_loopw [9, 10] (fun x y wr => ∃ i j : Nat, x = .int .i64 i ∧ y = .int .i64 j ∧ i ≤ j ∧ j ≤ n ∧ Hk (∀ k, k < i → (bs.getD k default).i < id) ∧ Hk (∀ k, j ≤ k → k < n → id ≤ (bs.getD k default).i) ∧ Hk (Below w.heap.size w wr)) (fun x y _ => (intOf y).toNat - (intOf x).toNat)
  case atStart => exact ⟨0, n, rfl, rfl, by omega, by omega, ⟨fun k hk => absurd hk (by omega)⟩, ⟨fun k h1 h2 => absurd h1 (by omega)⟩, ⟨Below.refl _ _⟩⟩
  case round =>
    obtain ⟨i, j, rfl, rfl, hij, hjn, HLo, HHi, HB⟩ := hrel
    obtain ⟨hc, hf, hl, hn', hm⟩ := kw_rules HB.out (Nat.le_refl _)
    by_cases hlt : i < j
    · obtain ⟨m, hm2, hm3, hm4⟩ : ∃ m : Nat, ((i : Int) + (j : Int)) / 2 = m ∧ i ≤ m ∧ m < j := ⟨(((i : Int) + (j : Int)) / 2).toNat, by omega, by omega, by omega⟩
      obtain ⟨b, off, rfl, hb, p0, p1, p2, p3, p4, p5⟩ := HH.out.six (k := m) (by omega)
      have hbw : b < w.heap.size := by omega
      obtain ⟨e, he⟩ : ∃ e, bs.getD m default = e := ⟨_, rfl⟩
      rw [he] at p0 p1 p2 p3 p4 p5
      have HE := Hk.mk he
      clear he
      have m0 : (0 : Int) ≤ (m : Int) := by omega
      have m1 : (m : Int) < (n : Int) := by omega
      have u1 : IntKind.u64.wrap ((i : Int) + (j : Int)) = (i : Int) + (j : Int) := by rw [IntKind.wrap_u64]; omega
      have u2 : ((i : Int) + (j : Int)) / 2 ^ (1 : Int).toNat = (m : Int) := by simpa using hm2
      by_cases hlo : e.i < id
      · have HN : Hk (∀ k, k < m + 1 → (bs.getD k default).i < id) := ⟨fun k hk => by
          have := asc_le HA.out (show k ≤ m by omega) (by omega)
          rw [HE.out] at this; omega⟩
        have EC : Hk (cmB e.i id = -1) := ⟨by unfold cmB; rw [if_pos hlo]⟩
        clear hlo
        go_wp2_with fail
        refine (cmp8_as e id (-1) _ EC).mono ?_
        rintro x z ⟨rfl, hbz⟩
        replace HB := Hk.mk (kw_step HB.out (Nat.le_refl _) hbz)
        clear hbz hc hf hl hn' hm
        go_wp2_with fail
        exact ⟨⟨m + 1, j, by go_num, rfl, by omega, by omega, HN, HHi, HB⟩, by simp [intOf]; omega⟩
      · have HN : Hk (∀ k, m ≤ k → k < n → id ≤ (bs.getD k default).i) := ⟨fun k h1 h2 => by
          have := asc_le HA.out h1 (by omega)
          rw [HE.out] at this; omega⟩
        obtain ⟨r, hr, hr0⟩ : ∃ r, cmB e.i id = r ∧ 0 ≤ r := ⟨_, rfl, by unfold cmB; rw [if_neg hlo]; split <;> omega⟩
        have EC := Hk.mk hr
        have dr : decide (r < 0) = false := by simp; omega
        clear hr hlo hr0
        go_wp2_with fail
        refine (cmp8_as e id r _ EC).mono ?_
        rintro x z ⟨rfl, hbz⟩
        replace HB := Hk.mk (kw_step HB.out (Nat.le_refl _) hbz)
        clear hbz hc hf hl hn' hm
        go_wp2_with fail
        exact ⟨⟨i, m, rfl, rfl, by omega, by omega, HLo, HN, HB⟩, by simp [intOf]; omega⟩
    · have hji : j = i := by omega
      subst hji
      by_cases hin : j < n
      · obtain ⟨b, off, rfl, hb, p0, p1, p2, p3, p4, p5⟩ := HH.out.six (k := j) (by omega)
        have hbw : b < w.heap.size := by omega
        have hge := HHi.out j (by omega) hin
        obtain ⟨e, he⟩ : ∃ e, bs.getD j default = e := ⟨_, rfl⟩
        rw [he] at p0 p1 p2 p3 p4 p5 hge
        have HE := Hk.mk he
        clear he
        have m0 : (0 : Int) ≤ (j : Int) := by omega
        have m1 : (j : Int) < (n : Int) := by omega
        by_cases heq : e.i = id
        · have EC : Hk (cmB e.i id = 0) := ⟨by unfold cmB; rw [if_neg (by omega), if_neg (by omega)]⟩
          have ED : Hk (decide (j < n ∧ (bs.getD j default).i = id) = true) := ⟨decide_eq_true ⟨hin, by rw [HE.out]; exact heq⟩⟩
          clear heq hge
          go_wp2_with fail
          refine (cmp8_as e id 0 _ EC).mono ?_
          rintro x z ⟨rfl, hbz⟩
          replace HB := Hk.mk (kw_step HB.out (Nat.le_refl _) hbz)
          clear hbz hc hf hl hn' hm
          go_wp2_with fail
          go_ret2
          exact ⟨⟨j, by rw [ED.out]; rfl, by omega, HLo.out, HHi.out⟩, HB.out⟩
        · have EC : Hk (cmB e.i id = 1) := ⟨by unfold cmB; rw [if_neg (by omega), if_pos (by omega)]⟩
          have ED : Hk (decide (j < n ∧ (bs.getD j default).i = id) = false) := ⟨decide_eq_false (fun h => heq (by rw [← HE.out]; exact h.2))⟩
          clear heq hge
          go_wp2_with fail
          refine (cmp8_as e id 1 _ EC).mono ?_
          rintro x z ⟨rfl, hbz⟩
          replace HB := Hk.mk (kw_step HB.out (Nat.le_refl _) hbz)
          clear hbz hc hf hl hn' hm
          go_wp2_with fail
          go_ret2
          exact ⟨⟨j, by rw [ED.out]; rfl, by omega, HLo.out, HHi.out⟩, HB.out⟩
      · have ED : Hk (decide (j < n ∧ (bs.getD j default).i = id) = false) := ⟨decide_eq_false (fun h => hin h.1)⟩
        go_wp2_with fail
        go_ret2
        exact ⟨⟨j, by rw [ED.out]; rfl, by omega, HLo.out, HHi.out⟩, HB.out⟩
theorem place_any (a : Option Addr) (n c B : Nat) (bs : List Bd) (id : Int) (w : World) (h : Bq w B a n bs) (hB : B ≤ w.heap.size) (hn : n ≤ 1099511627776) (ha : ascB bs) :
    Calls Try.prog 60 #[.slice a n c, .int .i64 id] w fun e w' => (∃ (i : Nat) (d : Bool), e = .returned (.tuple #[.int .i64 i, .bool d]) ∧ (d = true ↔ i < n ∧ (bs.getD i default).i = id) ∧ i ≤ n ∧ (∀ k, k < i → (bs.getD k default).i < id) ∧ (∀ k, i ≤ k → k < n → id ≤ (bs.getD k default).i)) ∧ Below w.heap.size w w' := by
  have HC := Hk.mk (bsearch8 a n c B bs id w h hB hn ha)
  clear h ha
  go_enter Try.func60, Try.ntmps60
  go_wp2_with (go_at_call 82; (with_reducible refine HC.out.mono ?_); rintro e z ⟨⟨i, rfl, h1, h2, h3⟩, hb⟩; obtain ⟨d, hd⟩ : ∃ d, decide (i < n ∧ (bs.getD i default).i = id) = d := ⟨_, rfl⟩; rw [hd]; have HD : Hk (d = true ↔ i < n ∧ (bs.getD i default).i = id) := ⟨by rw [← hd, decide_eq_true_iff]⟩; clear hd; have H2 := Hk.mk h2; have H3 := Hk.mk h3; clear h2 h3)
  go_ret2
  exact ⟨⟨i, d, rfl, HD.out, h1, H2.out, H3.out⟩, hb⟩
end Go.Proofs.Ytjjodfdmbiebnaa
/- Regions whose orders meet: states are merged; blocks that the region itself makes are known whole. -/
namespace Go.Proofs.Ytjjodfdmbiebnaa
open Go.RowKit
theorem reg_merge {p q : Prop} (f : Hk p → q) (x : p) : q := f ⟨x⟩
theorem reg_cast {P : Program} {md : Region.Mode} {ops : Array Oper} {Q : Exit → Act → World → Prop} {S : World → Prop} {n : Nat} {l l' : Array Bool} {a : Act} {w : World} (h : l = l') (k : wpAnyH P md ops Q S n l' a w) : wpAnyH P md ops Q S n l a w := h ▸ k
/-- The block holds just these cells, and may be written. -/
structure Bk (w : World) (P : Nat) (cs : Array Value) : Prop where
  bl : ∃ T, w.heap[P]? = some (.cells cs T (0, 0))
theorem Bk.lt {w : World} {P : Nat} {cs : Array Value} (h : Bk w P cs) : P < w.heap.size := by
  obtain ⟨T, h⟩ := h.bl; exact lt_of_block h
theorem Bk.c {w : World} {P : Nat} {cs : Array Value} (h : Bk w P cs) (i : Nat) : w.cell? ⟨P, i, none⟩ = cs[i]? := by
  obtain ⟨T, h⟩ := h.bl; simp [World.cell?, h]
theorem Bk.f {w : World} {P : Nat} {cs : Array Value} (h : Bk w P cs) (i : Nat) : w.frozen? ⟨P, i, none⟩ = false := by
  obtain ⟨T, h⟩ := h.bl; simp [World.frozen?, h]
theorem Bk.new (w : World) (cs : Array Value) (T : TypeId) : Bk (w.alloc (.cells cs T)) w.heap.size cs := ⟨T, heap_alloc_new w _⟩
theorem Bk.al {w : World} {P : Nat} {cs : Array Value} (h : Bk w P cs) (o : Obj) : Bk (w.alloc o) P cs := by
  have hlt := h.lt
  obtain ⟨T, h⟩ := h.bl; exact ⟨T, by rw [Below.heap_alloc w o P hlt]; exact h⟩
theorem Bk.below {w w' : World} {P : Nat} {cs : Array Value} (h : Bk w P cs) (hb : Below w.heap.size w w') : Bk w' P cs := by
  have hlt := h.lt
  obtain ⟨T, h⟩ := h.bl; exact ⟨T, by rw [hb.block P hlt]; exact h⟩
theorem Bk.drew {w : World} {P : Nat} {cs : Array Value} (h : Bk w P cs) : Bk w.drew P cs := ⟨h.bl⟩
theorem Bk.drewN {w : World} {P : Nat} {cs : Array Value} (h : Bk w P cs) (n : Nat) : Bk (w.drewN n) P cs := ⟨h.bl⟩
theorem Bk.oth {w : World} {P Q : Nat} {cs : Array Value} (h : Bk w P cs) (hn : ¬ P = Q) (i : Nat) (v : Value) : Bk (w.setCell ⟨Q, i, none⟩ v) P cs := by
  obtain ⟨T, h⟩ := h.bl; exact ⟨T, by rw [Below.heap_setCell _ _ _ _ (by simpa using hn)]; exact h⟩
theorem Bk.set {w : World} {P : Nat} {cs : Array Value} (h : Bk w P cs) (i : Nat) (v : Value) : Bk (w.setCell ⟨P, i, none⟩ v) P (cs.setIfInBounds i v) := by
  have hlt := h.lt
  obtain ⟨T, h⟩ := h.bl
  refine ⟨T, ?_⟩
  have h' : w.heap[P] = .cells cs T (0, 0) := by simpa [Array.getElem?_eq_getElem hlt] using h
  show (w.heap.modify P _)[P]? = _
  rw [Array.getElem?_eq_getElem (by simpa using hlt), Array.getElem_modify_self, h']
  rfl
theorem Bk.ne {w : World} {P : Nat} {cs : Array Value} (h : Bk w P cs) : ¬ P = w.heap.size := by have := h.lt; omega
theorem Bk.ne' {w : World} {P : Nat} {cs : Array Value} (h : Bk w P cs) : ¬ w.heap.size = P := by have := h.lt; omega
theorem kw_al {N : Nat} {W X : World} (h : Below N W X) (hN : N ≤ W.heap.size) (o : Obj) : Below N W (X.alloc o) := h.alloc (Nat.le_trans hN h.size) o
theorem kw_le {N : Nat} {W X : World} (h : Below N W X) (hN : N ≤ W.heap.size) : N ≤ X.heap.size := Nat.le_trans hN h.size
theorem kw_s {N : Nat} {W X : World} (h : Below N W X) : ∀ b o, b < N → X.cell? ⟨b, o, none⟩ = W.cell? ⟨b, o, none⟩ := fun b o hb => h.cell (p := ⟨b, o, none⟩) hb
end Go.Proofs.Ytjjodfdmbiebnaa
/- Layer 8: slices of buildings of a call's own; Insert at the end. -/
namespace Go.Proofs.Ytjjodfdmbiebnaa
open Go.RowKit Go.Deep
set_option linter.unusedVariables false
set_option linter.unusedSimpArgs false
def cells6 (b : Bd) : List Value := [.int .i64 b.i, .int .i64 b.o, .int .i64 b.x, .int .i64 b.y, .int .i64 b.w, .int .i64 b.h]
def flatB : List Bd → List Value
  | [] => []
  | b :: bs => cells6 b ++ flatB bs
theorem cells6_at (b : Bd) (i : Nat) (hi : i < 6) : (cells6 b)[i]? = some (.int .i64 (b.c i)) := by
  match i, hi with
  | 0, _ | 1, _ | 2, _ | 3, _ | 4, _ | 5, _ => rfl
theorem flatB_len : ∀ bs : List Bd, (flatB bs).length = bs.length * 6
  | [] => rfl
  | b :: bs => by
    have := flatB_len bs
    show (cells6 b ++ flatB bs).length = _
    rw [List.length_append, this]
    show 6 + _ = _
    simp; omega
theorem flatB_at : ∀ (bs : List Bd) (k i : Nat), k < bs.length → i < 6 → (flatB bs)[k * 6 + i]? = some (.int .i64 ((bs.getD k default).c i))
  | b :: bs, 0, i, _, hi => by
    show (cells6 b ++ flatB bs)[0 * 6 + i]? = _
    rw [List.getElem?_append_left (by show 0 * 6 + i < 6; omega), show 0 * 6 + i = i by omega]
    exact cells6_at b i hi
  | b :: bs, k + 1, i, hk, hi => by
    show (cells6 b ++ flatB bs)[(k + 1) * 6 + i]? = _
    rw [List.getElem?_append_right (by show 6 ≤ _; omega), show (k + 1) * 6 + i - (cells6 b).length = k * 6 + i by show _ - 6 = _; omega]
    have := flatB_at bs k i (by simpa using hk) hi
    rw [this]
    simp [List.getD]
theorem flatB_app : ∀ (xs bs : List Bd), flatB (xs ++ bs) = flatB xs ++ flatB bs
  | [], _ => rfl
  | a :: xs, bs => by
    show cells6 a ++ flatB (xs ++ bs) = (cells6 a ++ flatB xs) ++ flatB bs
    rw [flatB_app xs bs, List.append_assoc]
theorem flatB_one : ∀ (bs : List Bd), ∀ u ∈ flatB bs, u.oneCell' = true
  | [], u, h => by cases h
  | b :: bs, u, h => by
    rcases List.mem_append.1 h with h | h
    · unfold cells6 at h; simp at h; rcases h with rfl | rfl | rfl | rfl | rfl | rfl <;> rfl
    · exact flatB_one bs u h
/-- A slice of the call's own that reads as these buildings. -/
structure OwnB8 (w : World) (base : Nat) (v : Value) (n : Nat) (bs : List Bd) : Prop where
  len : bs.length = n
  row : w.ownsRow base 35 6 v n (flatB bs)
theorem OwnB8.bq {w : World} {base n : Nat} {v : Value} {bs : List Bd} (h : OwnB8 w base v n bs) : ∃ a c, v = .slice a n c ∧ n ≤ c ∧ c ≤ maxLen ∧ Bq w w.heap.size a n bs ∧ (∀ b off, a = some ⟨b, off, none⟩ → base ≤ b ∧ off = 0) := by
  obtain ⟨hl, h1, h2⟩ := h
  rcases h2 with ⟨rfl, rfl⟩ | ⟨g, cap, cur, rfl, hg, hh, hc, hm, hs, ht⟩
  · exact ⟨none, 0, rfl, Nat.le_refl _, by unfold maxLen; omega, ⟨hl, fun h => absurd h (by omega)⟩, fun _ _ h => by cases h⟩
  · refine ⟨_, cap, rfl, hc, hm, ⟨hl, fun hn => ⟨g, 0, rfl, (Array.getElem?_eq_some_iff.1 hh).1, fun k hk i hi => ?_⟩⟩, fun b off e => by injection e with e; injection e with e1 e2; subst e1 e2; exact ⟨hg, rfl⟩⟩
    have := flatB_at bs k i (by omega) hi
    rw [← ht, List.getElem?_take_of_lt (by omega)] at this
    rw [Nat.zero_add]
    simp only [World.cell?, hh]
    simpa using this
theorem OwnB8.below {w w' : World} {base n : Nat} {v : Value} {bs : List Bd} (h : OwnB8 w base v n bs) (hb : Below w.heap.size w w') : OwnB8 w' base v n bs := by
  refine ⟨h.len, h.row.1, ?_⟩
  rcases h.row.2 with h2 | ⟨g, cap, cur, e, hg, hh, r⟩
  · exact .inl h2
  · exact .inr ⟨g, cap, cur, e, hg, by rw [hb.block g (Array.getElem?_eq_some_iff.1 hh).1]; exact hh, r⟩
theorem OwnB8.weak {w : World} {base base' n : Nat} {v : Value} {bs : List Bd} (h : OwnB8 w base v n bs) (hb : base' ≤ base) : OwnB8 w base' v n bs := by
  refine ⟨h.len, h.row.1, ?_⟩
  rcases h.row.2 with h2 | ⟨g, cap, cur, e, hg, hh, r⟩
  · exact .inl h2
  · exact .inr ⟨g, cap, cur, e, by omega, hh, r⟩
theorem info_bd : (Try.prog.info? 35).map (fun i => (i.zero, i.size, i.bytes)) = some (some (.agg #[.int .i64 0, .int .i64 0, .int .i64 0, .int .i64 0, .int .i64 0, .int .i64 0]), 6, 48) := by kernel_rfl
set_option maxRecDepth 100000 in
theorem clone8_nil (X : World) : Calls Try.prog 68 #[.slice none 0 0] X fun e z => e = .returned (.slice none 0 0) ∧ Below X.heap.size X z := by
  have q : ∀ w : World, (binOp .eql 25 (.slice none 0 0) (.slice none 0 0)).run Try.prog w = .ok (.bool true) w := fun w => Lib.run_eql_slice_nil w _ _ none 0 0 0 0 Try.underlying25
  go_enter Try.func68, Try.ntmps68
  go_wp2
  go_ret
  exact ⟨rfl, Below.refl _ _⟩
set_option maxRecDepth 100000 in
theorem ins8_nil (b : Bd) (S : Nat) (X : World) (h : Bk X S #[.int .i64 b.i, .int .i64 b.o, .int .i64 b.x, .int .i64 b.y, .int .i64 b.w, .int .i64 b.h]) : Calls Try.prog 67 #[.slice none 0 0, .int .i64 0, .slice (some ⟨S, 0, none⟩) 1 1] X fun e z => ∃ v, e = .returned v ∧ OwnB8 z X.heap.size v 1 [b] ∧ Below X.heap.size X z := by
  have HBk := Hk.mk h
  obtain ⟨i0, hi, hz0, hz1, hz2⟩ := info_parts info_bd
  have hown : X.ownsRow X.heap.size 35 6 (.slice none 0 0) 0 [] := ⟨rfl, Or.inl ⟨rfl, rfl⟩⟩
  clear h
  go_enter Try.func67, Try.ntmps67
  go_wp2_with (at_builtin; go_must (refine wpList_append_own _ rfl _ _ 25 rfl X.heap.size 35 i0 (.agg #[.int .i64 0, .int .i64 0, .int .i64 0, .int .i64 0, .int .i64 0, .int .i64 0]) 6 48 Try.underlying25 hi hz0 hz1 hz2 rfl (by decide) _ 0 [] rfl hown ⟨S, 0, none⟩ 1 1 [.int .i64 b.i, .int .i64 b.o, .int .i64 b.x, .int .i64 b.y, .int .i64 b.w, .int .i64 b.h] rfl rfl ?c1 ?c2 (by unfold maxLen; omega) (by omega) (Nat.le_refl _) ?_))
  case c1 =>
    intro j u hj
    simp only [Addr.add, Nat.zero_add]
    rw [show (if j = 0 then (⟨S, 0, none⟩ : Addr) else ⟨S, j, none⟩) = ⟨S, j, none⟩ by split <;> simp_all, HBk.out.c j]
    simpa using hj
  case c2 =>
    intro u hu
    simp at hu
    rcases hu with rfl | rfl | rfl | rfl | rfl | rfl <;> rfl
  intro v z hown2 hgrow hnil
  clear hnil
  go_wp2
  go_ret
  exact ⟨v, rfl, ⟨rfl, by simpa [flatB, cells6] using hown2⟩, below_grown hgrow⟩
end Go.Proofs.Ytjjodfdmbiebnaa
/- Layer 8: package build's Add. -/
namespace Go.Proofs.Ytjjodfdmbiebnaa
open Go.RowKit Go.Deep
set_option linter.unusedVariables false
set_option linter.unusedSimpArgs false
open Classical in
/-- What Add answers: 0, or the error. -/
noncomputable def addE (W H : Int) (n : Nat) (xs : List Int) (bs : List Bd) (b : Bd) : Int :=
  if MOk W H n xs bs then
    (if fmB b = false then 1 else if inB W H b = false then 3 else
      if (∃ k, k < bs.length ∧ (bs.getD k default).i = b.i) ∨ (undL W b).any (fun t => cvB W bs t) = true then 12 else
      if frB W xs b = false then 5 else if bs.length = 256 then 4 else 0)
  else 1
/-- The building b among the others, by its ID. -/
def insB : List Bd → Bd → List Bd
  | [], b => [b]
  | a :: bs, b => if a.i < b.i then a :: insB bs b else b :: a :: bs
theorem insB_len : ∀ (bs : List Bd) (b : Bd), (insB bs b).length = bs.length + 1
  | [], _ => rfl
  | a :: bs, b => by
    unfold insB
    split
    · simp [insB_len bs b]
    · simp
def AddR (w : World) (W H : Int) (n : Nat) (xs : List Int) (bs : List Bd) (b : Bd) (e : Ending) (w' : World) : Prop :=
  (addE W H n xs bs b ≠ 0 ∧ e = .returned (.tuple #[.slice none 0 0, .int .i64 (addE W H n xs bs b)]) ∧ Below w.heap.size w w') ∨
  (addE W H n xs bs b = 0 ∧ ∃ v, e = .returned (.tuple #[v, .int .i64 0]) ∧ OwnB8 w' w.heap.size v (bs.length + 1) (insB bs b) ∧ Below w.heap.size w w')
theorem add1_as (t : Int) (P g n : Nat) (F : Nat → Bool) (w : World) (h : Arr w g n 4 (fun k => .bool (F k))) (hn : n ≤ 20000) (hp : w.cell? ⟨P, 0, none⟩ = some (.slice (some ⟨g, 0, none⟩) n n)) (t0 : 0 ≤ t) (t1 : t < n) :
    Calls Try.prog 65 #[.int .i64 t, .pointer (some ⟨P, 0, none⟩)] w fun e w' => e = .returned (.bool (F t.toNat)) ∧ w = w' := by
  obtain ⟨k, rfl⟩ : ∃ k : Nat, t = k := ⟨t.toNat, by omega⟩
  have hk : k < n := by omega
  have hcx := h.cell hk
  obtain ⟨f, hf⟩ : ∃ f, F k = f := ⟨_, rfl⟩
  rw [hf] at hcx
  have HF := Hk.mk hf
  clear h hf
  go_enter Try.func65, Try.ntmps65
  go_wp2
  go_ret
  exact ⟨by rw [Int.toNat_natCast, HF.out]; rfl, rfl⟩
set_option maxRecDepth 100000 in
set_option maxHeartbeats 3200000 in
/-- Add, where the list is empty if it is not refused. -/
theorem add_go (W H : Int) (a : Option Addr) (n c : Nat) (xs : List Int) (la : Option Addr) (ln lc : Nat) (bs : List Bd) (b : Bd) (w : World) (h : By w w.heap.size a n xs) (hb0 : Bq w w.heap.size la ln bs) (hn : n ≤ 140737488355328) (hln : ln ≤ 1099511627776)
    (HY : Hk (addE W H n xs bs b = 0 → la = none ∧ ln = 0 ∧ lc = 0)) :
    Calls Try.prog 18 #[.agg #[.int .i64 W, .int .i64 H, .slice a n c], .slice la ln lc, .agg #[.int .i64 b.i, .int .i64 b.o, .int .i64 b.x, .int .i64 b.y, .int .i64 b.w, .int .i64 b.h]] w (AddR w W H n xs bs b) := by
  have eg : ∀ args w, (callFunc 65 args).run Try.prog w = .ok (.enter 65 args) w := enters_of Try.func65 (by kernel_rfl) rfl
  have EG := Hk.mk eg
  clear eg
  have HWB : Hk (Below w.heap.size w ((w.alloc (.cells #[.int .i64 W, .int .i64 H, .slice a n c] 24)).alloc (.cells #[.int .i64 b.i, .int .i64 b.o, .int .i64 b.x, .int .i64 b.y, .int .i64 b.w, .int .i64 b.h] 35))) := ⟨((Below.refl _ _).alloc (Nat.le_refl _) _).alloc (by simp) _⟩
  have hNW : w.heap.size + 2 ≤ ((w.alloc (.cells #[.int .i64 W, .int .i64 H, .slice a n c] 24)).alloc (.cells #[.int .i64 b.i, .int .i64 b.o, .int .i64 b.x, .int .i64 b.y, .int .i64 b.w, .int .i64 b.h] 35)).heap.size := by simp
  have hNW' : w.heap.size ≤ ((w.alloc (.cells #[.int .i64 W, .int .i64 H, .slice a n c] 24)).alloc (.cells #[.int .i64 b.i, .int .i64 b.o, .int .i64 b.x, .int .i64 b.y, .int .i64 b.w, .int .i64 b.h] 35)).heap.size := by simp; omega
  have HB : Hk (Below (w.heap.size + 2) ((w.alloc (.cells #[.int .i64 W, .int .i64 H, .slice a n c] 24)).alloc (.cells #[.int .i64 b.i, .int .i64 b.o, .int .i64 b.x, .int .i64 b.y, .int .i64 b.w, .int .i64 b.h] 35)) ((w.alloc (.cells #[.int .i64 W, .int .i64 H, .slice a n c] 24)).alloc (.cells #[.int .i64 b.i, .int .i64 b.o, .int .i64 b.x, .int .i64 b.y, .int .i64 b.w, .int .i64 b.h] 35))) := ⟨Below.refl _ _⟩
  have HTR : Hk (∀ X, Below (w.heap.size + 2) ((w.alloc (.cells #[.int .i64 W, .int .i64 H, .slice a n c] 24)).alloc (.cells #[.int .i64 b.i, .int .i64 b.o, .int .i64 b.x, .int .i64 b.y, .int .i64 b.w, .int .i64 b.h] 35)) X → Below w.heap.size w X) := ⟨fun X hX => HWB.out.trans (hX.mono (by omega))⟩
  have HBY := Hk.mk (fun (X : World) (hX : Below (w.heap.size + 2) ((w.alloc (.cells #[.int .i64 W, .int .i64 H, .slice a n c] 24)).alloc (.cells #[.int .i64 b.i, .int .i64 b.o, .int .i64 b.x, .int .i64 b.y, .int .i64 b.w, .int .i64 b.h] 35)) X) => h.below (HTR.out X hX) (Nat.le_refl _))
  have HBQ := Hk.mk (fun (X : World) (hX : Below (w.heap.size + 2) ((w.alloc (.cells #[.int .i64 W, .int .i64 H, .slice a n c] 24)).alloc (.cells #[.int .i64 b.i, .int .i64 b.o, .int .i64 b.x, .int .i64 b.y, .int .i64 b.w, .int .i64 b.h] 35)) X) => hb0.below (HTR.out X hX) (Nat.le_refl _))
  have HSZ : Hk (∀ X, Below (w.heap.size + 2) ((w.alloc (.cells #[.int .i64 W, .int .i64 H, .slice a n c] 24)).alloc (.cells #[.int .i64 b.i, .int .i64 b.o, .int .i64 b.x, .int .i64 b.y, .int .i64 b.w, .int .i64 b.h] 35)) X → w.heap.size ≤ X.heap.size) := ⟨fun X hX => by have := kw_size hX hNW; omega⟩
  have HLN := Hk.mk hb0.len
  clear h hb0
  obtain ⟨hc, hf, hl, hn', hm⟩ := kw_rules HB.out hNW
  by_cases M : MOk W H n xs bs
  case neg =>
    have EV : Hk (addE W H n xs bs b = 1) := ⟨by unfold addE; rw [if_neg M]⟩
    have MM := Hk.mk M
    clear M
    go_enter Try.func18, Try.ntmps18
    go_wp2_with (go_at_call 28; (with_reducible refine (cov_no W H a n c xs la ln lc bs _ ?_ ?_ hn hln MM).mono ?_); (exact (HBY.out _ HB.out).mono (HSZ.out _ HB.out)); (exact (HBQ.out _ HB.out).mono (HSZ.out _ HB.out)); rintro e z ⟨rfl, hb⟩; replace HB := Hk.mk (kw_step HB.out hNW hb); clear hb; clear hc hf hl hn' hm; obtain ⟨hc, hf, hl, hn', hm⟩ := kw_rules HB.out hNW)
    go_ret2
    exact Or.inl ⟨by rw [EV.out]; decide, by rw [EV.out]; rfl, HTR.out _ ((HB.out.alloc (kw_size HB.out hNW) _))⟩
  have HG := Hk.mk M.g
  have g := M.g
  have w1 := g.w1; have w2 := g.w2; have h1 := g.h1; have h2 := g.h2
  obtain ⟨m1, m2⟩ := mul_bd g.w1 g.w2 g.h1 g.h2
  have hnn := g.nn
  have hn2 : n ≤ 16384 := by omega
  have HNN := Hk.mk hnn
  have h256 : ln ≤ 256 := by have := M.len; rw [HLN.out] at this; omega
  have MM := Hk.mk M
  clear M g hnn
  go_enter Try.func18, Try.ntmps18
  go_upto_region 4 with (go_at_call 28; (with_reducible refine (cov_yes W H a n c xs la ln lc bs _ ?_ ?_ hn hln MM).mono ?_); (exact (HBY.out _ HB.out).mono (HSZ.out _ HB.out)); (exact (HBQ.out _ HB.out).mono (HSZ.out _ HB.out)); rintro e z ⟨gg, rfl, hgg, hA, hb⟩)
  have HA := Hk.mk (hA.alloc (.cells #[.slice (some ⟨gg, 0, none⟩) n n] 48))
  have HP := Hk.mk (Bk.new z #[.slice (some ⟨gg, 0, none⟩) n n] 48)
  have hBz := kw_step HB.out hNW hb
  replace HB := Hk.mk (hBz.alloc (kw_size hBz hNW) (.cells #[.slice (some ⟨gg, 0, none⟩) n n] 48))
  clear hA hb hBz hgg
  clear hc hf hl hn' hm
  generalize z.heap.size = P at *
  generalize z.alloc (.cells #[.slice (some ⟨gg, 0, none⟩) n n] 48) = Z at *
  obtain ⟨hc, hf, hl, hn', hm⟩ := kw_rules HB.out hNW
  cases hq1 : fmB b
  case false =>
    have Q1 := Hk.mk hq1
    have EV : Hk (addE W H n xs bs b = 1) := ⟨by unfold addE; rw [if_pos MM.out, if_pos hq1]⟩
    clear hq1
    go_wp2_with (first | (go_at_call 60; (with_reducible refine (place_any la ln lc w.heap.size bs b.i _ ?_ ?_ (by omega) MM.out.asc).mono ?_); (exact HBQ.out _ HB.out); (exact HSZ.out _ HB.out); rintro e z ⟨⟨i, d, rfl, hd, k1, k2, k3⟩, hb⟩; replace HB := Hk.mk (kw_step HB.out hNW hb); replace HA := Hk.mk (HA.out.later hb); replace HP := Hk.mk (HP.out.below hb); clear hb; clear hc hf hl hn' hm; obtain ⟨hc, hf, hl, hn', hm⟩ := kw_rules HB.out hNW; have HD := Hk.mk hd; have H2 := Hk.mk k2; have H3 := Hk.mk k3; clear hd k2 k3) | (go_at_call 61; (with_reducible refine (formed_as false b _ Q1).mono ?_); rintro e z ⟨rfl, hb⟩; replace HB := Hk.mk (kw_step HB.out hNW hb); replace HA := Hk.mk (HA.out.later hb); replace HP := Hk.mk (HP.out.below hb); clear hb; clear hc hf hl hn' hm; obtain ⟨hc, hf, hl, hn', hm⟩ := kw_rules HB.out hNW))
    go_ret2
    exact Or.inl ⟨by rw [EV.out]; decide, by rw [EV.out]; rfl, HTR.out _ HB.out⟩
  have FF := Hk.mk (fmB_iff.1 hq1)
  have Q1 := Hk.mk hq1
  clear hq1
  cases hq2 : inB W H b
  case false =>
    have Q2 := Hk.mk hq2
    have EV : Hk (addE W H n xs bs b = 3) := ⟨by unfold addE; rw [if_pos MM.out, if_neg (by rw [Q1.out]; decide), if_pos hq2]⟩
    clear hq2
    go_wp2_with (first | (go_at_call 60; (with_reducible refine (place_any la ln lc w.heap.size bs b.i _ ?_ ?_ (by omega) MM.out.asc).mono ?_); (exact HBQ.out _ HB.out); (exact HSZ.out _ HB.out); rintro e z ⟨⟨i, d, rfl, hd, k1, k2, k3⟩, hb⟩; replace HB := Hk.mk (kw_step HB.out hNW hb); replace HA := Hk.mk (HA.out.later hb); replace HP := Hk.mk (HP.out.below hb); clear hb; clear hc hf hl hn' hm; obtain ⟨hc, hf, hl, hn', hm⟩ := kw_rules HB.out hNW; have HD := Hk.mk hd; have H2 := Hk.mk k2; have H3 := Hk.mk k3; clear hd k2 k3) | (go_at_call 61; (with_reducible refine (formed_as true b _ Q1).mono ?_); rintro e z ⟨rfl, hb⟩; replace HB := Hk.mk (kw_step HB.out hNW hb); replace HA := Hk.mk (HA.out.later hb); replace HP := Hk.mk (HP.out.below hb); clear hb; clear hc hf hl hn' hm; obtain ⟨hc, hf, hl, hn', hm⟩ := kw_rules HB.out hNW) | (go_at_call 62; (with_reducible refine (inside_as false W H a n c b _ w1 w2 h1 h2 FF.out Q2).mono ?_); rintro e z ⟨rfl, hb⟩; replace HB := Hk.mk (kw_step HB.out hNW hb); replace HA := Hk.mk (HA.out.later hb); replace HP := Hk.mk (HP.out.below hb); clear hb; clear hc hf hl hn' hm; obtain ⟨hc, hf, hl, hn', hm⟩ := kw_rules HB.out hNW))
    go_ret2
    exact Or.inl ⟨by rw [EV.out]; decide, by rw [EV.out]; rfl, HTR.out _ HB.out⟩
  have II := Hk.mk (inB_iff.1 hq2)
  have Q2 := Hk.mk hq2
  clear hq2
  have n16 := n16_of FF.out
  go_upto_region 9 with (first | (go_at_call 60; (with_reducible refine (place_any la ln lc w.heap.size bs b.i _ ?_ ?_ (by omega) MM.out.asc).mono ?_); (exact HBQ.out _ HB.out); (exact HSZ.out _ HB.out); rintro e z ⟨⟨i, d, rfl, hd, k1, k2, k3⟩, hb⟩; replace HB := Hk.mk (kw_step HB.out hNW hb); replace HA := Hk.mk (HA.out.later hb); replace HP := Hk.mk (HP.out.below hb); clear hb; clear hc hf hl hn' hm; obtain ⟨hc, hf, hl, hn', hm⟩ := kw_rules HB.out hNW; have HD := Hk.mk hd; have H2 := Hk.mk k2; have H3 := Hk.mk k3; clear hd k2 k3) | (go_at_call 61; (with_reducible refine (formed_as true b _ Q1).mono ?_); rintro e z ⟨rfl, hb⟩; replace HB := Hk.mk (kw_step HB.out hNW hb); replace HA := Hk.mk (HA.out.later hb); replace HP := Hk.mk (HP.out.below hb); clear hb; clear hc hf hl hn' hm; obtain ⟨hc, hf, hl, hn', hm⟩ := kw_rules HB.out hNW) | (go_at_call 62; (with_reducible refine (inside_as true W H a n c b _ w1 w2 h1 h2 FF.out Q2).mono ?_); rintro e z ⟨rfl, hb⟩; replace HB := Hk.mk (kw_step HB.out hNW hb); replace HA := Hk.mk (HA.out.later hb); replace HP := Hk.mk (HP.out.below hb); clear hb; clear hc hf hl hn' hm; obtain ⟨hc, hf, hl, hn', hm⟩ := kw_rules HB.out hNW))
  cases d
  case true =>
    have EV : Hk (addE W H n xs bs b = 12) := ⟨by unfold addE; rw [if_pos MM.out, if_neg (by rw [Q1.out]; decide), if_neg (by rw [Q2.out]; decide), if_pos (Or.inl ⟨i, by have := HD.out.1 rfl; rw [HLN.out]; exact this.1, (HD.out.1 rfl).2⟩)]⟩
    clear HD H2 H3
    go_wp2_with fail
    go_ret2
    exact Or.inl ⟨by rw [EV.out]; decide, by rw [EV.out]; rfl, HTR.out _ HB.out⟩
  have HNO : Hk (¬ ∃ k, k < bs.length ∧ (bs.getD k default).i = b.i) := ⟨by
    rintro ⟨k, hk, he⟩
    rw [HLN.out] at hk
    by_cases c : k < i
    · have := H2.out k c; omega
    · have hi2 : i < ln := by omega
      have h5 := asc_le MM.out.asc (show i ≤ k by omega) (by rw [HLN.out]; exact hk)
      have h6 := H3.out i (Nat.le_refl _) hi2
      exact Bool.noConfusion (HD.out.2 ⟨hi2, by omega⟩)⟩
  clear HD H2 H3
  cases hq3 : (undL W b).any (fun t => cvB W bs t)
  case true =>
    have Q3 := Hk.mk hq3
    have EV : Hk (addE W H n xs bs b = 12) := ⟨by unfold addE; rw [if_pos MM.out, if_neg (by rw [Q1.out]; decide), if_neg (by rw [Q2.out]; decide), if_pos (Or.inr hq3)]⟩
    clear hq3
    go_wp2_with (first | (go_at_call 64; (with_reducible refine (under_any W H a n c b _ w1 w2 h1 h2 FF.out II.out).mono ?_); rintro e z ⟨gu, rfl, hg1, hnq, hg2, hb⟩; replace HB := Hk.mk (kw_step HB.out hNW hb); replace HA := Hk.mk (HA.out.later hb); replace HP := Hk.mk (HP.out.below hb); clear hb; clear hc hf hl hn' hm; obtain ⟨hc, hf, hl, hn', hm⟩ := kw_rules HB.out hNW; have HNQ := Hk.mk hnq; have HG2 := Hk.mk hg2; clear hnq hg1 hg2) | (go_at_call 63; (with_reducible refine (contf_as true 65 #[.pointer (some ⟨P, 0, none⟩)] EG.out (fun t => cvB W bs t) (some ⟨gu, 0, none⟩) (b.w.toNat * b.h.toNat) (b.w.toNat * b.h.toNat) (gu + 1) (undL W b) _ HNQ.out (Nat.succ_le_of_lt HG2.out) (by omega) ?_ Q3).mono ?_); (intro X hX k hk; have hu := und_md FF.out II.out hk; rw [undL_getD W b k hk]; exact (add1_as (undAt W b k) P gg n (fun k => cvB W bs k) X (HA.out.later hX) (by omega) ((HP.out.below hX).c 0) hu.2.2.1 (by have := HNN.out; omega)).mono (fun e w' h => ⟨by rw [h.1, Int.toNat_of_nonneg hu.2.2.1], h.2 ▸ Below.refl _ _⟩)); rintro e z ⟨rfl, hb⟩; replace HB := Hk.mk (kw_step HB.out hNW hb); replace HA := Hk.mk (HA.out.later hb); replace HP := Hk.mk (HP.out.below hb); clear hb; clear hc hf hl hn' hm; obtain ⟨hc, hf, hl, hn', hm⟩ := kw_rules HB.out hNW; clear HNQ HG2))
    go_ret2
    exact Or.inl ⟨by rw [EV.out]; decide, by rw [EV.out]; rfl, HTR.out _ HB.out⟩
  have Q3 := Hk.mk hq3
  have HOV : Hk (¬ ((∃ k, k < bs.length ∧ (bs.getD k default).i = b.i) ∨ (undL W b).any (fun t => cvB W bs t) = true)) := ⟨fun h => by
    rcases h with h | h
    · exact HNO.out h
    · rw [hq3] at h; cases h⟩
  clear hq3 HNO
  cases hq4 : frB W xs b
  case false =>
    have Q4 := Hk.mk hq4
    have EV : Hk (addE W H n xs bs b = 5) := ⟨by unfold addE; rw [if_pos MM.out, if_neg (by rw [Q1.out]; decide), if_neg (by rw [Q2.out]; decide), if_neg HOV.out, if_pos hq4]⟩
    clear hq4
    go_wp2_with (first | (go_at_call 64; (with_reducible refine (under_any W H a n c b _ w1 w2 h1 h2 FF.out II.out).mono ?_); rintro e z ⟨gu, rfl, hg1, hnq, hg2, hb⟩; replace HB := Hk.mk (kw_step HB.out hNW hb); replace HA := Hk.mk (HA.out.later hb); replace HP := Hk.mk (HP.out.below hb); clear hb; clear hc hf hl hn' hm; obtain ⟨hc, hf, hl, hn', hm⟩ := kw_rules HB.out hNW; have HNQ := Hk.mk hnq; have HG2 := Hk.mk hg2; clear hnq hg1 hg2) | (go_at_call 63; (with_reducible refine (contf_as false 65 #[.pointer (some ⟨P, 0, none⟩)] EG.out (fun t => cvB W bs t) (some ⟨gu, 0, none⟩) (b.w.toNat * b.h.toNat) (b.w.toNat * b.h.toNat) (gu + 1) (undL W b) _ HNQ.out (Nat.succ_le_of_lt HG2.out) (by omega) ?_ Q3).mono ?_); (intro X hX k hk; have hu := und_md FF.out II.out hk; rw [undL_getD W b k hk]; exact (add1_as (undAt W b k) P gg n (fun k => cvB W bs k) X (HA.out.later hX) (by omega) ((HP.out.below hX).c 0) hu.2.2.1 (by have := HNN.out; omega)).mono (fun e w' h => ⟨by rw [h.1, Int.toNat_of_nonneg hu.2.2.1], h.2 ▸ Below.refl _ _⟩)); rintro e z ⟨rfl, hb⟩; replace HB := Hk.mk (kw_step HB.out hNW hb); replace HA := Hk.mk (HA.out.later hb); replace HP := Hk.mk (HP.out.below hb); clear hb; clear hc hf hl hn' hm; obtain ⟨hc, hf, hl, hn', hm⟩ := kw_rules HB.out hNW; clear HNQ HG2) | (go_at_call 66; (with_reducible refine (firm_as false W H a n c w.heap.size xs b _ ?_ ?_ HG.out FF.out II.out Q4).mono ?_); (exact HBY.out _ HB.out); (exact HSZ.out _ HB.out); rintro e z ⟨rfl, hb⟩; replace HB := Hk.mk (kw_step HB.out hNW hb); replace HA := Hk.mk (HA.out.later hb); replace HP := Hk.mk (HP.out.below hb); clear hb; clear hc hf hl hn' hm; obtain ⟨hc, hf, hl, hn', hm⟩ := kw_rules HB.out hNW))
    go_ret2
    exact Or.inl ⟨by rw [EV.out]; decide, by rw [EV.out]; rfl, HTR.out _ HB.out⟩
  have Q4 := Hk.mk hq4
  clear hq4
  by_cases hq5 : ln = 256
  · have EV : Hk (addE W H n xs bs b = 4) := ⟨by unfold addE; rw [if_pos MM.out, if_neg (by rw [Q1.out]; decide), if_neg (by rw [Q2.out]; decide), if_neg HOV.out, if_neg (by rw [Q4.out]; decide), if_pos (by rw [HLN.out]; exact hq5)]⟩
    subst hq5
    go_wp2_with (first | (go_at_call 64; (with_reducible refine (under_any W H a n c b _ w1 w2 h1 h2 FF.out II.out).mono ?_); rintro e z ⟨gu, rfl, hg1, hnq, hg2, hb⟩; replace HB := Hk.mk (kw_step HB.out hNW hb); replace HA := Hk.mk (HA.out.later hb); replace HP := Hk.mk (HP.out.below hb); clear hb; clear hc hf hl hn' hm; obtain ⟨hc, hf, hl, hn', hm⟩ := kw_rules HB.out hNW; have HNQ := Hk.mk hnq; have HG2 := Hk.mk hg2; clear hnq hg1 hg2) | (go_at_call 63; (with_reducible refine (contf_as false 65 #[.pointer (some ⟨P, 0, none⟩)] EG.out (fun t => cvB W bs t) (some ⟨gu, 0, none⟩) (b.w.toNat * b.h.toNat) (b.w.toNat * b.h.toNat) (gu + 1) (undL W b) _ HNQ.out (Nat.succ_le_of_lt HG2.out) (by omega) ?_ Q3).mono ?_); (intro X hX k hk; have hu := und_md FF.out II.out hk; rw [undL_getD W b k hk]; exact (add1_as (undAt W b k) P gg n (fun k => cvB W bs k) X (HA.out.later hX) (by omega) ((HP.out.below hX).c 0) hu.2.2.1 (by have := HNN.out; omega)).mono (fun e w' h => ⟨by rw [h.1, Int.toNat_of_nonneg hu.2.2.1], h.2 ▸ Below.refl _ _⟩)); rintro e z ⟨rfl, hb⟩; replace HB := Hk.mk (kw_step HB.out hNW hb); replace HA := Hk.mk (HA.out.later hb); replace HP := Hk.mk (HP.out.below hb); clear hb; clear hc hf hl hn' hm; obtain ⟨hc, hf, hl, hn', hm⟩ := kw_rules HB.out hNW; clear HNQ HG2) | (go_at_call 66; (with_reducible refine (firm_as true W H a n c w.heap.size xs b _ ?_ ?_ HG.out FF.out II.out Q4).mono ?_); (exact HBY.out _ HB.out); (exact HSZ.out _ HB.out); rintro e z ⟨rfl, hb⟩; replace HB := Hk.mk (kw_step HB.out hNW hb); replace HA := Hk.mk (HA.out.later hb); replace HP := Hk.mk (HP.out.below hb); clear hb; clear hc hf hl hn' hm; obtain ⟨hc, hf, hl, hn', hm⟩ := kw_rules HB.out hNW))
    go_ret2
    exact Or.inl ⟨by rw [EV.out]; decide, by rw [EV.out]; rfl, HTR.out _ HB.out⟩
  have EV : Hk (addE W H n xs bs b = 0) := ⟨by unfold addE; rw [if_pos MM.out, if_neg (by rw [Q1.out]; decide), if_neg (by rw [Q2.out]; decide), if_neg HOV.out, if_neg (by rw [Q4.out]; decide), if_neg (by rw [HLN.out]; exact hq5)]⟩
  obtain ⟨rfl, rfl, rfl⟩ := HY.out EV.out
  have hi0 : (i : Int) = 0 := by omega
  clear hq5
  go_upto_region 15 with (first | (go_at_call 64; (with_reducible refine (under_any W H a n c b _ w1 w2 h1 h2 FF.out II.out).mono ?_); rintro e z ⟨gu, rfl, hg1, hnq, hg2, hb⟩; replace HB := Hk.mk (kw_step HB.out hNW hb); replace HA := Hk.mk (HA.out.later hb); replace HP := Hk.mk (HP.out.below hb); clear hb; clear hc hf hl hn' hm; obtain ⟨hc, hf, hl, hn', hm⟩ := kw_rules HB.out hNW; have HNQ := Hk.mk hnq; have HG2 := Hk.mk hg2; clear hnq hg1 hg2) | (go_at_call 63; (with_reducible refine (contf_as false 65 #[.pointer (some ⟨P, 0, none⟩)] EG.out (fun t => cvB W bs t) (some ⟨gu, 0, none⟩) (b.w.toNat * b.h.toNat) (b.w.toNat * b.h.toNat) (gu + 1) (undL W b) _ HNQ.out (Nat.succ_le_of_lt HG2.out) (by omega) ?_ Q3).mono ?_); (intro X hX k hk; have hu := und_md FF.out II.out hk; rw [undL_getD W b k hk]; exact (add1_as (undAt W b k) P gg n (fun k => cvB W bs k) X (HA.out.later hX) (by omega) ((HP.out.below hX).c 0) hu.2.2.1 (by have := HNN.out; omega)).mono (fun e w' h => ⟨by rw [h.1, Int.toNat_of_nonneg hu.2.2.1], h.2 ▸ Below.refl _ _⟩)); rintro e z ⟨rfl, hb⟩; replace HB := Hk.mk (kw_step HB.out hNW hb); replace HA := Hk.mk (HA.out.later hb); replace HP := Hk.mk (HP.out.below hb); clear hb; clear hc hf hl hn' hm; obtain ⟨hc, hf, hl, hn', hm⟩ := kw_rules HB.out hNW; clear HNQ HG2) | (go_at_call 66; (with_reducible refine (firm_as true W H a n c w.heap.size xs b _ ?_ ?_ HG.out FF.out II.out Q4).mono ?_); (exact HBY.out _ HB.out); (exact HSZ.out _ HB.out); rintro e z ⟨rfl, hb⟩; replace HB := Hk.mk (kw_step HB.out hNW hb); replace HA := Hk.mk (HA.out.later hb); replace HP := Hk.mk (HP.out.below hb); clear hb; clear hc hf hl hn' hm; obtain ⟨hc, hf, hl, hn', hm⟩ := kw_rules HB.out hNW))
  generalize z = VA at *
  (try rw [hi0])
  clear hi0
  have q0 : VA.cell? ⟨w.heap.size + 1, 0, none⟩ = some (.int .i64 b.i) := (hc _ _ (by omega)).trans (by go_simp)
  have q1 : VA.cell? ⟨w.heap.size + 1, 1, none⟩ = some (.int .i64 b.o) := (hc _ _ (by omega)).trans (by go_simp)
  have q2 : VA.cell? ⟨w.heap.size + 1, 2, none⟩ = some (.int .i64 b.x) := (hc _ _ (by omega)).trans (by go_simp)
  have q3 : VA.cell? ⟨w.heap.size + 1, 3, none⟩ = some (.int .i64 b.y) := (hc _ _ (by omega)).trans (by go_simp)
  have q4 : VA.cell? ⟨w.heap.size + 1, 4, none⟩ = some (.int .i64 b.w) := (hc _ _ (by omega)).trans (by go_simp)
  have q5 : VA.cell? ⟨w.heap.size + 1, 5, none⟩ = some (.int .i64 b.h) := (hc _ _ (by omega)).trans (by go_simp)
  have bX : w.heap.size + 1 < VA.heap.size := hl _ (by omega)
  have HB0 := HB
  clear hc hf hl hn' hm
  have L0V : VA.heap.size ≤ VA.heap.size := Nat.le_refl _
  apply reg_merge
  intro HG4
  apply reg_merge
  intro HG3
  apply reg_merge
  intro HG2
  apply reg_merge
  intro HG1
  refine wp_region_held_drew (S := fun Z => (∀ b o, b < VA.heap.size → Z.cell? ⟨b, o, none⟩ = VA.cell? ⟨b, o, none⟩)) (by kernel_rfl) (fun _ _ _ => rfl) (fun hHeld => ?_)
  have HB : Hk (Below VA.heap.size VA VA.drew) := ⟨(Below.refl _ _).drew⟩
  obtain ⟨WZ, hWe⟩ : ∃ WZ, VA.drew = WZ := ⟨_, rfl⟩
  rw [hWe] at HB hHeld ⊢
  clear hWe
  refine wpAnyH_take (i := 0) (v := ?_) rfl (by kernel_rfl) (by kernel_rfl) (by kernel_rfl) (fun _ _ _ h => h) (Or.inl ⟨by rfl, fun wX hSw => ?_⟩) (by assumption) ?_
  rotate_left
  · (try dsimp only at hSw); go_simp; try with_reducible rfl
  (try simp only [Act.put, List.getElem_toArray, List.getElem_cons_succ, List.getElem_cons_zero, List.setIfInBounds_toArray, List.set_cons_zero, List.set_cons_succ])
  refine wpAnyH_take (i := 2) (v := ?_) rfl (by kernel_rfl) (by kernel_rfl) (by kernel_rfl) (fun _ _ _ h => h) (Or.inl ⟨by rfl, fun wX hSw => ?_⟩) (by assumption) ?_
  rotate_left
  · (try dsimp only at hSw); go_simp; try with_reducible rfl
  (try simp only [Act.put, List.getElem_toArray, List.getElem_cons_succ, List.getElem_cons_zero, List.setIfInBounds_toArray, List.set_cons_zero, List.set_cons_succ])
  refine wpAnyH_take (i := 3) (v := ?_) rfl (by kernel_rfl) (by kernel_rfl) (by kernel_rfl) (fun _ _ _ h => h) (Or.inl ⟨by rfl, fun wX hSw => ?_⟩) (by assumption) ?_
  rotate_left
  · (try dsimp only at hSw); go_simp; try with_reducible rfl
  (try simp only [Act.put, List.getElem_toArray, List.getElem_cons_succ, List.getElem_cons_zero, List.setIfInBounds_toArray, List.set_cons_zero, List.set_cons_succ])
  refine wpAnyH_ready (rs := [1, 4]) (by kernel_rfl) (by simp) ?_
  refine AllReadyH.cons rfl (fun K hK => ?_) (AllReadyH.cons rfl (fun K hK => ?_) (AllReadyH.nil))
  · skip
    go_simp
    (first
  | (go_at_call 68; (with_reducible refine (clone8_nil _).mono ?_); rintro e z ⟨rfl, hb⟩)
  | (go_at_call 67; (with_reducible refine (ins8_nil b S _ HP_S.out).mono ?_); rintro e z ⟨v, rfl, hv, hb⟩; have HV := Hk.mk (hv.weak (kw_le HB.out L0V)); clear hv))
    replace HB := Hk.mk (kw_step HB.out L0V hb)
    clear hb
    refine hK.out _ _ ?_ (fun hHeld2 => ?_)
    · exact kw_s HB.out
    clear hK K hHeld
    have hHeld := hHeld2
    clear hHeld2
    (try simp only [Act.put, List.getElem_toArray, List.getElem_cons_succ, List.getElem_cons_zero, List.setIfInBounds_toArray, List.set_cons_zero, List.set_cons_succ])
    refine reg_cast (l' := #[true, true, true, true, false, false, false, false]) (by kernel_rfl) ?_
    revert hHeld
    revert HB
    revert z
    exact HG1.out
  · skip
    go_simp
    have L_S := kw_le HB.out L0V
    have HP_S : Hk (Bk _ _ #[.int .i64 b.i, .int .i64 b.o, .int .i64 b.x, .int .i64 b.y, .int .i64 b.w, .int .i64 b.h]) := ⟨Bk.new WZ #[.int .i64 b.i, .int .i64 b.o, .int .i64 b.x, .int .i64 b.y, .int .i64 b.w, .int .i64 b.h] 35⟩
    replace HB := Hk.mk (kw_al HB.out L0V (.cells #[.int .i64 b.i, .int .i64 b.o, .int .i64 b.x, .int .i64 b.y, .int .i64 b.w, .int .i64 b.h] 35))
    refine hK.out _ _ ?_ (fun hHeld2 => ?_)
    · exact kw_s HB.out
    clear hK K hHeld
    have hHeld := hHeld2
    clear hHeld2
    (try simp only [Act.put, List.getElem_toArray, List.getElem_cons_succ, List.getElem_cons_zero, List.setIfInBounds_toArray, List.set_cons_zero, List.set_cons_succ])
    generalize WZ.heap.size = S at *
    generalize WZ.alloc (.cells #[.int .i64 b.i, .int .i64 b.o, .int .i64 b.x, .int .i64 b.y, .int .i64 b.w, .int .i64 b.h] 35) = WZx at *
    refine reg_cast (l' := #[true, false, true, true, true, false, false, false]) (by kernel_rfl) ?_
    revert hHeld
    revert L_S
    revert HP_S
    revert HB
    revert S
    revert WZx
    exact HG2.out
  intro WZ HB hHeld
  refine wpAnyH_ready (rs := [4]) (by kernel_rfl) (by simp) ?_
  refine AllReadyH.cons rfl (fun K hK => ?_) (AllReadyH.nil)
  · skip
    go_simp
    have L_S := kw_le HB.out L0V
    have HP_S : Hk (Bk _ _ #[.int .i64 b.i, .int .i64 b.o, .int .i64 b.x, .int .i64 b.y, .int .i64 b.w, .int .i64 b.h]) := ⟨Bk.new WZ #[.int .i64 b.i, .int .i64 b.o, .int .i64 b.x, .int .i64 b.y, .int .i64 b.w, .int .i64 b.h] 35⟩
    replace HB := Hk.mk (kw_al HB.out L0V (.cells #[.int .i64 b.i, .int .i64 b.o, .int .i64 b.x, .int .i64 b.y, .int .i64 b.w, .int .i64 b.h] 35))
    refine hK.out _ _ ?_ (fun hHeld2 => ?_)
    · exact kw_s HB.out
    clear hK K hHeld
    have hHeld := hHeld2
    clear hHeld2
    (try simp only [Act.put, List.getElem_toArray, List.getElem_cons_succ, List.getElem_cons_zero, List.setIfInBounds_toArray, List.set_cons_zero, List.set_cons_succ])
    generalize WZ.heap.size = S at *
    generalize WZ.alloc (.cells #[.int .i64 b.i, .int .i64 b.o, .int .i64 b.x, .int .i64 b.y, .int .i64 b.w, .int .i64 b.h] 35) = WZx at *
    refine reg_cast (l' := #[true, true, true, true, true, false, false, false]) (by kernel_rfl) ?_
    revert hHeld
    revert L_S
    revert HP_S
    revert HB
    revert S
    revert WZx
    exact HG3.out
  intro WZ S HB HP_S L_S hHeld
  refine wpAnyH_ready (rs := [1]) (by kernel_rfl) (by simp) ?_
  refine AllReadyH.cons rfl (fun K hK => ?_) (AllReadyH.nil)
  · skip
    go_simp
    (first
  | (go_at_call 68; (with_reducible refine (clone8_nil _).mono ?_); rintro e z ⟨rfl, hb⟩)
  | (go_at_call 67; (with_reducible refine (ins8_nil b S _ HP_S.out).mono ?_); rintro e z ⟨v, rfl, hv, hb⟩; have HV := Hk.mk (hv.weak (kw_le HB.out L0V)); clear hv))
    replace HP_S := Hk.mk (HP_S.out.below hb)
    replace HB := Hk.mk (kw_step HB.out L0V hb)
    clear hb
    refine hK.out _ _ ?_ (fun hHeld2 => ?_)
    · exact kw_s HB.out
    clear hK K hHeld
    have hHeld := hHeld2
    clear hHeld2
    (try simp only [Act.put, List.getElem_toArray, List.getElem_cons_succ, List.getElem_cons_zero, List.setIfInBounds_toArray, List.set_cons_zero, List.set_cons_succ])
    refine reg_cast (l' := #[true, true, true, true, true, false, false, false]) (by kernel_rfl) ?_
    revert hHeld
    revert L_S
    revert HP_S
    revert HB
    revert S
    revert z
    exact HG3.out
  intro WZ S HB HP_S L_S hHeld
  refine wpAnyH_ready (rs := [5]) (by kernel_rfl) (by simp) ?_
  refine AllReadyH.cons rfl (fun K hK => ?_) (AllReadyH.nil)
  · skip
    go_simp
    (first
  | (go_at_call 68; (with_reducible refine (clone8_nil _).mono ?_); rintro e z ⟨rfl, hb⟩)
  | (go_at_call 67; (with_reducible refine (ins8_nil b S _ HP_S.out).mono ?_); rintro e z ⟨v, rfl, hv, hb⟩; have HV := Hk.mk (hv.weak (kw_le HB.out L0V)); clear hv))
    replace HP_S := Hk.mk (HP_S.out.below hb)
    replace HB := Hk.mk (kw_step HB.out L0V hb)
    clear hb
    refine hK.out _ _ ?_ (fun hHeld2 => ?_)
    · exact kw_s HB.out
    clear hK K hHeld
    have hHeld := hHeld2
    clear hHeld2
    (try simp only [Act.put, List.getElem_toArray, List.getElem_cons_succ, List.getElem_cons_zero, List.setIfInBounds_toArray, List.set_cons_zero, List.set_cons_succ])
    refine wpAnyH_take (i := 6) (v := ?_) rfl (by kernel_rfl) (by kernel_rfl) (by kernel_rfl) (fun _ _ _ h => h) (Or.inl ⟨by rfl, fun wX hSw => ?_⟩) (by assumption) ?_
    rotate_left
    · (try dsimp only at hSw); go_simp; try with_reducible rfl
    (try simp only [Act.put, List.getElem_toArray, List.getElem_cons_succ, List.getElem_cons_zero, List.setIfInBounds_toArray, List.set_cons_zero, List.set_cons_succ])
    refine wpAnyH_take (i := 7) (v := ?_) rfl (by kernel_rfl) (by kernel_rfl) (by kernel_rfl) (fun _ _ _ h => h) (Or.inl ⟨by rfl, fun wX hSw => ?_⟩) (by assumption) ?_
    rotate_left
    · (try dsimp only at hSw); go_simp; try with_reducible rfl
    (try simp only [Act.put, List.getElem_toArray, List.getElem_cons_succ, List.getElem_cons_zero, List.setIfInBounds_toArray, List.set_cons_zero, List.set_cons_succ])
    refine reg_cast (l' := #[true, true, true, true, true, true, true, true]) (by kernel_rfl) ?_
    revert hHeld
    revert HV
    revert L_S
    revert HP_S
    revert HB
    revert v
    revert S
    revert z
    exact HG4.out
  intro WZ S v HB HP_S L_S HV hHeld
  refine wpAnyH_done (by kernel_rfl) ?_ _
  have hnb : bs = [] := List.length_eq_zero_iff.1 HLN.out
  go_wp2
  go_ret2
  refine Or.inr ⟨EV.out, v, rfl, ?_, ?_⟩
  · rw [hnb]
    exact HV.out.weak (HSZ.out _ HB0.out)
  · exact HTR.out _ (kw_step HB0.out hNW HB.out)
end Go.Proofs.Ytjjodfdmbiebnaa
