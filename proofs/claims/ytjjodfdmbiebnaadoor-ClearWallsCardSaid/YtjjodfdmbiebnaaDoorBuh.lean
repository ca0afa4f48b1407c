/- Layer 8: package build's Covered. -/
import Derived.Test.YtjjodfdmbiebnaaDoorBug
import Derived.Deep.QuietTactic
import Derived.BigQuiet
import Derived.Deep.RegionWith
import Derived.Deep.RegionHeld3
import Derived.Deep.DeepCutAuto
import Derived.Deep.DeepFit
import Derived.Outline
namespace Go.Proofs.YtjjodfdmbiebnaaDoor
open Go.RowKit
set_option linter.unusedVariables false
set_option linter.unusedSimpArgs false
/-- What Covered answers. -/
def CovR (w : World) (W H : Int) (n : Nat) (xs : List Int) (bs : List Bd) (e : Ending) (w' : World) : Prop :=
  (MOk W H n xs bs ∧ ∃ g, e = .returned (.tuple #[.slice (some ⟨g, 0, none⟩) n n, .int .i64 0]) ∧ w.heap.size ≤ g ∧ Arr w' g n 4 (fun k => .bool (cvB W bs k)) ∧ Below w.heap.size w w') ∨
  (¬ MOk W H n xs bs ∧ e = .returned (.tuple #[.slice none 0 0, .int .i64 1]) ∧ Below w.heap.size w w')
/-- What is covered when the first buildings, and the first tiles of one more, are in. -/
def covJ (W : Int) (bs : List Bd) (b : Bd) (j : Nat) (k : Nat) : Bool := cvB W bs k || decide ((k : Int) ∈ (undL W b).take j)
theorem covJ_zero (W : Int) (bs : List Bd) (b : Bd) (k : Nat) : covJ W bs b 0 k = cvB W bs k := by unfold covJ; simp
theorem und_take (W : Int) (b : Bd) (j : Nat) (hj : j < b.w.toNat * b.h.toNat) : (undL W b).take (j + 1) = (undL W b).take j ++ [undAt W b j] := by
  rw [List.take_succ_eq_append_getElem (by rw [undL_len]; exact hj)]
  congr 2
  have := undL_getD W b j hj
  rw [List.getD, List.getElem?_eq_getElem (by rw [undL_len]; exact hj)] at this
  simpa using this
theorem covJ_succ (W : Int) (bs : List Bd) (b : Bd) (j k T : Nat) (hj : j < b.w.toNat * b.h.toNat) (hT : undAt W b j = T) : covJ W bs b (j + 1) k = if k = T then true else covJ W bs b j k := by
  unfold covJ
  rw [und_take W b j hj, hT]
  by_cases e : k = T
  · subst e; simp
  · rw [if_neg e]
    congr 1
    simp [List.mem_append]
    intro h
    exact absurd (by omega) e
theorem covJ_full {W H : Int} (bs : List Bd) (b : Bd) (k : Nat) (f : FmOk b) (i : InOk W H b) : covJ W bs b (b.w.toNat * b.h.toNat) k = cvB W (bs ++ [b]) k := by
  unfold covJ
  rw [cvB_snoc, List.take_of_length_le (by rw [undL_len]; exact Nat.le_refl _)]
  congr 1
  rw [Bool.eq_iff_iff, decide_eq_true_iff]
  exact und_mem f i (by omega)
theorem six_box {X Y : World} {p0 p1 p2 p3 p4 p5 : Value} {T : TypeId} (h : Below (X.alloc (.cells #[p0, p1, p2, p3, p4, p5] T)).heap.size (X.alloc (.cells #[p0, p1, p2, p3, p4, p5] T)) Y) : Y.cell? ⟨X.heap.size, 0, none⟩ = some p0 ∧ Y.cell? ⟨X.heap.size, 1, none⟩ = some p1 ∧ Y.cell? ⟨X.heap.size, 2, none⟩ = some p2 ∧ Y.cell? ⟨X.heap.size, 3, none⟩ = some p3 ∧ Y.cell? ⟨X.heap.size, 4, none⟩ = some p4 ∧ Y.cell? ⟨X.heap.size, 5, none⟩ = some p5 ∧ X.heap.size < Y.heap.size :=
  ⟨(h.cell (p := ⟨X.heap.size, 0, none⟩) (by simp)).trans (by go_simp), (h.cell (p := ⟨X.heap.size, 1, none⟩) (by simp)).trans (by go_simp), (h.cell (p := ⟨X.heap.size, 2, none⟩) (by simp)).trans (by go_simp), (h.cell (p := ⟨X.heap.size, 3, none⟩) (by simp)).trans (by go_simp), (h.cell (p := ⟨X.heap.size, 4, none⟩) (by simp)).trans (by go_simp), (h.cell (p := ⟨X.heap.size, 5, none⟩) (by simp)).trans (by go_simp), by have := h.size; simp at this; omega⟩
theorem six_keep {X Y : World} {A : Nat} {p0 p1 p2 p3 p4 p5 : Value} (h : Below X.heap.size X Y) (g : X.cell? ⟨A, 0, none⟩ = some p0 ∧ X.cell? ⟨A, 1, none⟩ = some p1 ∧ X.cell? ⟨A, 2, none⟩ = some p2 ∧ X.cell? ⟨A, 3, none⟩ = some p3 ∧ X.cell? ⟨A, 4, none⟩ = some p4 ∧ X.cell? ⟨A, 5, none⟩ = some p5 ∧ A < X.heap.size) :
    Y.cell? ⟨A, 0, none⟩ = some p0 ∧ Y.cell? ⟨A, 1, none⟩ = some p1 ∧ Y.cell? ⟨A, 2, none⟩ = some p2 ∧ Y.cell? ⟨A, 3, none⟩ = some p3 ∧ Y.cell? ⟨A, 4, none⟩ = some p4 ∧ Y.cell? ⟨A, 5, none⟩ = some p5 ∧ A < Y.heap.size := by
  obtain ⟨h0, h1, h2, h3, h4, h5, h6⟩ := g
  exact ⟨(h.cell (p := ⟨A, 0, none⟩) h6).trans h0, (h.cell (p := ⟨A, 1, none⟩) h6).trans h1, (h.cell (p := ⟨A, 2, none⟩) h6).trans h2, (h.cell (p := ⟨A, 3, none⟩) h6).trans h3, (h.cell (p := ⟨A, 4, none⟩) h6).trans h4, (h.cell (p := ⟨A, 5, none⟩) h6).trans h5, Nat.lt_of_lt_of_le h6 h.size⟩
theorem fr_rules {G : Nat} {Z X : World} (h : Fr (fun j => j = G) Z X) :
    (∀ b o, b < Z.heap.size → ¬ b = G → X.cell? ⟨b, o, none⟩ = Z.cell? ⟨b, o, none⟩) ∧ (∀ b o, b < Z.heap.size → ¬ b = G → X.frozen? ⟨b, o, none⟩ = Z.frozen? ⟨b, o, none⟩) ∧ (∀ b, b < Z.heap.size → b < X.heap.size) ∧ (∀ b, b < Z.heap.size → ¬ b = X.heap.size) ∧ (∀ b, b < Z.heap.size → ¬ X.heap.size = b) := by
  have hs := h.size
  exact ⟨fun b o hb hg => h.cell hb hg, fun b o hb hg => h.frozen hb hg, fun b hb => by omega, fun b hb => by omega, fun b hb => by omega⟩
set_option maxRecDepth 100000 in
set_option maxHeartbeats 1600000 in
theorem cov_any (W H : Int) (a : Option Addr) (n c : Nat) (xs : List Int) (la : Option Addr) (ln lc : Nat) (bs : List Bd) (w : World) (h : By w w.heap.size a n xs) (hb0 : Bq w w.heap.size la ln bs) (hn : n ≤ 140737488355328) (hln : ln ≤ 1099511627776) :
    Calls Tryd.prog 58 #[.agg #[.int .i64 W, .int .i64 H, .slice a n c], .slice la ln lc] w (CovR w W H n xs bs) := by
  have HWB : Hk (Below w.heap.size w (w.alloc (.cells #[.int .i64 W, .int .i64 H, .slice a n c] 24))) := ⟨(Below.refl _ _).alloc (Nat.le_refl _) _⟩
  have hNW : w.heap.size + 1 ≤ (w.alloc (.cells #[.int .i64 W, .int .i64 H, .slice a n c] 24)).heap.size := by simp
  have HB : Hk (Below (w.heap.size + 1) (w.alloc (.cells #[.int .i64 W, .int .i64 H, .slice a n c] 24)) (w.alloc (.cells #[.int .i64 W, .int .i64 H, .slice a n c] 24))) := ⟨Below.refl _ _⟩
  have HTR : Hk (∀ X, Below (w.heap.size + 1) (w.alloc (.cells #[.int .i64 W, .int .i64 H, .slice a n c] 24)) X → Below w.heap.size w X) := ⟨fun X hX => HWB.out.trans (hX.mono (by omega))⟩
  have HBY := Hk.mk (fun (X : World) (hX : Below (w.heap.size + 1) (w.alloc (.cells #[.int .i64 W, .int .i64 H, .slice a n c] 24)) X) => h.below (HTR.out X hX) (Nat.le_refl _))
  have HBQ := Hk.mk (fun (X : World) (hX : Below (w.heap.size + 1) (w.alloc (.cells #[.int .i64 W, .int .i64 H, .slice a n c] 24)) X) => hb0.below (HTR.out X hX) (Nat.le_refl _))
  have HLN := Hk.mk hb0.len
  have HQ0 := Hk.mk hb0
  clear h hb0
  have info_b : (Tryd.prog.info? 4).map (fun i => (i.zero, i.size, i.bytes)) = some (some (.bool false), 1, 1) := by kernel_rfl
  obtain ⟨i0, hi, hz0, hz1, hz2⟩ := info_parts info_b
  clear info_b
  by_cases hg : GOk W H n xs
  case neg =>
    have EQ : Hk (gE W H n xs = 1) := ⟨gE_no hg⟩
    have NO : Hk (¬ MOk W H n xs bs) := ⟨fun m => hg m.g⟩
    clear hg
    go_enter Tryd.func58, Tryd.ntmps58
    go_wp2_with (go_at_call 15; (with_reducible refine (check_as 1 W H a n c w.heap.size xs _ ?_ ?_ hn EQ).mono ?_); (exact HBY.out _ HB.out); (exact hsz1 HB.out); rintro e z ⟨rfl, hb⟩; replace HB := Hk.mk (kw_step HB.out hNW hb); clear hb; obtain ⟨hc, hf, hl, hn', hm⟩ := kw_rules HB.out hNW)
    go_ret2
    exact Or.inr ⟨NO.out, rfl, HTR.out _ HB.out⟩
  have EQ : Hk (gE W H n xs = 0) := ⟨gE_yes hg⟩
  have HG := Hk.mk hg
  have w1 := hg.w1; have w2 := hg.w2; have h1 := hg.h1; have h2 := hg.h2
  have hnn := hg.nn
  obtain ⟨m1, m2⟩ := mul_bd w1 w2 h1 h2
  clear hg
  by_cases hl256 : 256 < ln
  · have NO : Hk (¬ MOk W H n xs bs) := ⟨fun m => by have := m.len; rw [HLN.out] at this; omega⟩
    have d256 : decide ((256 : Int) < (ln : Int)) = true := by simp; omega
    go_enter Tryd.func58, Tryd.ntmps58
    go_wp2_with (go_at_call 15; (with_reducible refine (check_as 0 W H a n c w.heap.size xs _ ?_ ?_ hn EQ).mono ?_); (exact HBY.out _ HB.out); (exact hsz1 HB.out); rintro e z ⟨rfl, hb⟩; replace HB := Hk.mk (kw_step HB.out hNW hb); clear hb; obtain ⟨hc, hf, hl, hn', hm⟩ := kw_rules HB.out hNW)
    go_ret2
    exact Or.inr ⟨NO.out, rfl, HTR.out _ HB.out⟩
  have d256 : decide ((256 : Int) < (ln : Int)) = false := by simp; omega
  by_cases has : ascB bs
  case neg =>
    have EA : Hk (¬ ascB bs) := ⟨has⟩
    have NO : Hk (¬ MOk W H n xs bs) := ⟨fun m => has m.asc⟩
    clear has
    go_enter Tryd.func58, Tryd.ntmps58
    go_wp2_with (first | (go_at_call 15; (with_reducible refine (check_as 0 W H a n c w.heap.size xs _ ?_ ?_ hn EQ).mono ?_); (exact HBY.out _ HB.out); (exact hsz1 HB.out); rintro e z ⟨rfl, hb⟩; replace HB := Hk.mk (kw_step HB.out hNW hb); clear hb; obtain ⟨hc, hf, hl, hn', hm⟩ := kw_rules HB.out hNW) | (go_at_call 73; (with_reducible refine (asc8_no la ln lc w.heap.size bs _ ?_ (by omega) EA).mono ?_); (exact HBQ.out _ HB.out); rintro e z ⟨rfl, m, rfl⟩))
    go_ret2
    exact Or.inr ⟨NO.out, rfl, HTR.out _ (below_drewN HB.out _)⟩
  have EA : Hk (ascB bs) := ⟨has⟩
  clear has
  go_enter Tryd.func58, Tryd.ntmps58
  go_wp2_with (first | (go_at_call 15; (with_reducible refine (check_as 0 W H a n c w.heap.size xs _ ?_ ?_ hn EQ).mono ?_); (exact HBY.out _ HB.out); (exact hsz1 HB.out); rintro e z ⟨rfl, hb⟩; replace HB := Hk.mk (kw_step HB.out hNW hb); clear hb; obtain ⟨hc, hf, hl, hn', hm⟩ := kw_rules HB.out hNW) | (go_at_call 73; (with_reducible refine (asc8_yes la ln lc w.heap.size bs _ ?_ (by omega) EA).mono ?_); (exact HBQ.out _ HB.out); rintro e z ⟨rfl, m, rfl⟩; replace HB := Hk.mk (below_drewN HB.out m)) | (at_make; go_must (refine wpList_make_full _ rfl _ _ 51 rfl (w.heap.size + 1) 4 i0 (.bool false) 1 Tryd.underlying51 hi hz0 hz1 .i64 .i64 _ _ n rfl rfl hnn.symm hnn.symm (by rw [hz2]; omega) (by unfold maxLen; omega) (kw_size HB.out hNW) ?_); intro z1 hown hgrow))
  have HA : Hk (Arr z1 z.heap.size n 4 (fun t => .bool (cvB W (bs.take 0) t))) := ⟨Arr.made hown rfl⟩
  have HGN : Hk (w.heap.size + 1 ≤ z.heap.size) := ⟨by have := kw_size HB.out hNW; simpa using this⟩
  replace HB := Hk.mk (HB.out.trans ((below_grown hgrow).mono (kw_size HB.out hNW)))
  clear hown hgrow hc hf hl hn' hm
  generalize z.heap.size = G at *
  go_loopw [32] (fun i wr => ∃ k : Nat, i = .int .i64 k ∧ k ≤ ln ∧ Hk (∀ j, j < k → FmOk (bs.getD j default) ∧ InOk W H (bs.getD j default) ∧ frB W xs (bs.getD j default) = true ∧ ∀ j2, j2 < j → mtB (bs.getD j default) (bs.getD j2 default) = false) ∧ Hk (Below (w.heap.size + 1) (w.alloc (.cells #[.int .i64 W, .int .i64 H, .slice a n c] 24)) wr) ∧ Hk (Arr wr G n 4 (fun t => .bool (cvB W (bs.take k) t)))) (fun i _ => ln - (intOf i).toNat)
  case atStart => exact ⟨0, rfl, Nat.zero_le _, ⟨fun j hj => absurd hj (by omega)⟩, HB, HA⟩
  case round =>
    clear HA HB
    obtain ⟨k, rfl, hk, HJ, HB, HA⟩ := hrel
    obtain ⟨hc, hf, hl, hn', hm⟩ := kw_rules HB.out hNW
    by_cases hlt : k < ln
    · obtain ⟨bb, off, rfl, hbl, p0, p1, p2, p3, p4, p5⟩ := HQ0.out.six hlt
      have hbw2 : bb < w.heap.size + 1 := by omega
      have hmem : bs.getD k default ∈ bs := getD_memB (by rw [HLN.out]; exact hlt)
      have HM : Hk (MOk W H n xs bs → FmOk (bs.getD k default) ∧ InOk W H (bs.getD k default) ∧ frB W xs (bs.getD k default) = true) := ⟨fun m => ⟨m.fm _ hmem, m.ins _ hmem, m.fr _ hmem⟩⟩
      clear hmem
      obtain ⟨b, hbd⟩ : ∃ b, bs.getD k default = b := ⟨_, rfl⟩
      rw [hbd] at p0 p1 p2 p3 p4 p5 HM
      have HBD := Hk.mk hbd
      clear hbd
      have t0 : (0 : Int) ≤ (k : Int) := by omega
      have t1 : (k : Int) < (ln : Int) := by omega
      have HX := Hk.mk (HB.out.alloc (kw_size HB.out hNW) (.cells #[.int .i64 b.i, .int .i64 b.o, .int .i64 b.x, .int .i64 b.y, .int .i64 b.w, .int .i64 b.h] 96))
      cases hq1 : fmB b
      case false =>
        have NO : Hk (¬ MOk W H n xs bs) := ⟨fun m => by have := fmB_iff.2 (HM.out m).1; rw [hq1] at this; cases this⟩
        have Q1 := Hk.mk hq1
        clear hq1
        go_wp2_with (go_at_call 74; (with_reducible refine (formed_as false b _ Q1).mono ?_); rintro e z2 ⟨rfl, hb⟩; clear hc hf hl hn' hm; obtain ⟨g0, g1, g2, g3, g4, g5, g6⟩ := six_box hb; have HG6 := Hk.mk (And.intro g0 (And.intro g1 (And.intro g2 (And.intro g3 (And.intro g4 (And.intro g5 g6)))))); replace HB := Hk.mk (kw_step HX.out hNW hb); obtain ⟨hc, hf, hl, hn', hm⟩ := kw_rules HB.out hNW; have HA2 := Hk.mk ((HA.out.alloc _).later hb); clear hb)
        go_ret2
        exact Or.inr ⟨NO.out, rfl, HTR.out _ HB.out⟩
      case true =>
        have f1 := fmB_iff.1 hq1
        have Q1 := Hk.mk hq1
        have FF := Hk.mk f1
        clear hq1 f1
        cases hq2 : inB W H b
        case false =>
          have NO : Hk (¬ MOk W H n xs bs) := ⟨fun m => by have := inB_iff.2 (HM.out m).2.1; rw [hq2] at this; cases this⟩
          have Q2 := Hk.mk hq2
          clear hq2
          go_wp2_with (first | (go_at_call 74; (with_reducible refine (formed_as true b _ Q1).mono ?_); rintro e z2 ⟨rfl, hb⟩; clear hc hf hl hn' hm; obtain ⟨g0, g1, g2, g3, g4, g5, g6⟩ := six_box hb; have HG6 := Hk.mk (And.intro g0 (And.intro g1 (And.intro g2 (And.intro g3 (And.intro g4 (And.intro g5 g6)))))); replace HB := Hk.mk (kw_step HX.out hNW hb); obtain ⟨hc, hf, hl, hn', hm⟩ := kw_rules HB.out hNW; have HA2 := Hk.mk ((HA.out.alloc _).later hb); clear hb) | (go_at_call 75; (with_reducible refine (inside_as false W H a n c b _ w1 w2 h1 h2 FF.out Q2).mono ?_); rintro e z3 ⟨rfl, hb⟩; replace HA2 := Hk.mk (HA2.out.later hb); clear hc hf hl hn' hm; clear g0 g1 g2 g3 g4 g5 g6; obtain ⟨g0, g1, g2, g3, g4, g5, g6⟩ := six_keep hb HG6.out; replace HG6 := Hk.mk (And.intro g0 (And.intro g1 (And.intro g2 (And.intro g3 (And.intro g4 (And.intro g5 g6)))))); replace HB := Hk.mk (kw_step HB.out hNW hb); clear hb; obtain ⟨hc, hf, hl, hn', hm⟩ := kw_rules HB.out hNW))
          go_ret2
          exact Or.inr ⟨NO.out, rfl, HTR.out _ HB.out⟩
        case true =>
          have i1 := inB_iff.1 hq2
          have Q2 := Hk.mk hq2
          have II := Hk.mk i1
          clear hq2 i1
          cases hq3 : frB W xs b
          case false =>
            have NO : Hk (¬ MOk W H n xs bs) := ⟨fun m => by have := (HM.out m).2.2; rw [hq3] at this; cases this⟩
            have Q3 := Hk.mk hq3
            clear hq3
            go_wp2_with (first | (go_at_call 74; (with_reducible refine (formed_as true b _ Q1).mono ?_); rintro e z2 ⟨rfl, hb⟩; clear hc hf hl hn' hm; obtain ⟨g0, g1, g2, g3, g4, g5, g6⟩ := six_box hb; have HG6 := Hk.mk (And.intro g0 (And.intro g1 (And.intro g2 (And.intro g3 (And.intro g4 (And.intro g5 g6)))))); replace HB := Hk.mk (kw_step HX.out hNW hb); obtain ⟨hc, hf, hl, hn', hm⟩ := kw_rules HB.out hNW; have HA2 := Hk.mk ((HA.out.alloc _).later hb); clear hb) | (go_at_call 75; (with_reducible refine (inside_as true W H a n c b _ w1 w2 h1 h2 FF.out Q2).mono ?_); rintro e z3 ⟨rfl, hb⟩; replace HA2 := Hk.mk (HA2.out.later hb); clear hc hf hl hn' hm; clear g0 g1 g2 g3 g4 g5 g6; obtain ⟨g0, g1, g2, g3, g4, g5, g6⟩ := six_keep hb HG6.out; replace HG6 := Hk.mk (And.intro g0 (And.intro g1 (And.intro g2 (And.intro g3 (And.intro g4 (And.intro g5 g6)))))); replace HB := Hk.mk (kw_step HB.out hNW hb); clear hb; obtain ⟨hc, hf, hl, hn', hm⟩ := kw_rules HB.out hNW) | (go_at_call 76; (with_reducible refine (firm_as false W H a n c w.heap.size xs b _ ?_ ?_ HG.out FF.out II.out Q3).mono ?_); (exact HBY.out _ HB.out); (exact hsz1 HB.out); rintro e z3 ⟨rfl, hb⟩; replace HA2 := Hk.mk (HA2.out.later hb); clear hc hf hl hn' hm; clear g0 g1 g2 g3 g4 g5 g6; obtain ⟨g0, g1, g2, g3, g4, g5, g6⟩ := six_keep hb HG6.out; replace HG6 := Hk.mk (And.intro g0 (And.intro g1 (And.intro g2 (And.intro g3 (And.intro g4 (And.intro g5 g6)))))); replace HB := Hk.mk (kw_step HB.out hNW hb); clear hb; obtain ⟨hc, hf, hl, hn', hm⟩ := kw_rules HB.out hNW))
            go_ret2
            exact Or.inr ⟨NO.out, rfl, HTR.out _ HB.out⟩
          case true =>
            have Q3 := Hk.mk hq3
            have n16 := n16_of FF.out
            obtain ⟨N, hN⟩ : ∃ N, b.w.toNat * b.h.toNat = N := ⟨_, rfl⟩
            rw [hN] at n16
            have HN := Hk.mk hN
            clear hq3 hN
            go_wp2_with (first | (go_at_call 74; (with_reducible refine (formed_as true b _ Q1).mono ?_); rintro e z2 ⟨rfl, hb⟩; clear hc hf hl hn' hm; obtain ⟨g0, g1, g2, g3, g4, g5, g6⟩ := six_box hb; have HG6 := Hk.mk (And.intro g0 (And.intro g1 (And.intro g2 (And.intro g3 (And.intro g4 (And.intro g5 g6)))))); replace HB := Hk.mk (kw_step HX.out hNW hb); obtain ⟨hc, hf, hl, hn', hm⟩ := kw_rules HB.out hNW; have HA2 := Hk.mk ((HA.out.alloc _).later hb); clear hb) | (go_at_call 75; (with_reducible refine (inside_as true W H a n c b _ w1 w2 h1 h2 FF.out Q2).mono ?_); rintro e z3 ⟨rfl, hb⟩; replace HA2 := Hk.mk (HA2.out.later hb); clear hc hf hl hn' hm; clear g0 g1 g2 g3 g4 g5 g6; obtain ⟨g0, g1, g2, g3, g4, g5, g6⟩ := six_keep hb HG6.out; replace HG6 := Hk.mk (And.intro g0 (And.intro g1 (And.intro g2 (And.intro g3 (And.intro g4 (And.intro g5 g6)))))); replace HB := Hk.mk (kw_step HB.out hNW hb); clear hb; obtain ⟨hc, hf, hl, hn', hm⟩ := kw_rules HB.out hNW) | (go_at_call 76; (with_reducible refine (firm_as true W H a n c w.heap.size xs b _ ?_ ?_ HG.out FF.out II.out Q3).mono ?_); (exact HBY.out _ HB.out); (exact hsz1 HB.out); rintro e z3 ⟨rfl, hb⟩; replace HA2 := Hk.mk (HA2.out.later hb); clear hc hf hl hn' hm; clear g0 g1 g2 g3 g4 g5 g6; obtain ⟨g0, g1, g2, g3, g4, g5, g6⟩ := six_keep hb HG6.out; replace HG6 := Hk.mk (And.intro g0 (And.intro g1 (And.intro g2 (And.intro g3 (And.intro g4 (And.intro g5 g6)))))); replace HB := Hk.mk (kw_step HB.out hNW hb); clear hb; obtain ⟨hc, hf, hl, hn', hm⟩ := kw_rules HB.out hNW) | (go_at_call 77; (with_reducible refine (under_as N W H a n c b _ w1 w2 h1 h2 FF.out II.out HN).mono ?_); rintro e z9 ⟨gg, rfl, hg1, hnq, hg2, hb⟩; have hGgg : ¬ gg = G := (by have := HA2.out.lt; omega); replace HA2 := Hk.mk (HA2.out.later hb); have HGG : Hk (w.heap.size + 1 ≤ gg) := ⟨Nat.le_trans (kw_size HB.out hNW) hg1⟩; replace HB := Hk.mk (kw_step HB.out hNW hb); clear hb; have HNQ := Hk.mk hnq; clear hnq g0 g1 g2 g3 g4 g5 g6; clear hc hf hl hn' hm))
            go_loopw [55] (fun i wr => ∃ j : Nat, i = .int .i64 j ∧ j ≤ N ∧ Hk (Fr (fun q => q = G) z9 wr) ∧ Hk (Arr wr G n 4 (fun t => .bool (covJ W (bs.take k) b j t))) ∧ Hk (∀ j2, j2 < j → cvB W (bs.take k) (undAt W b j2) = false)) (fun i _ => N - (intOf i).toNat)
            case atStart => exact ⟨0, rfl, Nat.zero_le _, ⟨Fr.refl _ _⟩, ⟨HA2.out.congr fun t _ => by rw [covJ_zero]⟩, ⟨fun j hj => absurd hj (by omega)⟩⟩
            case round =>
              obtain ⟨j, rfl, hj, HF, HAJ, HNC⟩ := hrel
              obtain ⟨kc, kf, kl, kn, km⟩ := fr_rules HF.out
              by_cases hjt : j < N
              · have hj' : j < b.w.toNat * b.h.toNat := by rw [HN.out]; exact hjt
                have hu := und_md FF.out II.out hj'
                obtain ⟨T, hT⟩ : ∃ T : Nat, undAt W b j = T := ⟨(undAt W b j).toNat, by omega⟩
                have hTn : T < n := by omega
                have p0 : z9.cell? ⟨gg, j, none⟩ = some (.int .i64 T) := by
                  obtain ⟨g', o', e', _, hc'⟩ := HNQ.out.rd (by omega)
                  injection e' with h9
                  injection h9 with h7 h8
                  subst h7 h8
                  have := hc' j hjt
                  rw [undL_getD W b j hj', hT, Nat.zero_add] at this
                  exact this
                have HU := Hk.mk hT
                clear hu hT hj'
                have j0 : (0 : Int) ≤ (j : Int) := by omega
                have j1 : (j : Int) < (N : Int) := by omega
                have T0 : (0 : Int) ≤ (T : Int) := by omega
                have T1 : (T : Int) < (n : Int) := by omega
                have a0 := HAJ.out.cell hTn
                have az := HAJ.out.frozen T
                cases hcv : covJ W (bs.take k) b j T
                case true =>
                  rw [hcv] at a0
                  have NO : Hk (¬ MOk W H n xs bs) := ⟨fun m => by
                    have hj' : j < b.w.toNat * b.h.toNat := by rw [HN.out]; exact hjt
                    have ho := und_once FF.out II.out hj'
                    rw [HU.out] at ho
                    have hcc : cvB W (bs.take k) T = true := by
                      unfold covJ at hcv
                      simpa [ho] using hcv
                    unfold cvB at hcc
                    obtain ⟨b2, hb2, hh2⟩ := List.any_eq_true.1 hcc
                    obtain ⟨q, hq, e⟩ := mem_getDB hb2
                    have hqk : q < k := by simp at hq; omega
                    rw [getD_takeB hqk] at e
                    have hmm := m.ap k q hqk (by rw [HLN.out]; exact hlt)
                    rw [HBD.out, e] at hmm
                    have hhb : hsB W b T = true := (und_mem FF.out II.out (by omega)).1 (by rw [← HU.out]; exact List.mem_map.2 ⟨j, List.mem_range.2 hj', rfl⟩)
                    rw [mt_of hhb hh2] at hmm
                    cases hmm⟩
                  clear hcv
                  go_wp2
                  go_ret2
                  exact Or.inr ⟨NO.out, rfl, HTR.out _ (HB.out.trans (HF.out.below (B := w.heap.size + 1) (kw_size HB.out hNW) (fun q _ e => by subst e; exact HGN.out)))⟩
                case false =>
                  rw [hcv] at a0
                  have HNC2 : Hk (∀ j2, j2 < j + 1 → cvB W (bs.take k) (undAt W b j2) = false) := ⟨fun j2 hj2 => by
                    by_cases e : j2 = j
                    · subst e
                      rw [HU.out]
                      unfold covJ at hcv
                      simpa using (Bool.or_eq_false_iff.1 hcv).1
                    · exact HNC.out j2 (by omega)⟩
                  clear hcv
                  go_wp2
                  exact ⟨⟨j + 1, by go_num, by omega, ⟨HF.out.setCell (p := ⟨G, T, none⟩) (fun _ => rfl) _⟩, ⟨(HAJ.out.set hTn (.bool true)).congr fun t _ => by
                    rw [covJ_succ W (bs.take k) b j t T (by rw [HN.out]; exact hjt) HU.out]
                    by_cases e : t = T
                    · rw [if_pos e, if_pos e]
                    · rw [if_neg e, if_neg e]⟩, HNC2⟩, by simp [intOf]; omega⟩
              · have hjn : j = N := by omega
                subst hjn
                have R : Hk (∀ j2, j2 < k + 1 → FmOk (bs.getD j2 default) ∧ InOk W H (bs.getD j2 default) ∧ frB W xs (bs.getD j2 default) = true ∧ ∀ j3, j3 < j2 → mtB (bs.getD j2 default) (bs.getD j3 default) = false) := ⟨fun j2 hj2 => by
                  by_cases e : j2 = k
                  · subst e
                    rw [HBD.out]
                    refine ⟨FF.out, II.out, Q3.out, fun j3 hj3 => ?_⟩
                    cases hm3 : mtB b (bs.getD j3 default)
                    · rfl
                    · exfalso
                      have h3 := HJ.out j3 hj3
                      rw [mt_comm] at hm3
                      obtain ⟨q, hq, hh⟩ := mt_tile h3.1 h3.2.1 FF.out II.out hm3
                      have := HNC.out q (by rw [← HN.out]; exact hq)
                      unfold cvB at this
                      rw [List.any_eq_false] at this
                      have hmem : bs.getD j3 default ∈ bs.take j2 := by
                        rw [← getD_takeB hj3]
                        exact getD_memB (by rw [List.length_take, HLN.out]; omega)
                      exact this _ hmem hh
                  · exact HJ.out j2 (by omega)⟩
                have HA3 : Hk (Arr wr G n 4 (fun t => .bool (cvB W (bs.take (k + 1)) t))) := ⟨HAJ.out.congr fun t _ => by rw [take_succB (by rw [HLN.out]; exact hlt), HBD.out, ← covJ_full _ b t FF.out II.out, HN.out]⟩
                have HB3 := Hk.mk (HB.out.trans (HF.out.below (B := w.heap.size + 1) (kw_size HB.out hNW) (fun q _ e => by subst e; exact HGN.out)))
                go_wp2
                exact ⟨⟨k + 1, by go_num, by omega, R, HB3, HA3⟩, by simp [intOf]; omega⟩
    · have hkn : k = ln := by omega
      subst hkn
      have YES : Hk (MOk W H n xs bs) := ⟨by
        have mm : ∀ b ∈ bs, ∃ j, j < k ∧ bs.getD j default = b := fun b hb => by
          obtain ⟨j, hj, e⟩ := mem_getDB hb
          exact ⟨j, by rw [← HLN.out]; exact hj, e⟩
        exact ⟨HG.out, by rw [HLN.out]; omega, EA.out, fun b hb => by obtain ⟨j, hj, rfl⟩ := mm b hb; exact (HJ.out j hj).1, fun b hb => by obtain ⟨j, hj, rfl⟩ := mm b hb; exact (HJ.out j hj).2.1, fun b hb => by obtain ⟨j, hj, rfl⟩ := mm b hb; exact (HJ.out j hj).2.2.1, fun i j hji hi => (HJ.out i (by rw [← HLN.out]; exact hi)).2.2.2 j hji⟩⟩
      go_wp2
      go_ret2
      refine Or.inl ⟨YES.out, G, rfl, by have := HGN.out; omega, HA.out.congr fun t _ => ?_, HTR.out _ HB.out⟩
      rw [List.take_of_length_le (by rw [HLN.out]; exact Nat.le_refl _)]
theorem cov_yes (W H : Int) (a : Option Addr) (n c : Nat) (xs : List Int) (la : Option Addr) (ln lc : Nat) (bs : List Bd) (w : World) (h : By w w.heap.size a n xs) (hb0 : Bq w w.heap.size la ln bs) (hn : n ≤ 140737488355328) (hln : ln ≤ 1099511627776) (M : Hk (MOk W H n xs bs)) :
    Calls Tryd.prog 58 #[.agg #[.int .i64 W, .int .i64 H, .slice a n c], .slice la ln lc] w fun e w' => ∃ g, e = .returned (.tuple #[.slice (some ⟨g, 0, none⟩) n n, .int .i64 0]) ∧ w.heap.size ≤ g ∧ Arr w' g n 4 (fun k => .bool (cvB W bs k)) ∧ Below w.heap.size w w' :=
  (cov_any W H a n c xs la ln lc bs w h hb0 hn hln).mono fun e w' hr => by
    rcases hr with ⟨_, hr⟩ | ⟨hno, _⟩
    · exact hr
    · exact absurd M.out hno
theorem cov_no (W H : Int) (a : Option Addr) (n c : Nat) (xs : List Int) (la : Option Addr) (ln lc : Nat) (bs : List Bd) (w : World) (h : By w w.heap.size a n xs) (hb0 : Bq w w.heap.size la ln bs) (hn : n ≤ 140737488355328) (hln : ln ≤ 1099511627776) (M : Hk (¬ MOk W H n xs bs)) :
    Calls Tryd.prog 58 #[.agg #[.int .i64 W, .int .i64 H, .slice a n c], .slice la ln lc] w fun e w' => e = .returned (.tuple #[.slice none 0 0, .int .i64 1]) ∧ Below w.heap.size w w' :=
  (cov_any W H a n c xs la ln lc bs w h hb0 hn hln).mono fun e w' hr => by
    rcases hr with ⟨hy, _⟩ | ⟨_, hr⟩
    · exact absurd hy M.out
    · exact hr
end Go.Proofs.YtjjodfdmbiebnaaDoor
