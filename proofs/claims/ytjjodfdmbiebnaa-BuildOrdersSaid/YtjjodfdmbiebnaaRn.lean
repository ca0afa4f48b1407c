import Derived.Deep.QuietTactic
import Derived.BigQuiet
import Derived.Deep.RegionWith
import Derived.Deep.RegionHeld3
import Derived.Deep.DeepCutAuto
import Derived.Deep.DeepFit
import Derived.Outline
import Derived.Test.YtjjodfdmbiebnaaRm
import Derived.Laws.OwnMore
/- Layer 8: the reference's Add. -/
namespace Go.Proofs.Ytjjodfdmbiebnaa
open Go.RowKit Go.Deep
set_option linter.unusedVariables false
set_option linter.unusedSimpArgs false
theorem bq_bk {w : World} {S : Nat} {b : Bd} (h : Bk w S #[.int .i64 b.i, .int .i64 b.o, .int .i64 b.x, .int .i64 b.y, .int .i64 b.w, .int .i64 b.h]) : Bq w w.heap.size (some ⟨S, 0, none⟩) 1 [b] :=
  ⟨rfl, fun _ => ⟨S, 0, rfl, h.lt, fun k hk q hq => by
    obtain rfl : k = 0 := by omega
    have := h.c q
    rw [show 0 + 0 * 6 + q = q by omega, this]
    match q, hq with
    | 0, _ | 1, _ | 2, _ | 3, _ | 4, _ | 5, _ => rfl⟩⟩
theorem wp_append_bd (w : World) {o : Oper} {a : Act} {K : Act → World → Prop} {Q : Exit → Act → World → Prop} (s x : Operand)
    (ho : o.op = .call { callee := .builtin .append, args := #[s, x], argTypes := #[25, 25] })
    (base : Nat) (v : Value) (n : Nat) (xs : List Bd) (hs : a.eval s = v) (hown : OwnB8 w base v n xs)
    (B : Nat) (A : Option Addr) (m c : Nat) (ys : List Bd) (hx : a.eval x = .slice A m c) (hby : Bq w B A m ys) (hc : A = none → c = 0) (hlen : n + m ≤ 1099511627776) (hbase : base ≤ w.heap.size)
    (h : ∀ v' w', OwnB8 w' base v' (n + m) (xs ++ ys) → w.grownBy w' v.ownBlock → K (a.put o.dst v') w') : o.wp Try.prog a w K Q := by
  obtain ⟨i0, hi, hz0, hz1, hz2⟩ := info_parts info_bd
  cases A with
  | none =>
    obtain rfl : m = 0 := by
      rcases Nat.eq_zero_or_pos m with h0 | h0
      · exact h0
      · obtain ⟨_, _, e, _⟩ := hby.rd h0; cases e
    obtain rfl : c = 0 := hc rfl
    obtain rfl : ys = [] := List.eq_nil_of_length_eq_zero hby.len
    have hrun := run_append_owned_none (P := Try.prog) (w := w) base 25 o.type 35 i0 6 Try.underlying25 hi v n _ hown.row
    unfold Oper.wp
    simp [execOp, ho, resolve, invoke, builtin, hs, hx, hrun, Result.andThen]
    exact h v w (by simpa using hown) (World.grownBy.refl _ _)
  | some ad =>
    refine wp_append_own w s x _ ho base 35 i0 (.agg #[.int .i64 0, .int .i64 0, .int .i64 0, .int .i64 0, .int .i64 0, .int .i64 0]) 6 48 Try.underlying25 hi hz0 hz1 hz2 rfl (by decide) v n (flatB xs) hs hown.row ad m c (flatB ys) hx (by rw [flatB_len, hby.len]) (bq_news hby) (flatB_one _) (by unfold maxLen; omega) (by omega) hbase ?_
    intro v' w' h2 h3 _
    exact h v' w' ⟨by simp [hown.len, hby.len], by rw [flatB_app]; exact h2⟩ h3
theorem step_append_bd (w : World) {ops : Array Oper} {o : Oper} {a : Act} {K : Act → World → Prop} {Q : Exit → Act → World → Prop} {E : Prop} (hw : Region.wanted o (yielded ops a.tmps) = true) (s x : Operand)
    (ho : o.op = .call { callee := .builtin .append, args := #[s, x], argTypes := #[25, 25] })
    (base : Nat) (v : Value) (n : Nat) (xs : List Bd) (hs : a.eval s = v) (hown : OwnB8 w base v n xs)
    (B : Nat) (A : Option Addr) (m c : Nat) (ys : List Bd) (hx : a.eval x = .slice A m c) (hby : Bq w B A m ys) (hc : A = none → c = 0) (hlen : n + m ≤ 1099511627776) (hbase : base ≤ w.heap.size)
    (h : ∀ v' w', OwnB8 w' base v' (n + m) (xs ++ ys) → w.grownBy w' v.ownBlock → K (a.put o.dst v') w') :
    if Region.wanted o (yielded ops a.tmps) = true then Oper.wp Try.prog o a w K Q else E := by
  rw [if_pos hw]
  exact wp_append_bd w s x ho base v n xs hs hown B A m c ys hx hby hc hlen hbase h
theorem wpList_append_bd (w : World) {ops : Array Oper} {rest : List Oper} {o : Oper} {a : Act} {Q : Exit → Act → World → Prop} (hgd : o.guard = none) (s x : Operand)
    (ho : o.op = .call { callee := .builtin .append, args := #[s, x], argTypes := #[25, 25] })
    (base : Nat) (v : Value) (n : Nat) (xs : List Bd) (hs : a.eval s = v) (hown : OwnB8 w base v n xs)
    (B : Nat) (A : Option Addr) (m c : Nat) (ys : List Bd) (hx : a.eval x = .slice A m c) (hby : Bq w B A m ys) (hc : A = none → c = 0) (hlen : n + m ≤ 1099511627776) (hbase : base ≤ w.heap.size)
    (h : ∀ v' w', OwnB8 w' base v' (n + m) (xs ++ ys) → w.grownBy w' v.ownBlock → wpList Try.prog ops Q rest (a.put o.dst v') w') : wpList Try.prog ops Q (o :: rest) a w :=
  wpList_plain hgd fun _ hK => wp_append_bd w s x ho base v n xs hs hown B A m c ys hx hby hc hlen hbase fun v' w' h2 h3 => hK _ _ (h v' w' h2 h3)
/-- It stands over one of them: by tiles, by sides. -/
theorem ov_iff {W H : Int} {n : Nat} {xs : List Int} {bs : List Bd} {b : Bd} (M : MOk W H n xs bs) (f : FmOk b) (i : InOk W H b) :
    ((∃ k, k < bs.length ∧ (bs.getD k default).i = b.i) ∨ (undL W b).any (fun t => cvB W bs t) = true) ↔ ∃ k, k < bs.length ∧ ((bs.getD k default).i = b.i ∨ mtB (bs.getD k default) b = true) := by
  constructor
  · rintro (⟨k, hk, e⟩ | h)
    · exact ⟨k, hk, .inl e⟩
    · rw [List.any_eq_true] at h
      obtain ⟨t, ht, hc⟩ := h
      unfold cvB at hc
      rw [List.any_eq_true] at hc
      obtain ⟨d, hd, hs⟩ := hc
      obtain ⟨k, hk, e⟩ := mem_getDB hd
      obtain ⟨q, hq, e2⟩ := List.mem_map.1 ht
      have t0 := (und_md f i (List.mem_range.1 hq)).2.2.1
      rw [e2] at t0
      exact ⟨k, hk, .inr (by rw [e]; exact mt_of hs ((und_mem f i t0).1 ht))⟩
  · rintro ⟨k, hk, e | e⟩
    · exact .inl ⟨k, hk, e⟩
    · have hm := getD_memB hk
      obtain ⟨q, hq, hs⟩ := mt_tile (M.fm _ hm) (M.ins _ hm) f i e
      refine .inr (List.any_eq_true.2 ⟨undAt W b q, List.mem_map.2 ⟨q, List.mem_range.2 hq, rfl⟩, ?_⟩)
      unfold cvB
      exact List.any_eq_true.2 ⟨_, hm, hs⟩
set_option maxRecDepth 100000 in
set_option maxHeartbeats 3200000 in
/-- The reference's Add. -/
theorem rbadd_any (W H : Int) (a : Option Addr) (n c : Nat) (xs : List Int) (la : Option Addr) (ln lc : Nat) (bs : List Bd) (b : Bd) (w : World) (h : By w w.heap.size a n xs) (hb0 : Bq w w.heap.size la ln bs) (hn : n ≤ 140737488355328) (hnc : ln ≤ lc) (hcc : lc ≤ 9223372036854775807) (hfo : (la = none ∧ lc = 0) ∨ ∃ g, la = some ⟨g, 0, none⟩) (MM : Hk (MOk W H n xs bs)) :
    Calls Try.prog 17 #[.agg #[.int .i64 W, .int .i64 H, .slice a n c], .slice la ln lc, .agg #[.int .i64 b.i, .int .i64 b.o, .int .i64 b.x, .int .i64 b.y, .int .i64 b.w, .int .i64 b.h]] w (AddR w W H n xs bs b) := by
  have HWB : Hk (Below w.heap.size w ((w.alloc (.cells #[.int .i64 W, .int .i64 H, .slice a n c] 24)).alloc (.cells #[.int .i64 b.i, .int .i64 b.o, .int .i64 b.x, .int .i64 b.y, .int .i64 b.w, .int .i64 b.h] 35))) := ⟨((Below.refl w.heap.size w).alloc (Nat.le_refl _) _).alloc (by simp) _⟩
  have hNW : w.heap.size + 2 ≤ ((w.alloc (.cells #[.int .i64 W, .int .i64 H, .slice a n c] 24)).alloc (.cells #[.int .i64 b.i, .int .i64 b.o, .int .i64 b.x, .int .i64 b.y, .int .i64 b.w, .int .i64 b.h] 35)).heap.size := by simp
  have hNW' : w.heap.size ≤ ((w.alloc (.cells #[.int .i64 W, .int .i64 H, .slice a n c] 24)).alloc (.cells #[.int .i64 b.i, .int .i64 b.o, .int .i64 b.x, .int .i64 b.y, .int .i64 b.w, .int .i64 b.h] 35)).heap.size := by simp; omega
  have HB : Hk (Below (w.heap.size + 2) ((w.alloc (.cells #[.int .i64 W, .int .i64 H, .slice a n c] 24)).alloc (.cells #[.int .i64 b.i, .int .i64 b.o, .int .i64 b.x, .int .i64 b.y, .int .i64 b.w, .int .i64 b.h] 35)) ((w.alloc (.cells #[.int .i64 W, .int .i64 H, .slice a n c] 24)).alloc (.cells #[.int .i64 b.i, .int .i64 b.o, .int .i64 b.x, .int .i64 b.y, .int .i64 b.w, .int .i64 b.h] 35))) := ⟨Below.refl _ _⟩
  have HTR : Hk (∀ X, Below (w.heap.size + 2) ((w.alloc (.cells #[.int .i64 W, .int .i64 H, .slice a n c] 24)).alloc (.cells #[.int .i64 b.i, .int .i64 b.o, .int .i64 b.x, .int .i64 b.y, .int .i64 b.w, .int .i64 b.h] 35)) X → Below w.heap.size w X) := ⟨fun X hX => HWB.out.trans (hX.mono (by omega))⟩
  have HBY := Hk.mk (fun (X : World) (hX : Below (w.heap.size + 2) ((w.alloc (.cells #[.int .i64 W, .int .i64 H, .slice a n c] 24)).alloc (.cells #[.int .i64 b.i, .int .i64 b.o, .int .i64 b.x, .int .i64 b.y, .int .i64 b.w, .int .i64 b.h] 35)) X) => h.below (HTR.out X hX) (Nat.le_refl _))
  have HBQ := Hk.mk (fun (X : World) (hX : Below (w.heap.size + 2) ((w.alloc (.cells #[.int .i64 W, .int .i64 H, .slice a n c] 24)).alloc (.cells #[.int .i64 b.i, .int .i64 b.o, .int .i64 b.x, .int .i64 b.y, .int .i64 b.w, .int .i64 b.h] 35)) X) => hb0.below (HTR.out X hX) (Nat.le_refl _))
  have HSZ : Hk (∀ X, Below (w.heap.size + 2) ((w.alloc (.cells #[.int .i64 W, .int .i64 H, .slice a n c] 24)).alloc (.cells #[.int .i64 b.i, .int .i64 b.o, .int .i64 b.x, .int .i64 b.y, .int .i64 b.w, .int .i64 b.h] 35)) X → w.heap.size ≤ X.heap.size) := ⟨fun X hX => by have := kw_size hX hNW; omega⟩
  have HLN := Hk.mk hb0.len
  clear h hb0
  have HG := Hk.mk MM.out.g
  have w1 := HG.out.w1; have w2 := HG.out.w2; have h1 := HG.out.h1; have h2 := HG.out.h2
  have h256 : ln ≤ 256 := by have := MM.out.len; rw [HLN.out] at this; omega
  obtain ⟨hc, hf, hl, hn', hm⟩ := kw_rules HB.out hNW
  go_enter Try.func17, Try.ntmps17
  cases hq1 : fmB b
  case false =>
    have Q1 := Hk.mk hq1
    have EV : Hk (addE W H n xs bs b = 1) := ⟨by unfold addE; rw [if_pos MM.out, if_pos hq1]⟩
    clear hq1
    go_wp2_with (go_at_call 56; (with_reducible refine (sides_as false b _ Q1).mono ?_); rintro e z ⟨rfl, hb⟩; replace HB := Hk.mk (kw_step HB.out hNW hb); clear hb; clear hc hf hl hn' hm; obtain ⟨hc, hf, hl, hn', hm⟩ := kw_rules HB.out hNW)
    go_ret2
    exact Or.inl ⟨by rw [EV.out]; decide, by rw [EV.out]; rfl, HTR.out _ HB.out⟩
  have FF := Hk.mk (fmB_iff.1 hq1)
  have Q1 := Hk.mk hq1
  clear hq1
  cases hq2 : inB W H b
  case false =>
    have Q2 := Hk.mk hq2
    have EV : Hk (addE W H n xs bs b = 3) := ⟨by unfold addE; rw [if_pos MM.out, if_neg (by rw [Q1.out]; decide), if_pos hq2]⟩
    clear hq2
    go_wp2_with (first | (go_at_call 56; (with_reducible refine (sides_as true b _ Q1).mono ?_); rintro e z ⟨rfl, hb⟩; replace HB := Hk.mk (kw_step HB.out hNW hb); clear hb; clear hc hf hl hn' hm; obtain ⟨hc, hf, hl, hn', hm⟩ := kw_rules HB.out hNW) | (go_at_call 57; (with_reducible refine (on_as false W H a n c b _ w1 w2 h1 h2 FF.out Q2).mono ?_); rintro e z ⟨rfl, hb⟩; replace HB := Hk.mk (kw_step HB.out hNW hb); clear hb; clear hc hf hl hn' hm; obtain ⟨hc, hf, hl, hn', hm⟩ := kw_rules HB.out hNW))
    go_ret2
    exact Or.inl ⟨by rw [EV.out]; decide, by rw [EV.out]; rfl, HTR.out _ HB.out⟩
  have II := Hk.mk (inB_iff.1 hq2)
  have Q2 := Hk.mk hq2
  clear hq2
  go_wp2_with (first | (go_at_call 56; (with_reducible refine (sides_as true b _ Q1).mono ?_); rintro e z ⟨rfl, hb⟩; replace HB := Hk.mk (kw_step HB.out hNW hb); clear hb; clear hc hf hl hn' hm; obtain ⟨hc, hf, hl, hn', hm⟩ := kw_rules HB.out hNW) | (go_at_call 57; (with_reducible refine (on_as true W H a n c b _ w1 w2 h1 h2 FF.out Q2).mono ?_); rintro e z ⟨rfl, hb⟩; replace HB := Hk.mk (kw_step HB.out hNW hb); clear hb; clear hc hf hl hn' hm; obtain ⟨hc, hf, hl, hn', hm⟩ := kw_rules HB.out hNW))
  clear hc hf hl hn' hm
  go_loopw [8] (fun i wr => ∃ k : Nat, i = .int .i64 k ∧ k ≤ ln ∧ Hk (∀ j, j < k → ¬ ((bs.getD j default).i = b.i ∨ mtB (bs.getD j default) b = true)) ∧ Hk (Below (w.heap.size + 2) ((w.alloc (.cells #[.int .i64 W, .int .i64 H, .slice a n c] 24)).alloc (.cells #[.int .i64 b.i, .int .i64 b.o, .int .i64 b.x, .int .i64 b.y, .int .i64 b.w, .int .i64 b.h] 35)) wr)) (fun i _ => ln - (intOf i).toNat)
  case atStart => exact ⟨0, rfl, Nat.zero_le _, ⟨fun j hj => absurd hj (by omega)⟩, HB⟩
  case round =>
    clear HB
    obtain ⟨k, rfl, hk, HJ, HB⟩ := hrel
    obtain ⟨hc, hf, hl, hn', hm⟩ := kw_rules HB.out hNW
    by_cases hlt : k < ln
    · obtain ⟨bb, off, rfl, hbl, p0, p1, p2, p3, p4, p5⟩ := (HBQ.out _ HB.out).six hlt
      have hbb : bb < wr.heap.size := by have := HSZ.out _ HB.out; omega
      have hmem : bs.getD k default ∈ bs := getD_memB (by rw [HLN.out]; exact hlt)
      have FD := Hk.mk (MM.out.fm _ hmem)
      have ID := Hk.mk (MM.out.ins _ hmem)
      clear hmem
      obtain ⟨d, hd⟩ : ∃ d, bs.getD k default = d := ⟨_, rfl⟩
      rw [hd] at p0 p1 p2 p3 p4 p5 FD ID
      have HD := Hk.mk hd
      clear hd
      have t0 : (0 : Int) ≤ (k : Int) := by omega
      have t1 : (k : Int) < (ln : Int) := by omega
      by_cases e1 : d.i = b.i
      · have EV : Hk (addE W H n xs bs b = 12) := ⟨by unfold addE; rw [if_pos MM.out, if_neg (by rw [Q1.out]; decide), if_neg (by rw [Q2.out]; decide), if_pos (Or.inl ⟨k, by rw [HLN.out]; exact hlt, by rw [HD.out]; exact e1⟩)]⟩
        have d1 : (d.i == b.i) = true := by simpa using e1
        go_wp2_with fail
        go_quiet (fail)
        go_wp2
        go_ret2
        exact Or.inl ⟨by rw [EV.out]; decide, by rw [EV.out]; rfl, HTR.out _ (below_drewN HB.out _)⟩
      have d1 : (d.i == b.i) = false := by simpa using e1
      cases hqm : mtB d b
      case true =>
        have QM := Hk.mk hqm
        have EV : Hk (addE W H n xs bs b = 12) := ⟨by unfold addE; rw [if_pos MM.out, if_neg (by rw [Q1.out]; decide), if_neg (by rw [Q2.out]; decide), if_pos ((ov_iff MM.out FF.out II.out).2 ⟨k, by rw [HLN.out]; exact hlt, .inr (by rw [HD.out]; exact hqm)⟩)]⟩
        clear hqm
        go_wp2_with fail
        have q0 : wr.cell? ⟨w.heap.size + 1, 0, none⟩ = some (.int .i64 b.i) := (hc _ _ (by omega)).trans (by go_simp)
        have q1 : wr.cell? ⟨w.heap.size + 1, 1, none⟩ = some (.int .i64 b.o) := (hc _ _ (by omega)).trans (by go_simp)
        have q2 : wr.cell? ⟨w.heap.size + 1, 2, none⟩ = some (.int .i64 b.x) := (hc _ _ (by omega)).trans (by go_simp)
        have q3 : wr.cell? ⟨w.heap.size + 1, 3, none⟩ = some (.int .i64 b.y) := (hc _ _ (by omega)).trans (by go_simp)
        have q4 : wr.cell? ⟨w.heap.size + 1, 4, none⟩ = some (.int .i64 b.w) := (hc _ _ (by omega)).trans (by go_simp)
        have q5 : wr.cell? ⟨w.heap.size + 1, 5, none⟩ = some (.int .i64 b.h) := (hc _ _ (by omega)).trans (by go_simp)
        have bX : w.heap.size + 1 < wr.heap.size := hl _ (by omega)
        have HB0 := HB
        clear HB
        clear hc hf hl hn' hm
        have L0V : wr.heap.size ≤ wr.heap.size := Nat.le_refl _
        apply reg_merge
        intro HG1
        refine wp_region_held_drew (S := fun Z => (∀ b o, b < wr.heap.size → Z.cell? ⟨b, o, none⟩ = wr.cell? ⟨b, o, none⟩)) (by kernel_rfl) (fun _ _ _ => rfl) (fun hHeld => ?_)
        have HB : Hk (Below wr.heap.size wr wr.drew) := ⟨(Below.refl _ _).drew⟩
        obtain ⟨WM, hWe⟩ : ∃ WM, wr.drew = WM := ⟨_, rfl⟩
        rw [hWe] at HB hHeld ⊢
        clear hWe
        refine wpAnyH_take (i := 0) (v := ?_) rfl (by kernel_rfl) (by kernel_rfl) (by kernel_rfl) (fun _ _ _ h => h) (Or.inl ⟨by rfl, fun wX hSw => ?_⟩) (by assumption) ?_
        rotate_left
        · (try dsimp only at hSw); go_simp; try with_reducible rfl
        (try simp only [Act.put, List.getElem_toArray, List.getElem_cons_succ, List.getElem_cons_zero, List.setIfInBounds_toArray, List.set_cons_zero, List.set_cons_succ])
        refine wpAnyH_take (i := 1) (v := ?_) rfl (by kernel_rfl) (by kernel_rfl) (by kernel_rfl) (fun _ _ _ h => h) (Or.inl ⟨by rfl, fun wX hSw => ?_⟩) (by assumption) ?_
        rotate_left
        · (try dsimp only at hSw); go_simp; try with_reducible rfl
        (try simp only [Act.put, List.getElem_toArray, List.getElem_cons_succ, List.getElem_cons_zero, List.setIfInBounds_toArray, List.set_cons_zero, List.set_cons_succ])
        refine wpAnyH_take (i := 2) (v := ?_) rfl (by kernel_rfl) (by kernel_rfl) (by kernel_rfl) (fun _ _ _ h => h) (Or.inl ⟨by rfl, fun wX hSw => ?_⟩) (by assumption) ?_
        rotate_left
        · (try dsimp only at hSw); go_simp; try with_reducible rfl
        (try simp only [Act.put, List.getElem_toArray, List.getElem_cons_succ, List.getElem_cons_zero, List.setIfInBounds_toArray, List.set_cons_zero, List.set_cons_succ])
        refine wpAnyH_take (i := 3) (v := ?_) rfl (by kernel_rfl) (by kernel_rfl) (by kernel_rfl) (fun _ _ _ h => h) (Or.inl ⟨by rfl, fun wX hSw => ?_⟩) (by assumption) ?_
        rotate_left
        · (try dsimp only at hSw); go_simp; try with_reducible rfl
        (try simp only [Act.put, List.getElem_toArray, List.getElem_cons_succ, List.getElem_cons_zero, List.setIfInBounds_toArray, List.set_cons_zero, List.set_cons_succ])
        refine wpAnyH_take (i := 4) (v := ?_) rfl (by kernel_rfl) (by kernel_rfl) (by kernel_rfl) (fun _ _ _ h => h) (Or.inl ⟨by rfl, fun wX hSw => ?_⟩) (by assumption) ?_
        rotate_left
        · (try dsimp only at hSw); go_simp; try with_reducible rfl
        (try simp only [Act.put, List.getElem_toArray, List.getElem_cons_succ, List.getElem_cons_zero, List.setIfInBounds_toArray, List.set_cons_zero, List.set_cons_succ])
        refine wpAnyH_take (i := 5) (v := ?_) rfl (by kernel_rfl) (by kernel_rfl) (by kernel_rfl) (fun _ _ _ h => h) (Or.inl ⟨by rfl, fun wX hSw => ?_⟩) (by assumption) ?_
        rotate_left
        · (try dsimp only at hSw); go_simp; try with_reducible rfl
        (try simp only [Act.put, List.getElem_toArray, List.getElem_cons_succ, List.getElem_cons_zero, List.setIfInBounds_toArray, List.set_cons_zero, List.set_cons_succ])
        refine wpAnyH_take (i := 6) (v := ?_) rfl (by kernel_rfl) (by kernel_rfl) (by kernel_rfl) (fun _ _ _ h => h) (Or.inl ⟨by rfl, fun wX hSw => ?_⟩) (by assumption) ?_
        rotate_left
        · (try dsimp only at hSw); go_simp; try with_reducible rfl
        (try simp only [Act.put, List.getElem_toArray, List.getElem_cons_succ, List.getElem_cons_zero, List.setIfInBounds_toArray, List.set_cons_zero, List.set_cons_succ])
        refine wpAnyH_take (i := 7) (v := ?_) rfl (by kernel_rfl) (by kernel_rfl) (by kernel_rfl) (fun _ _ _ h => h) (Or.inl ⟨by rfl, fun wX hSw => ?_⟩) (by assumption) ?_
        rotate_left
        · (try dsimp only at hSw); go_simp; try with_reducible rfl
        (try simp only [Act.put, List.getElem_toArray, List.getElem_cons_succ, List.getElem_cons_zero, List.setIfInBounds_toArray, List.set_cons_zero, List.set_cons_succ])
        refine wpAnyH_take (i := 8) (v := ?_) rfl (by kernel_rfl) (by kernel_rfl) (by kernel_rfl) (fun _ _ _ h => h) (Or.inl ⟨by rfl, fun wX hSw => ?_⟩) (by assumption) ?_
        rotate_left
        · (try dsimp only at hSw); go_simp; try with_reducible rfl
        (try simp only [Act.put, List.getElem_toArray, List.getElem_cons_succ, List.getElem_cons_zero, List.setIfInBounds_toArray, List.set_cons_zero, List.set_cons_succ])
        refine wpAnyH_take (i := 9) (v := ?_) rfl (by kernel_rfl) (by kernel_rfl) (by kernel_rfl) (fun _ _ _ h => h) (Or.inl ⟨by rfl, fun wX hSw => ?_⟩) (by assumption) ?_
        rotate_left
        · (try dsimp only at hSw); go_simp; try with_reducible rfl
        (try simp only [Act.put, List.getElem_toArray, List.getElem_cons_succ, List.getElem_cons_zero, List.setIfInBounds_toArray, List.set_cons_zero, List.set_cons_succ])
        refine wpAnyH_take (i := 10) (v := ?_) rfl (by kernel_rfl) (by kernel_rfl) (by kernel_rfl) (fun _ _ _ h => h) (Or.inl ⟨by rfl, fun wX hSw => ?_⟩) (by assumption) ?_
        rotate_left
        · (try dsimp only at hSw); go_simp; try with_reducible rfl
        (try simp only [Act.put, List.getElem_toArray, List.getElem_cons_succ, List.getElem_cons_zero, List.setIfInBounds_toArray, List.set_cons_zero, List.set_cons_succ])
        refine wpAnyH_take (i := 11) (v := ?_) rfl (by kernel_rfl) (by kernel_rfl) (by kernel_rfl) (fun _ _ _ h => h) (Or.inl ⟨by rfl, fun wX hSw => ?_⟩) (by assumption) ?_
        rotate_left
        · (try dsimp only at hSw); go_simp; try with_reducible rfl
        (try simp only [Act.put, List.getElem_toArray, List.getElem_cons_succ, List.getElem_cons_zero, List.setIfInBounds_toArray, List.set_cons_zero, List.set_cons_succ])
        refine wpAnyH_take (i := 12) (v := ?_) rfl (by kernel_rfl) (by kernel_rfl) (by kernel_rfl) (fun _ _ _ h => h) (Or.inl ⟨by rfl, fun wX hSw => ?_⟩) (by assumption) ?_
        rotate_left
        · (try dsimp only at hSw); go_simp; try with_reducible rfl
        (try simp only [Act.put, List.getElem_toArray, List.getElem_cons_succ, List.getElem_cons_zero, List.setIfInBounds_toArray, List.set_cons_zero, List.set_cons_succ])
        refine wpAnyH_take (i := 13) (v := ?_) rfl (by kernel_rfl) (by kernel_rfl) (by kernel_rfl) (fun _ _ _ h => h) (Or.inl ⟨by rfl, fun wX hSw => ?_⟩) (by assumption) ?_
        rotate_left
        · (try dsimp only at hSw); go_simp; try with_reducible rfl
        (try simp only [Act.put, List.getElem_toArray, List.getElem_cons_succ, List.getElem_cons_zero, List.setIfInBounds_toArray, List.set_cons_zero, List.set_cons_succ])
        refine wpAnyH_ready (rs := [14]) (by kernel_rfl) (by simp) ?_
        refine AllReadyH.cons rfl (fun K hK => ?_) (AllReadyH.nil)
        · skip
          go_simp
          ((go_at_call 58; (with_reducible refine (meet_as true d b _ W H w2 h2 FD.out FF.out ID.out II.out QM).mono ?_); rintro e z ⟨rfl, hb⟩))
          replace HB := Hk.mk (kw_step HB.out L0V hb)
          clear hb
          refine hK.out _ _ ?_ (fun hHeld2 => ?_)
          · exact kw_s HB.out
          clear hK K hHeld
          have hHeld := hHeld2
          clear hHeld2
          (try simp only [Act.put, List.getElem_toArray, List.getElem_cons_succ, List.getElem_cons_zero, List.setIfInBounds_toArray, List.set_cons_zero, List.set_cons_succ])
          refine wpAnyH_take (i := 15) (v := ?_) rfl (by kernel_rfl) (by kernel_rfl) (by kernel_rfl) (fun _ _ _ h => h) (Or.inl ⟨by rfl, fun wX hSw => ?_⟩) (by assumption) ?_
          rotate_left
          · (try dsimp only at hSw); go_simp; try with_reducible rfl
          (try simp only [Act.put, List.getElem_toArray, List.getElem_cons_succ, List.getElem_cons_zero, List.setIfInBounds_toArray, List.set_cons_zero, List.set_cons_succ])
          refine reg_cast (l' := #[true, true, true, true, true, true, true, true, true, true, true, true, true, true, true, true]) (by kernel_rfl) ?_
          revert hHeld
          revert HB
          revert z
          exact HG1.out
        intro WM HB hHeld
        refine wpAnyH_done (by kernel_rfl) ?_ _
        replace HB := Hk.mk (kw_step HB0.out hNW HB.out)
        clear q0 q1 q2 q3 q4 q5
        obtain ⟨hc, hf, hl, hn', hm⟩ := kw_rules HB.out hNW
        go_wp2_with fail
        go_ret2
        exact Or.inl ⟨by rw [EV.out]; decide, by rw [EV.out]; rfl, HTR.out _ HB.out⟩
      have QM := Hk.mk hqm
      clear hqm
      have HJ2 : Hk (∀ j, j < k + 1 → ¬ ((bs.getD j default).i = b.i ∨ mtB (bs.getD j default) b = true)) := ⟨fun j hj => by
        by_cases c : j = k
        · subst c
          rw [HD.out, QM.out]
          simp [e1]
        · exact HJ.out j (by omega)⟩
      clear e1 HJ
      go_wp2_with fail
      have q0 : wr.cell? ⟨w.heap.size + 1, 0, none⟩ = some (.int .i64 b.i) := (hc _ _ (by omega)).trans (by go_simp)
      have q1 : wr.cell? ⟨w.heap.size + 1, 1, none⟩ = some (.int .i64 b.o) := (hc _ _ (by omega)).trans (by go_simp)
      have q2 : wr.cell? ⟨w.heap.size + 1, 2, none⟩ = some (.int .i64 b.x) := (hc _ _ (by omega)).trans (by go_simp)
      have q3 : wr.cell? ⟨w.heap.size + 1, 3, none⟩ = some (.int .i64 b.y) := (hc _ _ (by omega)).trans (by go_simp)
      have q4 : wr.cell? ⟨w.heap.size + 1, 4, none⟩ = some (.int .i64 b.w) := (hc _ _ (by omega)).trans (by go_simp)
      have q5 : wr.cell? ⟨w.heap.size + 1, 5, none⟩ = some (.int .i64 b.h) := (hc _ _ (by omega)).trans (by go_simp)
      have bX : w.heap.size + 1 < wr.heap.size := hl _ (by omega)
      have HB0 := HB
      clear HB
      clear hc hf hl hn' hm
      have L0V : wr.heap.size ≤ wr.heap.size := Nat.le_refl _
      apply reg_merge
      intro HG1
      refine wp_region_held_drew (S := fun Z => (∀ b o, b < wr.heap.size → Z.cell? ⟨b, o, none⟩ = wr.cell? ⟨b, o, none⟩)) (by kernel_rfl) (fun _ _ _ => rfl) (fun hHeld => ?_)
      have HB : Hk (Below wr.heap.size wr wr.drew) := ⟨(Below.refl _ _).drew⟩
      obtain ⟨WM, hWe⟩ : ∃ WM, wr.drew = WM := ⟨_, rfl⟩
      rw [hWe] at HB hHeld ⊢
      clear hWe
      refine wpAnyH_take (i := 0) (v := ?_) rfl (by kernel_rfl) (by kernel_rfl) (by kernel_rfl) (fun _ _ _ h => h) (Or.inl ⟨by rfl, fun wX hSw => ?_⟩) (by assumption) ?_
      rotate_left
      · (try dsimp only at hSw); go_simp; try with_reducible rfl
      (try simp only [Act.put, List.getElem_toArray, List.getElem_cons_succ, List.getElem_cons_zero, List.setIfInBounds_toArray, List.set_cons_zero, List.set_cons_succ])
      refine wpAnyH_take (i := 1) (v := ?_) rfl (by kernel_rfl) (by kernel_rfl) (by kernel_rfl) (fun _ _ _ h => h) (Or.inl ⟨by rfl, fun wX hSw => ?_⟩) (by assumption) ?_
      rotate_left
      · (try dsimp only at hSw); go_simp; try with_reducible rfl
      (try simp only [Act.put, List.getElem_toArray, List.getElem_cons_succ, List.getElem_cons_zero, List.setIfInBounds_toArray, List.set_cons_zero, List.set_cons_succ])
      refine wpAnyH_take (i := 2) (v := ?_) rfl (by kernel_rfl) (by kernel_rfl) (by kernel_rfl) (fun _ _ _ h => h) (Or.inl ⟨by rfl, fun wX hSw => ?_⟩) (by assumption) ?_
      rotate_left
      · (try dsimp only at hSw); go_simp; try with_reducible rfl
      (try simp only [Act.put, List.getElem_toArray, List.getElem_cons_succ, List.getElem_cons_zero, List.setIfInBounds_toArray, List.set_cons_zero, List.set_cons_succ])
      refine wpAnyH_take (i := 3) (v := ?_) rfl (by kernel_rfl) (by kernel_rfl) (by kernel_rfl) (fun _ _ _ h => h) (Or.inl ⟨by rfl, fun wX hSw => ?_⟩) (by assumption) ?_
      rotate_left
      · (try dsimp only at hSw); go_simp; try with_reducible rfl
      (try simp only [Act.put, List.getElem_toArray, List.getElem_cons_succ, List.getElem_cons_zero, List.setIfInBounds_toArray, List.set_cons_zero, List.set_cons_succ])
      refine wpAnyH_take (i := 4) (v := ?_) rfl (by kernel_rfl) (by kernel_rfl) (by kernel_rfl) (fun _ _ _ h => h) (Or.inl ⟨by rfl, fun wX hSw => ?_⟩) (by assumption) ?_
      rotate_left
      · (try dsimp only at hSw); go_simp; try with_reducible rfl
      (try simp only [Act.put, List.getElem_toArray, List.getElem_cons_succ, List.getElem_cons_zero, List.setIfInBounds_toArray, List.set_cons_zero, List.set_cons_succ])
      refine wpAnyH_take (i := 5) (v := ?_) rfl (by kernel_rfl) (by kernel_rfl) (by kernel_rfl) (fun _ _ _ h => h) (Or.inl ⟨by rfl, fun wX hSw => ?_⟩) (by assumption) ?_
      rotate_left
      · (try dsimp only at hSw); go_simp; try with_reducible rfl
      (try simp only [Act.put, List.getElem_toArray, List.getElem_cons_succ, List.getElem_cons_zero, List.setIfInBounds_toArray, List.set_cons_zero, List.set_cons_succ])
      refine wpAnyH_take (i := 6) (v := ?_) rfl (by kernel_rfl) (by kernel_rfl) (by kernel_rfl) (fun _ _ _ h => h) (Or.inl ⟨by rfl, fun wX hSw => ?_⟩) (by assumption) ?_
      rotate_left
      · (try dsimp only at hSw); go_simp; try with_reducible rfl
      (try simp only [Act.put, List.getElem_toArray, List.getElem_cons_succ, List.getElem_cons_zero, List.setIfInBounds_toArray, List.set_cons_zero, List.set_cons_succ])
      refine wpAnyH_take (i := 7) (v := ?_) rfl (by kernel_rfl) (by kernel_rfl) (by kernel_rfl) (fun _ _ _ h => h) (Or.inl ⟨by rfl, fun wX hSw => ?_⟩) (by assumption) ?_
      rotate_left
      · (try dsimp only at hSw); go_simp; try with_reducible rfl
      (try simp only [Act.put, List.getElem_toArray, List.getElem_cons_succ, List.getElem_cons_zero, List.setIfInBounds_toArray, List.set_cons_zero, List.set_cons_succ])
      refine wpAnyH_take (i := 8) (v := ?_) rfl (by kernel_rfl) (by kernel_rfl) (by kernel_rfl) (fun _ _ _ h => h) (Or.inl ⟨by rfl, fun wX hSw => ?_⟩) (by assumption) ?_
      rotate_left
      · (try dsimp only at hSw); go_simp; try with_reducible rfl
      (try simp only [Act.put, List.getElem_toArray, List.getElem_cons_succ, List.getElem_cons_zero, List.setIfInBounds_toArray, List.set_cons_zero, List.set_cons_succ])
      refine wpAnyH_take (i := 9) (v := ?_) rfl (by kernel_rfl) (by kernel_rfl) (by kernel_rfl) (fun _ _ _ h => h) (Or.inl ⟨by rfl, fun wX hSw => ?_⟩) (by assumption) ?_
      rotate_left
      · (try dsimp only at hSw); go_simp; try with_reducible rfl
      (try simp only [Act.put, List.getElem_toArray, List.getElem_cons_succ, List.getElem_cons_zero, List.setIfInBounds_toArray, List.set_cons_zero, List.set_cons_succ])
      refine wpAnyH_take (i := 10) (v := ?_) rfl (by kernel_rfl) (by kernel_rfl) (by kernel_rfl) (fun _ _ _ h => h) (Or.inl ⟨by rfl, fun wX hSw => ?_⟩) (by assumption) ?_
      rotate_left
      · (try dsimp only at hSw); go_simp; try with_reducible rfl
      (try simp only [Act.put, List.getElem_toArray, List.getElem_cons_succ, List.getElem_cons_zero, List.setIfInBounds_toArray, List.set_cons_zero, List.set_cons_succ])
      refine wpAnyH_take (i := 11) (v := ?_) rfl (by kernel_rfl) (by kernel_rfl) (by kernel_rfl) (fun _ _ _ h => h) (Or.inl ⟨by rfl, fun wX hSw => ?_⟩) (by assumption) ?_
      rotate_left
      · (try dsimp only at hSw); go_simp; try with_reducible rfl
      (try simp only [Act.put, List.getElem_toArray, List.getElem_cons_succ, List.getElem_cons_zero, List.setIfInBounds_toArray, List.set_cons_zero, List.set_cons_succ])
      refine wpAnyH_take (i := 12) (v := ?_) rfl (by kernel_rfl) (by kernel_rfl) (by kernel_rfl) (fun _ _ _ h => h) (Or.inl ⟨by rfl, fun wX hSw => ?_⟩) (by assumption) ?_
      rotate_left
      · (try dsimp only at hSw); go_simp; try with_reducible rfl
      (try simp only [Act.put, List.getElem_toArray, List.getElem_cons_succ, List.getElem_cons_zero, List.setIfInBounds_toArray, List.set_cons_zero, List.set_cons_succ])
      refine wpAnyH_take (i := 13) (v := ?_) rfl (by kernel_rfl) (by kernel_rfl) (by kernel_rfl) (fun _ _ _ h => h) (Or.inl ⟨by rfl, fun wX hSw => ?_⟩) (by assumption) ?_
      rotate_left
      · (try dsimp only at hSw); go_simp; try with_reducible rfl
      (try simp only [Act.put, List.getElem_toArray, List.getElem_cons_succ, List.getElem_cons_zero, List.setIfInBounds_toArray, List.set_cons_zero, List.set_cons_succ])
      refine wpAnyH_ready (rs := [14]) (by kernel_rfl) (by simp) ?_
      refine AllReadyH.cons rfl (fun K hK => ?_) (AllReadyH.nil)
      · skip
        go_simp
        ((go_at_call 58; (with_reducible refine (meet_as false d b _ W H w2 h2 FD.out FF.out ID.out II.out QM).mono ?_); rintro e z ⟨rfl, hb⟩))
        replace HB := Hk.mk (kw_step HB.out L0V hb)
        clear hb
        refine hK.out _ _ ?_ (fun hHeld2 => ?_)
        · exact kw_s HB.out
        clear hK K hHeld
        have hHeld := hHeld2
        clear hHeld2
        (try simp only [Act.put, List.getElem_toArray, List.getElem_cons_succ, List.getElem_cons_zero, List.setIfInBounds_toArray, List.set_cons_zero, List.set_cons_succ])
        refine wpAnyH_take (i := 15) (v := ?_) rfl (by kernel_rfl) (by kernel_rfl) (by kernel_rfl) (fun _ _ _ h => h) (Or.inl ⟨by rfl, fun wX hSw => ?_⟩) (by assumption) ?_
        rotate_left
        · (try dsimp only at hSw); go_simp; try with_reducible rfl
        (try simp only [Act.put, List.getElem_toArray, List.getElem_cons_succ, List.getElem_cons_zero, List.setIfInBounds_toArray, List.set_cons_zero, List.set_cons_succ])
        refine reg_cast (l' := #[true, true, true, true, true, true, true, true, true, true, true, true, true, true, true, true]) (by kernel_rfl) ?_
        revert hHeld
        revert HB
        revert z
        exact HG1.out
      intro WM HB hHeld
      refine wpAnyH_done (by kernel_rfl) ?_ _
      replace HB := Hk.mk (kw_step HB0.out hNW HB.out)
      clear q0 q1 q2 q3 q4 q5
      obtain ⟨hc, hf, hl, hn', hm⟩ := kw_rules HB.out hNW
      go_wp2_with fail
      exact ⟨⟨k + 1, by go_num, by omega, HJ2, HB⟩, by simp [intOf]; omega⟩
    · have hkn : k = ln := by omega
      subst hkn
      have HOV : Hk (¬ ((∃ k, k < bs.length ∧ (bs.getD k default).i = b.i) ∨ (undL W b).any (fun t => cvB W bs t) = true)) := ⟨fun h => by
        obtain ⟨j, hj, e⟩ := (ov_iff MM.out FF.out II.out).1 h
        exact HJ.out j (by rw [← HLN.out]; exact hj) e⟩
      clear HJ
      cases hq4 : frB W xs b
      case false =>
        have Q4 := Hk.mk hq4
        have EV : Hk (addE W H n xs bs b = 5) := ⟨by unfold addE; rw [if_pos MM.out, if_neg (by rw [Q1.out]; decide), if_neg (by rw [Q2.out]; decide), if_neg HOV.out, if_pos hq4]⟩
        clear hq4
        go_wp2_with (go_at_call 59; (with_reducible refine (rfirm_as false W H a n c w.heap.size xs b _ ?_ ?_ HG.out FF.out II.out Q4).mono ?_); (exact HBY.out _ HB.out); (exact HSZ.out _ HB.out); rintro e z ⟨rfl, hb⟩; replace HB := Hk.mk (kw_step HB.out hNW hb); clear hb; clear hc hf hl hn' hm; obtain ⟨hc, hf, hl, hn', hm⟩ := kw_rules HB.out hNW)
        go_ret2
        exact Or.inl ⟨by rw [EV.out]; decide, by rw [EV.out]; rfl, HTR.out _ HB.out⟩
      have Q4 := Hk.mk hq4
      clear hq4
      by_cases hq5 : k = 256
      · have EV : Hk (addE W H n xs bs b = 4) := ⟨by unfold addE; rw [if_pos MM.out, if_neg (by rw [Q1.out]; decide), if_neg (by rw [Q2.out]; decide), if_neg HOV.out, if_neg (by rw [Q4.out]; decide), if_pos (by rw [HLN.out]; exact hq5)]⟩
        subst hq5
        go_wp2_with (go_at_call 59; (with_reducible refine (rfirm_as true W H a n c w.heap.size xs b _ ?_ ?_ HG.out FF.out II.out Q4).mono ?_); (exact HBY.out _ HB.out); (exact HSZ.out _ HB.out); rintro e z ⟨rfl, hb⟩; replace HB := Hk.mk (kw_step HB.out hNW hb); clear hb; clear hc hf hl hn' hm; obtain ⟨hc, hf, hl, hn', hm⟩ := kw_rules HB.out hNW)
        go_ret2
        exact Or.inl ⟨by rw [EV.out]; decide, by rw [EV.out]; rfl, HTR.out _ HB.out⟩
      have EV : Hk (addE W H n xs bs b = 0) := ⟨by unfold addE; rw [if_pos MM.out, if_neg (by rw [Q1.out]; decide), if_neg (by rw [Q2.out]; decide), if_neg HOV.out, if_neg (by rw [Q4.out]; decide), if_neg (by rw [HLN.out]; exact hq5)]⟩
      have d256 : decide ((256 : Int) ≤ (k : Int)) = false := by simp; omega
      go_wp2_with (go_at_call 59; (with_reducible refine (rfirm_as true W H a n c w.heap.size xs b _ ?_ ?_ HG.out FF.out II.out Q4).mono ?_); (exact HBY.out _ HB.out); (exact HSZ.out _ HB.out); rintro e z ⟨rfl, hb⟩; replace HB := Hk.mk (kw_step HB.out hNW hb); clear hb; clear hc hf hl hn' hm; obtain ⟨hc, hf, hl, hn', hm⟩ := kw_rules HB.out hNW)
      clear hc hf hl hn' hm
      obtain ⟨wo, rfl⟩ : ∃ wo : World, wo = wr := ⟨wr, rfl⟩
      go_loopw [9] (fun s wr => ∃ i : Nat, s = .int .i64 i ∧ i ≤ k ∧ Hk (∀ j, j < i → (bs.getD j default).i < b.i) ∧ Hk (Below (w.heap.size + 2) ((w.alloc (.cells #[.int .i64 W, .int .i64 H, .slice a n c] 24)).alloc (.cells #[.int .i64 b.i, .int .i64 b.o, .int .i64 b.x, .int .i64 b.y, .int .i64 b.w, .int .i64 b.h] 35)) wr)) (fun i _ => k - (intOf i).toNat)
      case atStart => exact ⟨0, rfl, Nat.zero_le _, ⟨fun j hj => absurd hj (by omega)⟩, HB⟩
      case round =>
        clear HB
        obtain ⟨i, rfl, hin, HJ, HB⟩ := hrel
        obtain ⟨hc, hf, hl, hn', hm⟩ := kw_rules HB.out hNW
        have i0 : (0 : Int) ≤ (i : Int) := by omega
        by_cases hgo : i < k ∧ (bs.getD i default).i < b.i
        · obtain ⟨g1, g2⟩ := hgo
          obtain ⟨bb, off, rfl, hbl, p0, p1, p2, p3, p4, p5⟩ := (HBQ.out _ HB.out).six g1
          have hbb : bb < wr.heap.size := by have := HSZ.out _ HB.out; omega
          have HJ2 : Hk (∀ j, j < i + 1 → (bs.getD j default).i < b.i) := ⟨fun j hj => by
            by_cases c : j = i
            · subst c; exact g2
            · exact HJ.out j (by omega)⟩
          obtain ⟨d, hd⟩ : ∃ d, bs.getD i default = d := ⟨_, rfl⟩
          rw [hd] at p0 p1 p2 p3 p4 p5 g2
          clear hd HJ
          have t1 : (i : Int) < (k : Int) := by omega
          have d1 : decide (d.i < b.i) = true := by simpa using g2
          go_wp2_with fail
          go_quiet (fail)
          go_wp2
          exact ⟨⟨i + 1, by go_num, by omega, HJ2, ⟨below_drewN HB.out _⟩⟩, by simp [intOf]; omega⟩
        · have HIB := Hk.mk (insB_at bs b i (by rw [HLN.out]; exact hin) HJ.out (fun hi => by rw [HLN.out] at hi; exact fun h => hgo ⟨hi, h⟩))
          have HEX : Hk (i < k → ¬ (bs.getD i default).i < b.i) := ⟨fun h1 h2 => hgo ⟨h1, h2⟩⟩
          clear HJ hgo
          by_cases hil : i < k
          · obtain ⟨bb, off, rfl, hbl, p0, p1, p2, p3, p4, p5⟩ := (HBQ.out _ HB.out).six hil
            have hbb : bb < wr.heap.size := by have := HSZ.out _ HB.out; omega
            have g2 := HEX.out hil
            obtain ⟨d, hd⟩ : ∃ d, bs.getD i default = d := ⟨_, rfl⟩
            rw [hd] at p0 p1 p2 p3 p4 p5 g2
            clear hd HEX
            have t1 : (i : Int) < (k : Int) := by omega
            have d1 : decide (d.i < b.i) = false := by simpa using g2
            go_wp2_with fail
            go_quiet (fail)
            go_wp2
            clear hc hf hl hn' hm
            replace HB := Hk.mk (below_drewN HB.out nq)
            generalize World.drewN wr nq = VA at *
            obtain ⟨hc, hf, hl, hn', hm⟩ := kw_rules HB.out hNW
            have q0 : VA.cell? ⟨w.heap.size + 1, 0, none⟩ = some (.int .i64 b.i) := (hc _ _ (by omega)).trans (by go_simp)
            have q1 : VA.cell? ⟨w.heap.size + 1, 1, none⟩ = some (.int .i64 b.o) := (hc _ _ (by omega)).trans (by go_simp)
            have q2 : VA.cell? ⟨w.heap.size + 1, 2, none⟩ = some (.int .i64 b.x) := (hc _ _ (by omega)).trans (by go_simp)
            have q3 : VA.cell? ⟨w.heap.size + 1, 3, none⟩ = some (.int .i64 b.y) := (hc _ _ (by omega)).trans (by go_simp)
            have q4 : VA.cell? ⟨w.heap.size + 1, 4, none⟩ = some (.int .i64 b.w) := (hc _ _ (by omega)).trans (by go_simp)
            have q5 : VA.cell? ⟨w.heap.size + 1, 5, none⟩ = some (.int .i64 b.h) := (hc _ _ (by omega)).trans (by go_simp)
            have bX : w.heap.size + 1 < VA.heap.size := hl _ (by omega)
            have HB0 := HB
            have HQV := Hk.mk (HBQ.out _ HB.out)
            have hszv := Hk.mk (HSZ.out _ HB.out)
            have i1 : (i : Int) ≤ (lc : Int) := by omega
            clear HB
            clear hc hf hl hn' hm
            have L0V : VA.heap.size ≤ VA.heap.size := Nat.le_refl _
            apply reg_merge
            intro HG4
            apply reg_merge
            intro HG3
            apply reg_merge
            intro HG2
            apply reg_merge
            intro HG1
            refine wp_region_held_drew (S := fun Z => (∀ b o, b < VA.heap.size → Z.cell? ⟨b, o, none⟩ = VA.cell? ⟨b, o, none⟩)) (by kernel_rfl) (fun _ _ _ => rfl) (fun hHeld => ?_)
            have HB : Hk (Below VA.heap.size VA VA.drew) := ⟨(Below.refl _ _).drew⟩
            obtain ⟨WZ, hWe⟩ : ∃ WZ, VA.drew = WZ := ⟨_, rfl⟩
            rw [hWe] at HB hHeld ⊢
            clear hWe
            refine wpAnyH_take (i := 0) (v := ?_) rfl (by kernel_rfl) (by kernel_rfl) (by kernel_rfl) (fun _ _ _ h => h) (Or.inl ⟨by rfl, fun wX hSw => ?_⟩) (by assumption) ?_
            rotate_left
            · (try dsimp only at hSw); go_simp; try with_reducible rfl
            (try simp only [Act.put, List.getElem_toArray, List.getElem_cons_succ, List.getElem_cons_zero, List.setIfInBounds_toArray, List.set_cons_zero, List.set_cons_succ])
            refine wpAnyH_take (i := 1) (v := ?_) rfl (by kernel_rfl) (by kernel_rfl) (by kernel_rfl) (fun _ _ _ h => h) (Or.inl ⟨by rfl, fun wX hSw => ?_⟩) (by assumption) ?_
            rotate_left
            · (try dsimp only at hSw); go_simp; try with_reducible rfl
            (try simp only [Act.put, List.getElem_toArray, List.getElem_cons_succ, List.getElem_cons_zero, List.setIfInBounds_toArray, List.set_cons_zero, List.set_cons_succ])
            refine wpAnyH_take (i := 2) (v := ?_) rfl (by kernel_rfl) (by kernel_rfl) (by kernel_rfl) (fun _ _ _ h => h) (Or.inl ⟨by rfl, fun wX hSw => ?_⟩) (by assumption) ?_
            rotate_left
            · (try dsimp only at hSw); go_simp; try with_reducible rfl
            (try simp only [Act.put, List.getElem_toArray, List.getElem_cons_succ, List.getElem_cons_zero, List.setIfInBounds_toArray, List.set_cons_zero, List.set_cons_succ])
            refine wpAnyH_take (i := 4) (v := ?_) rfl (by kernel_rfl) (by kernel_rfl) (by kernel_rfl) (fun _ _ _ h => h) (Or.inl ⟨by rfl, fun wX hSw => ?_⟩) (by assumption) ?_
            rotate_left
            · (try dsimp only at hSw); go_simp; try with_reducible rfl
            (try simp only [Act.put, List.getElem_toArray, List.getElem_cons_succ, List.getElem_cons_zero, List.setIfInBounds_toArray, List.set_cons_zero, List.set_cons_succ])
            refine wpAnyH_ready (rs := [3, 5]) (by kernel_rfl) (by simp) ?_
            refine AllReadyH.cons rfl (fun K hK => ?_) (AllReadyH.cons rfl (fun K hK => ?_) (AllReadyH.nil))
            · skip
              go_simp
              ((go_at_call 15; (with_reducible refine (copyb_any (some ⟨bb, off, none⟩) i lc w.heap.size (bs.take i) _ (bq_head (HQV.out.below HB.out hszv.out) hin) (Nat.le_trans hszv.out (kw_le HB.out L0V)) (by omega)).mono ?_); rintro e z ⟨v, rfl, hv, hb⟩; have HV := Hk.mk (hv.weak (kw_le HB.out L0V)); clear hv))
              replace HB := Hk.mk (kw_step HB.out L0V hb)
              clear hb
              refine hK.out _ _ ?_ (fun hHeld2 => ?_)
              · exact kw_s HB.out
              clear hK K hHeld
              have hHeld := hHeld2
              clear hHeld2
              (try simp only [Act.put, List.getElem_toArray, List.getElem_cons_succ, List.getElem_cons_zero, List.setIfInBounds_toArray, List.set_cons_zero, List.set_cons_succ])
              refine reg_cast (l' := #[true, true, true, true, true, false, false, false]) (by kernel_rfl) ?_
              revert hHeld
              revert HV
              revert HB
              revert v
              revert z
              exact HG1.out
            · skip
              go_simp
              have L_S := kw_le HB.out L0V
              have HP_S : Hk (Bk _ _ #[.int .i64 b.i, .int .i64 b.o, .int .i64 b.x, .int .i64 b.y, .int .i64 b.w, .int .i64 b.h]) := ⟨Bk.new WZ #[.int .i64 b.i, .int .i64 b.o, .int .i64 b.x, .int .i64 b.y, .int .i64 b.w, .int .i64 b.h] 35⟩
              replace HB := Hk.mk (kw_al HB.out L0V (.cells #[.int .i64 b.i, .int .i64 b.o, .int .i64 b.x, .int .i64 b.y, .int .i64 b.w, .int .i64 b.h] 35))
              refine hK.out _ _ ?_ (fun hHeld2 => ?_)
              · exact kw_s HB.out
              clear hK K hHeld
              have hHeld := hHeld2
              clear hHeld2
              (try simp only [Act.put, List.getElem_toArray, List.getElem_cons_succ, List.getElem_cons_zero, List.setIfInBounds_toArray, List.set_cons_zero, List.set_cons_succ])
              generalize WZ.heap.size = S at *
              generalize WZ.alloc (.cells #[.int .i64 b.i, .int .i64 b.o, .int .i64 b.x, .int .i64 b.y, .int .i64 b.w, .int .i64 b.h] 35) = WZx at *
              refine reg_cast (l' := #[true, true, true, false, true, true, false, false]) (by kernel_rfl) ?_
              revert hHeld
              revert L_S
              revert HP_S
              revert HB
              revert S
              revert WZx
              exact HG2.out
            intro WZ v HB HV hHeld
            refine wpAnyH_ready (rs := [5]) (by kernel_rfl) (by simp) ?_
            refine AllReadyH.cons rfl (fun K hK => ?_) (AllReadyH.nil)
            · skip
              go_simp
              have hb := kw_al (Below.refl WZ.heap.size WZ) (Nat.le_refl _) (.cells #[.int .i64 b.i, .int .i64 b.o, .int .i64 b.x, .int .i64 b.y, .int .i64 b.w, .int .i64 b.h] 35)
              replace HV := Hk.mk (HV.out.below hb)
              clear hb
              have L_S := kw_le HB.out L0V
              have HP_S : Hk (Bk _ _ #[.int .i64 b.i, .int .i64 b.o, .int .i64 b.x, .int .i64 b.y, .int .i64 b.w, .int .i64 b.h]) := ⟨Bk.new WZ #[.int .i64 b.i, .int .i64 b.o, .int .i64 b.x, .int .i64 b.y, .int .i64 b.w, .int .i64 b.h] 35⟩
              replace HB := Hk.mk (kw_al HB.out L0V (.cells #[.int .i64 b.i, .int .i64 b.o, .int .i64 b.x, .int .i64 b.y, .int .i64 b.w, .int .i64 b.h] 35))
              refine hK.out _ _ ?_ (fun hHeld2 => ?_)
              · exact kw_s HB.out
              clear hK K hHeld
              have hHeld := hHeld2
              clear hHeld2
              (try simp only [Act.put, List.getElem_toArray, List.getElem_cons_succ, List.getElem_cons_zero, List.setIfInBounds_toArray, List.set_cons_zero, List.set_cons_succ])
              generalize WZ.heap.size = S at *
              generalize WZ.alloc (.cells #[.int .i64 b.i, .int .i64 b.o, .int .i64 b.x, .int .i64 b.y, .int .i64 b.w, .int .i64 b.h] 35) = WZx at *
              refine reg_cast (l' := #[true, true, true, true, true, true, false, false]) (by kernel_rfl) ?_
              revert hHeld
              revert HV
              revert L_S
              revert HP_S
              revert HB
              revert v
              revert S
              revert WZx
              exact HG3.out
            intro WZ S HB HP_S L_S hHeld
            refine wpAnyH_ready (rs := [3]) (by kernel_rfl) (by simp) ?_
            refine AllReadyH.cons rfl (fun K hK => ?_) (AllReadyH.nil)
            · skip
              go_simp
              ((go_at_call 15; (with_reducible refine (copyb_any (some ⟨bb, off, none⟩) i lc w.heap.size (bs.take i) _ (bq_head (HQV.out.below HB.out hszv.out) hin) (Nat.le_trans hszv.out (kw_le HB.out L0V)) (by omega)).mono ?_); rintro e z ⟨v, rfl, hv, hb⟩; have HV := Hk.mk (hv.weak (kw_le HB.out L0V)); clear hv))
              replace HP_S := Hk.mk (HP_S.out.below hb)
              replace HB := Hk.mk (kw_step HB.out L0V hb)
              clear hb
              refine hK.out _ _ ?_ (fun hHeld2 => ?_)
              · exact kw_s HB.out
              clear hK K hHeld
              have hHeld := hHeld2
              clear hHeld2
              (try simp only [Act.put, List.getElem_toArray, List.getElem_cons_succ, List.getElem_cons_zero, List.setIfInBounds_toArray, List.set_cons_zero, List.set_cons_succ])
              refine reg_cast (l' := #[true, true, true, true, true, true, false, false]) (by kernel_rfl) ?_
              revert hHeld
              revert HV
              revert L_S
              revert HP_S
              revert HB
              revert v
              revert S
              revert z
              exact HG3.out
            intro WZ S v HB HP_S L_S HV hHeld
            refine wpAnyH_ready (rs := [6]) (by kernel_rfl) (by simp) ?_
            refine AllReadyH.cons rfl (fun K hK => ?_) (AllReadyH.nil)
            · skip
              (refine step_append_bd _ (by rfl) (.tmp 66) (.tmp 68) (by rfl) VA.heap.size v i (bs.take i) (by rfl) HV.out _ (some ⟨S, 0, none⟩) 1 1 [b] (by rfl) (bq_bk HP_S.out) (by intro h; cases h) (by omega) (kw_le HB.out L0V) ?_; intro v2 z ho5 hg5; replace HB := Hk.mk (HB.out.grown hg5 (kw_le HB.out L0V) (fun g hg => (HV.out.lt g hg).1)); have HV2 := Hk.mk ho5; clear ho5 hg5)
              refine hK.out _ _ ?_ (fun hHeld2 => ?_)
              · exact kw_s HB.out
              clear hK K hHeld
              have hHeld := hHeld2
              clear hHeld2
              (try simp only [Act.put, List.getElem_toArray, List.getElem_cons_succ, List.getElem_cons_zero, List.setIfInBounds_toArray, List.set_cons_zero, List.set_cons_succ])
              clear HV
              clear HP_S L_S 
              refine wpAnyH_take (i := 7) (v := ?_) rfl (by kernel_rfl) (by kernel_rfl) (by kernel_rfl) (fun _ _ _ h => h) (Or.inl ⟨by rfl, fun wX hSw => ?_⟩) (by assumption) ?_
              rotate_left
              · (try dsimp only at hSw); go_simp; try with_reducible rfl
              (try simp only [Act.put, List.getElem_toArray, List.getElem_cons_succ, List.getElem_cons_zero, List.setIfInBounds_toArray, List.set_cons_zero, List.set_cons_succ])
              refine reg_cast (l' := #[true, true, true, true, true, true, true, true]) (by kernel_rfl) ?_
              revert hHeld
              revert HV2
              revert HB
              revert v2
              revert v
              revert S
              revert z
              exact HG4.out
            intro WZ S v v2 HB HV2 hHeld
            refine wpAnyH_done (by kernel_rfl) ?_ _
            clear q0 q1 q2 q3 q4 q5 hHeld
            have HT := Hk.mk (bq_tail (HQV.out.below HB.out hszv.out) hin)
            have hci : ¬ (lc = i) := by omega
            have hik2 : (i : Int) ≤ (k : Int) := by omega
            go_wp2_with (at_builtin; go_must (refine wpList_append_bd _ rfl _ _ rfl VA.heap.size v2 _ _ rfl HV2.out _ (some ⟨bb, off + i * 6, none⟩) (k - i) (lc - i) (bs.drop i) rfl HT.out (by intro h; cases h) (by omega) (kw_le HB.out L0V) ?_); intro v3 z hv3 hg3; have HV3 := Hk.mk hv3; have HB3 := Hk.mk (HB.out.grown hg3 (kw_le HB.out L0V) (fun g hg => (HV2.out.lt g hg).1)); clear hv3 hg3)
            go_ret2
            refine Or.inr ⟨EV.out, v3, rfl, ?_, HTR.out _ (kw_step HB0.out hNW HB3.out)⟩
            rw [HIB.out, HLN.out]
            have := HV3.out.weak hszv.out
            rwa [show i + 1 + (k - i) = k + 1 by omega] at this
          · have hik : i = k := by omega
            subst hik
            go_wp2_with fail
            go_quiet (fail)
            go_wp2
            clear hc hf hl hn' hm
            replace HB := Hk.mk (below_drewN HB.out nq)
            generalize World.drewN wr nq = VA at *
            obtain ⟨hc, hf, hl, hn', hm⟩ := kw_rules HB.out hNW
            have q0 : VA.cell? ⟨w.heap.size + 1, 0, none⟩ = some (.int .i64 b.i) := (hc _ _ (by omega)).trans (by go_simp)
            have q1 : VA.cell? ⟨w.heap.size + 1, 1, none⟩ = some (.int .i64 b.o) := (hc _ _ (by omega)).trans (by go_simp)
            have q2 : VA.cell? ⟨w.heap.size + 1, 2, none⟩ = some (.int .i64 b.x) := (hc _ _ (by omega)).trans (by go_simp)
            have q3 : VA.cell? ⟨w.heap.size + 1, 3, none⟩ = some (.int .i64 b.y) := (hc _ _ (by omega)).trans (by go_simp)
            have q4 : VA.cell? ⟨w.heap.size + 1, 4, none⟩ = some (.int .i64 b.w) := (hc _ _ (by omega)).trans (by go_simp)
            have q5 : VA.cell? ⟨w.heap.size + 1, 5, none⟩ = some (.int .i64 b.h) := (hc _ _ (by omega)).trans (by go_simp)
            have bX : w.heap.size + 1 < VA.heap.size := hl _ (by omega)
            have HB0 := HB
            have HQV := Hk.mk (HBQ.out _ HB.out)
            have hszv := Hk.mk (HSZ.out _ HB.out)
            have i1 : (i : Int) ≤ (lc : Int) := by omega
            clear HB
            clear hc hf hl hn' hm
            have L0V : VA.heap.size ≤ VA.heap.size := Nat.le_refl _
            apply reg_merge
            intro HG4
            apply reg_merge
            intro HG3
            apply reg_merge
            intro HG2
            apply reg_merge
            intro HG1
            refine wp_region_held_drew (S := fun Z => (∀ b o, b < VA.heap.size → Z.cell? ⟨b, o, none⟩ = VA.cell? ⟨b, o, none⟩)) (by kernel_rfl) (fun _ _ _ => rfl) (fun hHeld => ?_)
            have HB : Hk (Below VA.heap.size VA VA.drew) := ⟨(Below.refl _ _).drew⟩
            obtain ⟨WZ, hWe⟩ : ∃ WZ, VA.drew = WZ := ⟨_, rfl⟩
            rw [hWe] at HB hHeld ⊢
            clear hWe
            refine wpAnyH_take (i := 0) (v := ?_) rfl (by kernel_rfl) (by kernel_rfl) (by kernel_rfl) (fun _ _ _ h => h) (Or.inl ⟨by rfl, fun wX hSw => ?_⟩) (by assumption) ?_
            rotate_left
            · (try dsimp only at hSw); go_simp; try with_reducible rfl
            (try simp only [Act.put, List.getElem_toArray, List.getElem_cons_succ, List.getElem_cons_zero, List.setIfInBounds_toArray, List.set_cons_zero, List.set_cons_succ])
            refine wpAnyH_take (i := 1) (v := ?_) rfl (by kernel_rfl) (by kernel_rfl) (by kernel_rfl) (fun _ _ _ h => h) (Or.inl ⟨by rfl, fun wX hSw => ?_⟩) (by assumption) ?_
            rotate_left
            · (try dsimp only at hSw); go_simp; try with_reducible rfl
            (try simp only [Act.put, List.getElem_toArray, List.getElem_cons_succ, List.getElem_cons_zero, List.setIfInBounds_toArray, List.set_cons_zero, List.set_cons_succ])
            refine wpAnyH_take (i := 2) (v := ?_) rfl (by kernel_rfl) (by kernel_rfl) (by kernel_rfl) (fun _ _ _ h => h) (Or.inl ⟨by rfl, fun wX hSw => ?_⟩) (by assumption) ?_
            rotate_left
            · (try dsimp only at hSw); go_simp; try with_reducible rfl
            (try simp only [Act.put, List.getElem_toArray, List.getElem_cons_succ, List.getElem_cons_zero, List.setIfInBounds_toArray, List.set_cons_zero, List.set_cons_succ])
            refine wpAnyH_take (i := 4) (v := ?_) rfl (by kernel_rfl) (by kernel_rfl) (by kernel_rfl) (fun _ _ _ h => h) (Or.inl ⟨by rfl, fun wX hSw => ?_⟩) (by assumption) ?_
            rotate_left
            · (try dsimp only at hSw); go_simp; try with_reducible rfl
            (try simp only [Act.put, List.getElem_toArray, List.getElem_cons_succ, List.getElem_cons_zero, List.setIfInBounds_toArray, List.set_cons_zero, List.set_cons_succ])
            refine wpAnyH_ready (rs := [3, 5]) (by kernel_rfl) (by simp) ?_
            refine AllReadyH.cons rfl (fun K hK => ?_) (AllReadyH.cons rfl (fun K hK => ?_) (AllReadyH.nil))
            · skip
              go_simp
              ((go_at_call 15; (with_reducible refine (copyb_any la i lc w.heap.size (bs.take i) _ (bq_head (HQV.out.below HB.out hszv.out) hin) (Nat.le_trans hszv.out (kw_le HB.out L0V)) (by omega)).mono ?_); rintro e z ⟨v, rfl, hv, hb⟩; have HV := Hk.mk (hv.weak (kw_le HB.out L0V)); clear hv))
              replace HB := Hk.mk (kw_step HB.out L0V hb)
              clear hb
              refine hK.out _ _ ?_ (fun hHeld2 => ?_)
              · exact kw_s HB.out
              clear hK K hHeld
              have hHeld := hHeld2
              clear hHeld2
              (try simp only [Act.put, List.getElem_toArray, List.getElem_cons_succ, List.getElem_cons_zero, List.setIfInBounds_toArray, List.set_cons_zero, List.set_cons_succ])
              refine reg_cast (l' := #[true, true, true, true, true, false, false, false]) (by kernel_rfl) ?_
              revert hHeld
              revert HV
              revert HB
              revert v
              revert z
              exact HG1.out
            · skip
              go_simp
              have L_S := kw_le HB.out L0V
              have HP_S : Hk (Bk _ _ #[.int .i64 b.i, .int .i64 b.o, .int .i64 b.x, .int .i64 b.y, .int .i64 b.w, .int .i64 b.h]) := ⟨Bk.new WZ #[.int .i64 b.i, .int .i64 b.o, .int .i64 b.x, .int .i64 b.y, .int .i64 b.w, .int .i64 b.h] 35⟩
              replace HB := Hk.mk (kw_al HB.out L0V (.cells #[.int .i64 b.i, .int .i64 b.o, .int .i64 b.x, .int .i64 b.y, .int .i64 b.w, .int .i64 b.h] 35))
              refine hK.out _ _ ?_ (fun hHeld2 => ?_)
              · exact kw_s HB.out
              clear hK K hHeld
              have hHeld := hHeld2
              clear hHeld2
              (try simp only [Act.put, List.getElem_toArray, List.getElem_cons_succ, List.getElem_cons_zero, List.setIfInBounds_toArray, List.set_cons_zero, List.set_cons_succ])
              generalize WZ.heap.size = S at *
              generalize WZ.alloc (.cells #[.int .i64 b.i, .int .i64 b.o, .int .i64 b.x, .int .i64 b.y, .int .i64 b.w, .int .i64 b.h] 35) = WZx at *
              refine reg_cast (l' := #[true, true, true, false, true, true, false, false]) (by kernel_rfl) ?_
              revert hHeld
              revert L_S
              revert HP_S
              revert HB
              revert S
              revert WZx
              exact HG2.out
            intro WZ v HB HV hHeld
            refine wpAnyH_ready (rs := [5]) (by kernel_rfl) (by simp) ?_
            refine AllReadyH.cons rfl (fun K hK => ?_) (AllReadyH.nil)
            · skip
              go_simp
              have hb := kw_al (Below.refl WZ.heap.size WZ) (Nat.le_refl _) (.cells #[.int .i64 b.i, .int .i64 b.o, .int .i64 b.x, .int .i64 b.y, .int .i64 b.w, .int .i64 b.h] 35)
              replace HV := Hk.mk (HV.out.below hb)
              clear hb
              have L_S := kw_le HB.out L0V
              have HP_S : Hk (Bk _ _ #[.int .i64 b.i, .int .i64 b.o, .int .i64 b.x, .int .i64 b.y, .int .i64 b.w, .int .i64 b.h]) := ⟨Bk.new WZ #[.int .i64 b.i, .int .i64 b.o, .int .i64 b.x, .int .i64 b.y, .int .i64 b.w, .int .i64 b.h] 35⟩
              replace HB := Hk.mk (kw_al HB.out L0V (.cells #[.int .i64 b.i, .int .i64 b.o, .int .i64 b.x, .int .i64 b.y, .int .i64 b.w, .int .i64 b.h] 35))
              refine hK.out _ _ ?_ (fun hHeld2 => ?_)
              · exact kw_s HB.out
              clear hK K hHeld
              have hHeld := hHeld2
              clear hHeld2
              (try simp only [Act.put, List.getElem_toArray, List.getElem_cons_succ, List.getElem_cons_zero, List.setIfInBounds_toArray, List.set_cons_zero, List.set_cons_succ])
              generalize WZ.heap.size = S at *
              generalize WZ.alloc (.cells #[.int .i64 b.i, .int .i64 b.o, .int .i64 b.x, .int .i64 b.y, .int .i64 b.w, .int .i64 b.h] 35) = WZx at *
              refine reg_cast (l' := #[true, true, true, true, true, true, false, false]) (by kernel_rfl) ?_
              revert hHeld
              revert HV
              revert L_S
              revert HP_S
              revert HB
              revert v
              revert S
              revert WZx
              exact HG3.out
            intro WZ S HB HP_S L_S hHeld
            refine wpAnyH_ready (rs := [3]) (by kernel_rfl) (by simp) ?_
            refine AllReadyH.cons rfl (fun K hK => ?_) (AllReadyH.nil)
            · skip
              go_simp
              ((go_at_call 15; (with_reducible refine (copyb_any la i lc w.heap.size (bs.take i) _ (bq_head (HQV.out.below HB.out hszv.out) hin) (Nat.le_trans hszv.out (kw_le HB.out L0V)) (by omega)).mono ?_); rintro e z ⟨v, rfl, hv, hb⟩; have HV := Hk.mk (hv.weak (kw_le HB.out L0V)); clear hv))
              replace HP_S := Hk.mk (HP_S.out.below hb)
              replace HB := Hk.mk (kw_step HB.out L0V hb)
              clear hb
              refine hK.out _ _ ?_ (fun hHeld2 => ?_)
              · exact kw_s HB.out
              clear hK K hHeld
              have hHeld := hHeld2
              clear hHeld2
              (try simp only [Act.put, List.getElem_toArray, List.getElem_cons_succ, List.getElem_cons_zero, List.setIfInBounds_toArray, List.set_cons_zero, List.set_cons_succ])
              refine reg_cast (l' := #[true, true, true, true, true, true, false, false]) (by kernel_rfl) ?_
              revert hHeld
              revert HV
              revert L_S
              revert HP_S
              revert HB
              revert v
              revert S
              revert z
              exact HG3.out
            intro WZ S v HB HP_S L_S HV hHeld
            refine wpAnyH_ready (rs := [6]) (by kernel_rfl) (by simp) ?_
            refine AllReadyH.cons rfl (fun K hK => ?_) (AllReadyH.nil)
            · skip
              (refine step_append_bd _ (by rfl) (.tmp 66) (.tmp 68) (by rfl) VA.heap.size v i (bs.take i) (by rfl) HV.out _ (some ⟨S, 0, none⟩) 1 1 [b] (by rfl) (bq_bk HP_S.out) (by intro h; cases h) (by omega) (kw_le HB.out L0V) ?_; intro v2 z ho5 hg5; replace HB := Hk.mk (HB.out.grown hg5 (kw_le HB.out L0V) (fun g hg => (HV.out.lt g hg).1)); have HV2 := Hk.mk ho5; clear ho5 hg5)
              refine hK.out _ _ ?_ (fun hHeld2 => ?_)
              · exact kw_s HB.out
              clear hK K hHeld
              have hHeld := hHeld2
              clear hHeld2
              (try simp only [Act.put, List.getElem_toArray, List.getElem_cons_succ, List.getElem_cons_zero, List.setIfInBounds_toArray, List.set_cons_zero, List.set_cons_succ])
              clear HV
              clear HP_S L_S 
              refine wpAnyH_take (i := 7) (v := ?_) rfl (by kernel_rfl) (by kernel_rfl) (by kernel_rfl) (fun _ _ _ h => h) (Or.inl ⟨by rfl, fun wX hSw => ?_⟩) (by assumption) ?_
              rotate_left
              · (try dsimp only at hSw); go_simp; try with_reducible rfl
              (try simp only [Act.put, List.getElem_toArray, List.getElem_cons_succ, List.getElem_cons_zero, List.setIfInBounds_toArray, List.set_cons_zero, List.set_cons_succ])
              refine reg_cast (l' := #[true, true, true, true, true, true, true, true]) (by kernel_rfl) ?_
              revert hHeld
              revert HV2
              revert HB
              revert v2
              revert v
              revert S
              revert z
              exact HG4.out
            intro WZ S v v2 HB HV2 hHeld
            refine wpAnyH_done (by kernel_rfl) ?_ _
            clear q0 q1 q2 q3 q4 q5 hHeld
            have hdr : bs.drop i = [] := List.drop_eq_nil_of_le (by rw [HLN.out]; omega)
            rcases hfo with ⟨rfl, rfl⟩ | ⟨g, rfl⟩
            · obtain rfl : i = 0 := by omega
              go_wp2_with (at_builtin; go_must (refine wpList_append_bd _ rfl _ _ rfl VA.heap.size v2 _ _ rfl HV2.out _ none 0 0 [] rfl (Bq.nil _ 0 _) (fun _ => rfl) (by omega) (kw_le HB.out L0V) ?_); intro v3 z hv3 hg3; have HV3 := Hk.mk hv3; have HB3 := Hk.mk (HB.out.grown hg3 (kw_le HB.out L0V) (fun g hg => (HV2.out.lt g hg).1)); clear hv3 hg3)
              go_ret2
              refine Or.inr ⟨EV.out, v3, rfl, ?_, HTR.out _ (kw_step HB0.out hNW HB3.out)⟩
              rw [HIB.out, HLN.out]
              rw [hdr]
              exact HV3.out.weak hszv.out
            · by_cases hci : lc = i
              · go_wp2_with (at_builtin; go_must (refine wpList_append_bd _ rfl _ _ rfl VA.heap.size v2 _ _ rfl HV2.out _ (some ⟨g, 0, none⟩) _ _ [] rfl (Bq.nil _ 0 _) (by intro h; cases h) (by omega) (kw_le HB.out L0V) ?_); intro v3 z hv3 hg3; have HV3 := Hk.mk hv3; have HB3 := Hk.mk (HB.out.grown hg3 (kw_le HB.out L0V) (fun g hg => (HV2.out.lt g hg).1)); clear hv3 hg3)
                go_ret2
                refine Or.inr ⟨EV.out, v3, rfl, ?_, HTR.out _ (kw_step HB0.out hNW HB3.out)⟩
                rw [HIB.out, HLN.out]
                rw [hdr]
                exact HV3.out.weak hszv.out
              · go_wp2_with (at_builtin; go_must (refine wpList_append_bd _ rfl _ _ rfl VA.heap.size v2 _ _ rfl HV2.out _ (some ⟨g, _, none⟩) _ _ [] rfl (Bq.nil _ 0 _) (by intro h; cases h) (by omega) (kw_le HB.out L0V) ?_); intro v3 z hv3 hg3; have HV3 := Hk.mk hv3; have HB3 := Hk.mk (HB.out.grown hg3 (kw_le HB.out L0V) (fun g hg => (HV2.out.lt g hg).1)); clear hv3 hg3)
                go_ret2
                refine Or.inr ⟨EV.out, v3, rfl, ?_, HTR.out _ (kw_step HB0.out hNW HB3.out)⟩
                rw [HIB.out, HLN.out]
                rw [hdr]
                exact HV3.out.weak hszv.out
end Go.Proofs.Ytjjodfdmbiebnaa
/- Layer 8: build.Check; a list of one's own spoilt. -/
namespace Go.Proofs.Ytjjodfdmbiebnaa
open Go.RowKit Go.Deep
set_option linter.unusedVariables false
set_option linter.unusedSimpArgs false
theorem bcheck_as (x : Int) (W H : Int) (a : Option Addr) (n c : Nat) (xs : List Int) (la : Option Addr) (ln lc : Nat) (bs : List Bd) (w : World) (h : By w w.heap.size a n xs) (hb0 : Bq w w.heap.size la ln bs) (hn : n ≤ 140737488355328) (hln : ln ≤ 1099511627776) (E : Hk (ckE W H n xs bs = x)) :
    Calls Try.prog 20 #[.agg #[.int .i64 W, .int .i64 H, .slice a n c], .slice la ln lc] w fun e w' => e = .returned (.int .i64 x) ∧ Below w.heap.size w w' := by
  have hbx := (Below.refl w.heap.size w).alloc (Nat.le_refl _) (.cells #[.int .i64 W, .int .i64 H, .slice a n c] 24)
  have HY := Hk.mk (h.below hbx (Nat.le_refl _))
  have HQ := Hk.mk (hb0.below hbx (Nat.le_refl _))
  have HX := Hk.mk hbx
  clear h hb0 hbx
  by_cases M : MOk W H n xs bs
  · have E1 := Hk.mk M
    obtain rfl : x = 0 := by rw [← E.out]; unfold ckE; rw [if_pos M]
    clear M E
    go_enter Try.func20, Try.ntmps20
    go_wp2_with (go_at_call 28; (with_reducible refine (cov_yes W H a n c xs la ln lc bs _ (HY.out.mono (by simp)) (HQ.out.mono (by simp)) hn hln E1).mono ?_); rintro e z ⟨gg, rfl, hgg, hA, hb⟩; have HB := Hk.mk (HX.out.trans (hb.mono (by simp))); clear hb hA hgg)
    go_ret
    exact ⟨rfl, HB.out⟩
  · have E1 := Hk.mk M
    obtain rfl : x = 1 := by rw [← E.out]; unfold ckE; rw [if_neg M]
    clear M E
    go_enter Try.func20, Try.ntmps20
    go_wp2_with (go_at_call 28; (with_reducible refine (cov_no W H a n c xs la ln lc bs _ (HY.out.mono (by simp)) (HQ.out.mono (by simp)) hn hln E1).mono ?_); rintro e z ⟨rfl, hb⟩; have HB := Hk.mk (HX.out.trans (hb.mono (by simp))); clear hb)
    go_ret
    exact ⟨rfl, HB.out⟩
structure OwnRow8 (w : World) (base : Nat) (v : Value) (n : Nat) (ys : List Value) : Prop where
  row : w.ownsRow base 35 6 v n ys
theorem OwnRow8.al {w : World} {base n : Nat} {v : Value} {ys : List Value} (h : OwnRow8 w base v n ys) (o : Obj) : (w.alloc o).ownsRow base 35 6 v n ys := by
  refine ⟨h.row.1, ?_⟩
  rcases h.row.2 with h2 | ⟨g, cap, cur, e, hg, hh, r⟩
  · exact .inl h2
  · exact .inr ⟨g, cap, cur, e, hg, by rw [((Below.refl w.heap.size w).alloc (Nat.le_refl _) o).block g (Array.getElem?_eq_some_iff.1 hh).1]; exact hh, r⟩
theorem OwnRow8.lt {w : World} {base n : Nat} {v : Value} {ys : List Value} (h : OwnRow8 w base v n ys) : ∀ g, v.ownBlock = some g → base ≤ g := fun g hg => (h.row.lt g hg).1
def nine6 : Bd := ⟨-9, 0, 0, 0, 0, 0⟩
def zero6 : Bd := ⟨0, 0, 0, 0, 0, 0⟩
set_option maxRecDepth 100000 in
set_option maxHeartbeats 800000 in
theorem spoil8 (v : Value) (n base : Nat) (bs : List Bd) (w : World) (h : OwnB8 w base v n bs) (hb : base ≤ w.heap.size) (hn : n ≤ 1099511627776) :
    Calls Try.prog 22 #[v] w fun e w' => e = .returned (.tuple #[]) ∧ Below base w w' := by
  obtain ⟨i0, hi, hz0, hz1, hz2⟩ := info_parts info_bd
  obtain ⟨a, c, rfl, hnc, hcm, hbq, hb0⟩ := h.bq
  have hcm' : c ≤ 9223372036854775807 := by unfold maxLen at hcm; omega
  have HR : Hk (∃ ys, w.ownsRow base 35 6 (.slice a n c) n ys) := ⟨⟨_, h.row⟩⟩
  clear h hbq hb0
  go_enter Try.func22, Try.ntmps22
  go_wp2
  go_loopw [2] (fun i wr => ∃ k : Nat, i = .int .i64 k ∧ k ≤ n ∧ Hk (∃ ys, wr.ownsRow base 35 6 (.slice a n c) n ys) ∧ Hk (Below base w wr)) (fun i _ => n - (intOf i).toNat)
  case atStart => exact ⟨0, rfl, Nat.zero_le _, HR, ⟨Below.refl _ _⟩⟩
  case round =>
    clear HR
    obtain ⟨k, rfl, hk, HR, HB⟩ := hrel
    by_cases hlt : k < n
    · obtain ⟨ys, hown⟩ := HR.out
      obtain ⟨g, rfl, hg⟩ : ∃ g, a = some ⟨g, 0, none⟩ ∧ base ≤ g := by
        rcases hown.2 with ⟨e, h0⟩ | ⟨g, cap, cur, e, hg, _⟩
        · omega
        · injection e with e1; exact ⟨g, e1, hg⟩
      have hce : ∀ q, q < 6 → ∃ u, wr.cell? ⟨g, k * 6 + q, none⟩ = some u := fun q hq => by
        have hj : k * 6 + q < n * 6 := by omega
        rw [hown.cellAt (k * 6 + q) hj]
        have hl := hown.1
        exact ⟨_, List.getElem?_eq_getElem (by omega)⟩
      obtain ⟨u0, c0⟩ := hce 0 (by omega)
      obtain ⟨u1, c1⟩ := hce 1 (by omega)
      obtain ⟨u2, c2⟩ := hce 2 (by omega)
      obtain ⟨u3, c3⟩ := hce 3 (by omega)
      obtain ⟨u4, c4⟩ := hce 4 (by omega)
      obtain ⟨u5, c5⟩ := hce 5 (by omega)
      rw [Nat.add_zero] at c0
      have f0 := hown.frozenAt (k * 6)
      have f1 := hown.frozenAt (k * 6 + 1)
      have f2 := hown.frozenAt (k * 6 + 2)
      have f3 := hown.frozenAt (k * 6 + 3)
      have f4 := hown.frozenAt (k * 6 + 4)
      have f5 := hown.frozenAt (k * 6 + 5)
      have HO := Hk.mk hown
      have HG := Hk.mk hg
      have j1 : (0 : Int) ≤ (k : Int) := by omega
      have j2 : (k : Int) < (n : Int) := by omega
      clear hce HR hown
      go_wp2
      go_roundw
      case rel => exact ⟨k + 1, by go_num, by omega, ⟨_, (((((((HO.out.stored (k * 6) _).1).stored (k * 6 + 1) _).1).stored (k * 6 + 2) _).1.stored (k * 6 + 3) _).1.stored (k * 6 + 4) _).1.stored (k * 6 + 5) _ |>.1⟩, ⟨Below.setCell (Below.setCell (Below.setCell (Below.setCell (Below.setCell (Below.setCell HB.out HG.out _) HG.out _) HG.out _) HG.out _) HG.out _) HG.out _⟩⟩
      case measure => simp [intOf]; omega
    · obtain rfl : k = n := by omega
      obtain ⟨ys, hown⟩ := HR.out
      have HOA := Hk.mk (OwnRow8.mk hown)
      clear HR hown
      go_wp2_with (at_builtin; go_must (refine wpList_append_own _ rfl _ _ 25 rfl base 35 i0 (.agg #[.int .i64 0, .int .i64 0, .int .i64 0, .int .i64 0, .int .i64 0, .int .i64 0]) 6 48 Try.underlying25 hi hz0 hz1 hz2 rfl (by decide) _ k _ rfl (HOA.out.al (.cells #[.int .i64 0, .int .i64 0, .int .i64 0, .int .i64 0, .int .i64 0, .int .i64 0] 35)) ⟨wr.heap.size, 0, none⟩ 1 1 (cells6 zero6) rfl rfl (six_at wr zero6 _) (cells6_one zero6) (by unfold maxLen; omega) (by omega) ?c5 ?_))
      case c5 => have := HB.out.size; simp; omega
      intro v2 z hown2 hgrow hnil
      have HB2 : Hk (Below base w z) := ⟨(HB.out.alloc (by have := HB.out.size; omega) _).grown hgrow (by have := HB.out.size; simp; omega) (fun g hg => (HOA.out.lt g hg))⟩
      clear hnil hown2 hgrow
      go_wp2
      go_end0
      exact ⟨rfl, HB2.out⟩
end Go.Proofs.Ytjjodfdmbiebnaa
/- Layer 8: what is taken away and added again; how many tiles are covered. -/
namespace Go.Proofs.Ytjjodfdmbiebnaa
open Go.RowKit Go.Deep
set_option linter.unusedVariables false
set_option linter.unusedSimpArgs false
theorem getD_getB {bs : List Bd} {k : Nat} (h : k < bs.length) : bs.getD k default = bs[k] := by simp [List.getD, List.getElem?_eq_getElem h]
theorem asc_pw {bs : List Bd} (h : ascB bs) : bs.Pairwise (fun a b => a.i < b.i) := by
  rw [List.pairwise_iff_getElem]
  intro i j hi hj hij
  obtain ⟨d, rfl⟩ : ∃ d, j = i + d + 1 := ⟨j - i - 1, by omega⟩
  have := asc_lt h d i hj
  rwa [getD_getB hi, getD_getB hj] at this
theorem pw_asc {bs : List Bd} (h : bs.Pairwise (fun a b => a.i < b.i)) : ascB bs := by
  rw [List.pairwise_iff_getElem] at h
  intro k hk
  have := h k (k + 1) (by omega) hk (by omega)
  rwa [getD_getB (show k < bs.length by omega), getD_getB hk]
theorem mok_pw {W H : Int} {n : Nat} {xs : List Int} {bs : List Bd} (M : MOk W H n xs bs) : bs.Pairwise (fun a b => mtB b a = false) := by
  rw [List.pairwise_iff_getElem]
  intro i j hi hj hij
  have := M.ap j i hij hj
  rwa [getD_getB hi, getD_getB hj] at this
theorem mok_sub {W H : Int} {n : Nat} {xs : List Int} {bs l : List Bd} (M : MOk W H n xs bs) (s : l.Sublist bs) : MOk W H n xs l where
  g := M.g
  len := Nat.le_trans s.length_le M.len
  asc := pw_asc ((asc_pw M.asc).sublist s)
  fm := fun b hb => M.fm b (s.subset hb)
  ins := fun b hb => M.ins b (s.subset hb)
  fr := fun b hb => M.fr b (s.subset hb)
  ap := fun i j hij hi => by
    have h := (mok_pw M).sublist s
    rw [List.pairwise_iff_getElem] at h
    have := h j i (by omega) hi hij
    rwa [getD_getB hi, getD_getB (show j < l.length by omega)]
theorem sub_gap (bs : List Bd) (i : Nat) : (bs.take i ++ bs.drop (i + 1)).Sublist bs := by
  have h := List.Sublist.append (List.Sublist.refl (bs.take i)) (List.drop_sublist_drop_left bs (show i ≤ i + 1 by omega))
  rwa [List.take_append_drop] at h
theorem gap_split {bs : List Bd} {i : Nat} (hi : i < bs.length) : bs.take i ++ bs.getD i default :: bs.drop (i + 1) = bs := by
  rw [getD_getB hi, ← List.drop_eq_getElem_cons hi, List.take_append_drop]
/-- The one that was taken away differs from all others, and stands over none. -/
theorem gap_far {W H : Int} {n : Nat} {xs : List Int} {bs : List Bd} (M : MOk W H n xs bs) {i : Nat} (hi : i < bs.length) : ∀ c ∈ bs.take i ++ bs.drop (i + 1), c.i ≠ (bs.getD i default).i ∧ mtB c (bs.getD i default) = false := by
  have h1 := asc_pw M.asc
  have h2 := mok_pw M
  generalize hb : bs.getD i default = b at *
  have e := gap_split hi
  rw [hb] at e
  rw [← e] at h1 h2
  rw [List.pairwise_append] at h1 h2
  obtain ⟨_, h12, h13⟩ := h1
  obtain ⟨_, h22, h23⟩ := h2
  rw [List.pairwise_cons] at h12 h22
  intro c hc
  rcases List.mem_append.1 hc with h | h
  · have q1 := h13 c h b (by simp)
    have q2 := h23 c h b (by simp)
    exact ⟨by omega, by rw [mt_comm]; exact q2⟩
  · have q1 := h12.1 c h
    exact ⟨by omega, h22.1 c h⟩
theorem ins_gap {bs : List Bd} (h : ascB bs) {i : Nat} (hi : i < bs.length) : insB (bs.take i ++ bs.drop (i + 1)) (bs.getD i default) = bs := by
  have hl : (bs.take i).length = i := by simp; omega
  rw [insB_at _ _ i (by simp; omega)]
  · rw [List.take_append_of_le_length (by omega), List.take_of_length_le (by omega), List.drop_append_of_le_length (by omega), List.drop_eq_nil_of_le (by omega), List.nil_append, List.append_assoc]
    exact gap_split hi
  · intro k hk
    have e : (bs.take i ++ bs.drop (i + 1)).getD k default = bs.getD k default := by
      rw [List.getD, List.getElem?_append_left (by omega), List.getElem?_take_of_lt hk, List.getD]
    rw [e]
    obtain ⟨d, hd⟩ : ∃ d, i = k + d + 1 := ⟨i - k - 1, by omega⟩
    have := asc_lt h d k (by omega)
    rwa [← hd] at this
  · intro hk
    have e : (bs.take i ++ bs.drop (i + 1)).getD i default = bs.getD (i + 1) default := by
      rw [List.getD, List.getElem?_append_right (by omega), hl, List.getElem?_drop, List.getD]
      simp
    rw [e]
    have hk2 : i + 1 < bs.length := by
      have : (bs.take i ++ bs.drop (i + 1)).length = bs.length - 1 := by simp; omega
      omega
    have := h i hk2
    omega
theorem add_gap {W H : Int} {n : Nat} {xs : List Int} {bs : List Bd} (M : MOk W H n xs bs) {i : Nat} (hi : i < bs.length) : addE W H n xs (bs.take i ++ bs.drop (i + 1)) (bs.getD i default) = 0 := by
  have hm := getD_memB hi
  have M2 := mok_sub M (sub_gap bs i)
  have f := M.fm _ hm
  have j := M.ins _ hm
  have hlen : (bs.take i ++ bs.drop (i + 1)).length = bs.length - 1 := by simp; omega
  unfold addE
  rw [if_pos M2, if_neg (by rw [fmB_iff.2 f]; decide), if_neg (by rw [inB_iff.2 j]; decide), if_neg, if_neg (by rw [M.fr _ hm]; decide), if_neg (by have := M.len; omega)]
  intro h
  obtain ⟨k, hk, e⟩ := (ov_iff M2 f j).1 h
  have := gap_far M hi _ (getD_memB hk)
  rcases e with e | e
  · exact this.1 e
  · rw [this.2] at e; cases e
theorem add_dup {W H : Int} {n : Nat} {xs : List Int} {bs : List Bd} (M : MOk W H n xs bs) {i : Nat} (hi : i < bs.length) : addE W H n xs bs (bs.getD i default) = 12 := by
  have hm := getD_memB hi
  unfold addE
  rw [if_pos M, if_neg (by rw [fmB_iff.2 (M.fm _ hm)]; decide), if_neg (by rw [inB_iff.2 (M.ins _ hm)]; decide), if_pos (Or.inl ⟨i, hi, rfl⟩)]
theorem drop_gap {bs : List Bd} {k : Nat} : (bs.drop k).take 0 ++ (bs.drop k).drop (0 + 1) = bs.drop (k + 1) := by simp [List.drop_drop]
theorem drop_getDB {bs : List Bd} {k : Nat} : (bs.drop k).getD 0 default = bs.getD k default := by simp [List.getD]
theorem add_dropd {W H : Int} {n : Nat} {xs : List Int} {bs : List Bd} (M : MOk W H n xs bs) {k : Nat} (hk : k < bs.length) : addE W H n xs (bs.drop (k + 1)) (bs.getD k default) = 0 := by
  have := add_gap (mok_sub M (List.drop_sublist k bs)) (i := 0) (by simp; omega)
  rwa [drop_gap, drop_getDB] at this
theorem ins_dropd {bs : List Bd} (h : ascB bs) {k : Nat} (hk : k < bs.length) : insB (bs.drop (k + 1)) (bs.getD k default) = bs.drop k := by
  have := ins_gap (pw_asc ((asc_pw h).sublist (List.drop_sublist k bs))) (i := 0) (by simp; omega)
  rwa [drop_gap, drop_getDB] at this
/-- The tiles of all of them together. -/
def areaL : List Bd → Nat
  | [] => 0
  | b :: bs => b.w.toNat * b.h.toNat + areaL bs
theorem areaL_drop {bs : List Bd} {k : Nat} (hk : k < bs.length) : areaL (bs.drop k) = (bs.getD k default).w.toNat * (bs.getD k default).h.toNat + areaL (bs.drop (k + 1)) := by
  rw [List.drop_eq_getElem_cons hk, getD_getB hk]
  rfl
theorem areaL_app : ∀ (xs ys : List Bd), areaL (xs ++ ys) = areaL xs + areaL ys
  | [], ys => by simp [areaL]
  | b :: xs, ys => by
    show _ + areaL (xs ++ ys) = (_ + areaL xs) + areaL ys
    rw [areaL_app xs ys]; omega
/-- How many of the first n it holds of. -/
def cntB (f : Nat → Bool) : Nat → Nat
  | 0 => 0
  | n + 1 => cntB f n + (if f n then 1 else 0)
theorem cntB_congr {f g : Nat → Bool} : ∀ {n : Nat}, (∀ k, k < n → f k = g k) → cntB f n = cntB g n
  | 0, _ => rfl
  | n + 1, h => by
    unfold cntB
    rw [cntB_congr fun k hk => h k (by omega), h n (by omega)]
theorem cntB_set {f : Nat → Bool} {T : Nat} (hf : f T = false) : ∀ {n : Nat}, T < n → cntB (fun k => if k = T then true else f k) n = cntB f n + 1
  | n + 1, h => by
    unfold cntB
    by_cases c : n = T
    · subst c
      rw [if_pos rfl, hf, cntB_congr (g := f) fun k hk => by rw [if_neg (by omega)]]
      simp
    · rw [cntB_set hf (show T < n by omega), if_neg c]
      omega
theorem cntB_false : ∀ n, cntB (fun _ => false) n = 0
  | 0 => rfl
  | n + 1 => by unfold cntB; rw [cntB_false n]; rfl
theorem cnt_snoc {W H : Int} {n : Nat} {bs : List Bd} {b : Bd} (hn : (n : Int) = W * H) (f : FmOk b) (i : InOk W H b) (hd : ∀ t : Int, hsB W b t = true → cvB W bs t = false) :
    ∀ j, j ≤ b.w.toNat * b.h.toNat → cntB (fun k => covJ W bs b j k) n = cntB (fun k => cvB W bs k) n + j
  | 0, _ => by rw [cntB_congr fun k _ => covJ_zero W bs b k]; rfl
  | j + 1, hj => by
    have hj' : j < b.w.toNat * b.h.toNat := by omega
    obtain ⟨_, _, t0, t1, _⟩ := und_md f i hj'
    obtain ⟨T, hT⟩ : ∃ T : Nat, undAt W b j = T := ⟨(undAt W b j).toNat, by omega⟩
    rw [cntB_congr fun k _ => covJ_succ W bs b j k T hj' hT, cntB_set (T := T) (f := fun k => covJ W bs b j k) ?_ (by omega), cnt_snoc hn f i hd j (by omega)]
    · omega
    · show covJ W bs b j T = false
      have hm : hsB W b (T : Int) = true := (und_mem f i (by omega)).1 (by rw [← hT]; exact List.mem_map.2 ⟨j, List.mem_range.2 hj', rfl⟩)
      have ho := und_once f i hj'
      rw [hT] at ho
      unfold covJ
      rw [hd T hm]
      simpa using ho
theorem cnt_cov {W H : Int} {n : Nat} {xs : List Int} {bs : List Bd} (M : MOk W H n xs bs) : ∀ k, k ≤ bs.length → cntB (fun t => cvB W (bs.take k) t) n = areaL (bs.take k)
  | 0, _ => by
    rw [List.take_zero]
    exact cntB_false n
  | k + 1, hk => by
    have hk' : k < bs.length := by omega
    have hm := getD_memB hk'
    have f := M.fm _ hm
    have i := M.ins _ hm
    have hfar : ∀ c ∈ bs.take k, mtB c (bs.getD k default) = false := fun c hc => (gap_far M hk' c (List.mem_append_left _ hc)).2
    have hd : ∀ t : Int, hsB W (bs.getD k default) t = true → cvB W (bs.take k) t = false := fun t ht => by
      cases hq : cvB W (bs.take k) t
      · rfl
      · unfold cvB at hq
        rw [List.any_eq_true] at hq
        obtain ⟨c, hc, hs⟩ := hq
        have := mt_of hs ht
        rw [hfar c hc] at this; cases this
    have h := cnt_snoc M.g.nn f i hd _ (Nat.le_refl _)
    rw [cntB_congr fun k' _ => covJ_full (bs.take k) (bs.getD k default) k' f i, cnt_cov M k (by omega)] at h
    rw [take_succB hk', h, areaL_app]
    simp [areaL]
theorem cnt_all {W H : Int} {n : Nat} {xs : List Int} {bs : List Bd} (M : MOk W H n xs bs) : cntB (fun t => cvB W bs t) n = areaL bs := by
  have := cnt_cov M bs.length (Nat.le_refl _)
  rwa [List.take_length] at this
theorem area_le {W H : Int} {n : Nat} {xs : List Int} {bs : List Bd} (M : MOk W H n xs bs) : ∀ l : List Bd, (∀ b ∈ l, b ∈ bs) → areaL l ≤ 16 * l.length
  | [], _ => by simp [areaL]
  | b :: l, h => by
    have h1 := area_le M l fun c hc => h c (List.mem_cons_of_mem _ hc)
    have h2 := n16_of (M.fm b (h b (List.mem_cons_self ..)))
    show b.w.toNat * b.h.toNat + areaL l ≤ 16 * (l.length + 1)
    omega
/-- What is covered is plain, or a road. -/
theorem cov_plain {W H : Int} {n : Nat} {xs : List Int} {bs : List Bd} (M : MOk W H n xs bs) {t : Nat} (ht : t < n) (hc : cvB W bs t = true) : xs.getD t 0 ≤ 1 := by
  unfold cvB at hc
  rw [List.any_eq_true] at hc
  obtain ⟨b, hb, hs⟩ := hc
  exact (frB_iff M.g (M.fm b hb) (M.ins b hb)).1 (M.fr b hb) t ht hs
end Go.Proofs.Ytjjodfdmbiebnaa
