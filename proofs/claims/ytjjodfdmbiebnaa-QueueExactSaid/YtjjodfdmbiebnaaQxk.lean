import Derived.Deep.QuietTactic
import Derived.BigQuiet
import Derived.Deep.RegionWith
import Derived.Deep.RegionHeld3
import Derived.Deep.DeepCutAuto
import Derived.Deep.DeepFit
import Derived.Outline
import Derived.Test.YtjjodfdmbiebnaaQxj
/- Layer 12: the reference's Pop. -/
namespace Go.Proofs.Ytjjodfdmbiebnaa
open Go.ChangeShapes Go.WideShapes Go.ChangeAt Go.RowKit Go.Deep
set_option linter.unusedVariables false
set_option linter.unusedSimpArgs false
set_option maxRecDepth 100000 in
theorem rpop_nil (R : Nat) (a : Option Addr) (c : Nat) (w : World) (h : w.cell? ⟨R, 0, none⟩ = some (.slice a 0 c)) :
    Calls Try.prog 51 #[.pointer (some ⟨R, 0, none⟩)] w fun e w' => e = .returned (.tuple #[.int .i64 0, .int .i64 0, .bool false]) ∧ w = w' := by
  go_enter Try.func51, Try.ntmps51
  go_wp2
  go_ret3
  exact ⟨rfl, rfl⟩
theorem le_take {P : Nat → PrQ} {b i : Nat} (h : ∀ j, j < i → leQ (P b) (P j)) (hl : ltQ (P i) (P b) = true) : ∀ j, j < i + 1 → leQ (P i) (P j) := fun j hj => by
  by_cases e : j = i
  · rw [e]; exact leQ_refl _
  · exact leQ_trans (leQ_of_lt hl) (h j (by omega))
theorem le_keep {P : Nat → PrQ} {b i : Nat} (h : ∀ j, j < i → leQ (P b) (P j)) (hl : ltQ (P i) (P b) = false) : ∀ j, j < i + 1 → leQ (P b) (P j) := fun j hj => by
  by_cases e : j = i
  · rw [e]; exact hl
  · exact h j (by omega)
theorem Rq.gne {w : World} {base R n g c g' c' : Nat} {P : Nat → PrQ} (h : Rq w base R (.slice (some ⟨g, 0, none⟩) n c) (.slice (some ⟨g', 0, none⟩) n c') n P) : g ≠ R ∧ g' ≠ R ∧ g ≠ g' := by
  refine ⟨by have := h.n1; simpa [Value.ownBlock] using this, by have := h.n2; simpa [Value.ownBlock] using this, ?_⟩
  rcases h.iq.ap with e | e
  · simp [Value.ownBlock] at e
  · simpa [Value.ownBlock] using e
theorem Rq.put {w : World} {base R n g c g' c' b : Nat} {P : Nat → PrQ} (h : Rq w base R (.slice (some ⟨g, 0, none⟩) n c) (.slice (some ⟨g', 0, none⟩) n c') n P) (hb : b < n) (z : PrQ) :
    Rq ((w.setCell ⟨g, b, none⟩ (.int .i64 z.1)).setCell ⟨g', b, none⟩ (.int .i64 z.2)) base R (.slice (some ⟨g, 0, none⟩) n c) (.slice (some ⟨g', 0, none⟩) n c') n (updQ P b z) := by
  obtain ⟨h1, h2, h3⟩ := h.gne
  refine ⟨?_, ?_, ?_, ?_, by simpa using h.lt, h.bs, h.iq.put hb z, h.n1, h.n2⟩
  · rw [World.cell?_setCell_other _ _ _ _ (by simp [h2.symm]), World.cell?_setCell_other _ _ _ _ (by simp [h1.symm])]; exact h.c0
  · rw [World.cell?_setCell_other _ _ _ _ (by simp [h2.symm]), World.cell?_setCell_other _ _ _ _ (by simp [h1.symm])]; exact h.c1
  · rw [World.frozen?_setCell, World.frozen?_setCell]; exact h.f0
  · rw [World.frozen?_setCell, World.frozen?_setCell]; exact h.f1
theorem Rq.cut {w : World} {base R n m g c g' c' : Nat} {P : Nat → PrQ} (h : Rq w base R (.slice (some ⟨g, 0, none⟩) n c) (.slice (some ⟨g', 0, none⟩) n c') n P) (hm : m ≤ n) :
    Rq ((w.setCell ⟨R, 0, none⟩ (.slice (some ⟨g, 0, none⟩) m c)).setCell ⟨R, 1, none⟩ (.slice (some ⟨g', 0, none⟩) m c')) base R (.slice (some ⟨g, 0, none⟩) m c) (.slice (some ⟨g', 0, none⟩) m c') m P := by
  obtain ⟨h1, h2, h3⟩ := h.gne
  have q0 := h.c0
  have q1 := h.c1
  have f0 := h.f0
  have f1 := h.f1
  have hl := h.lt
  have hi := (((h.iq.cut hm).far ⟨R, 0, none⟩ (.slice (some ⟨g, 0, none⟩) m c) (by simpa [Value.ownBlock] using h1) (by simpa [Value.ownBlock] using h2)).far ⟨R, 1, none⟩ (.slice (some ⟨g', 0, none⟩) m c') (by simpa [Value.ownBlock] using h1) (by simpa [Value.ownBlock] using h2))
  have y1 : (w.setCell ⟨R, 0, none⟩ (.slice (some ⟨g, 0, none⟩) m c)).cell? ⟨R, 1, none⟩ = some (.slice (some ⟨g', 0, none⟩) n c') := by rw [World.cell?_setCell_other _ _ _ _ (by simp)]; exact q1
  have y0 : (w.setCell ⟨R, 0, none⟩ (.slice (some ⟨g, 0, none⟩) m c)).cell? ⟨R, 0, none⟩ = some (.slice (some ⟨g, 0, none⟩) m c) := by go_simp
  have yf : (w.setCell ⟨R, 0, none⟩ (.slice (some ⟨g, 0, none⟩) m c)).frozen? ⟨R, 1, none⟩ = false := by rw [World.frozen?_setCell]; exact f1
  refine ⟨?_, ?_, ?_, ?_, by simpa using hl, h.bs, hi, by simpa [Value.ownBlock] using h1, by simpa [Value.ownBlock] using h2⟩
  · rw [World.cell?_setCell_other _ _ _ _ (by simp)]; exact y0
  · generalize w.setCell ⟨R, 0, none⟩ (.slice (some ⟨g, 0, none⟩) m c) = W at *
    go_simp
  · rw [World.frozen?_setCell, World.frozen?_setCell]; exact f0
  · rw [World.frozen?_setCell]; exact yf
theorem Rq.drew {w : World} {base R n : Nat} {v v' : Value} {P : Nat → PrQ} (h : Rq w base R v v' n P) : Rq w.drew base R v v' n P := ⟨h.c0, h.c1, h.f0, h.f1, h.lt, h.bs, ⟨h.iq.rk, h.iq.rv, h.iq.ap⟩, h.n1, h.n2⟩
set_option maxRecDepth 1000000 in
set_option maxHeartbeats 3200000 in
theorem rpop_any (base R m g c g' c' : Nat) (P : Nat → PrQ) (w : World) (h : Rq w base R (Value.slice (some ⟨g, 0, none⟩) (m + 1) c) (Value.slice (some ⟨g', 0, none⟩) (m + 1) c') (m + 1) P) (hm : m ≤ 900000) :
    Calls Try.prog 51 #[.pointer (some ⟨R, 0, none⟩)] w fun e w' => ∃ b, b < m + 1 ∧ (∀ j, j < m + 1 → leQ (P b) (P j)) ∧ e = .returned (.tuple #[.int .i64 (P b).1, .int .i64 (P b).2, .bool true]) ∧
      Rq w' base R (Value.slice (some ⟨g, 0, none⟩) m c) (Value.slice (some ⟨g', 0, none⟩) m c') m (updQ P b (P m)) ∧ Fr (MR R (Value.slice (some ⟨g, 0, none⟩) (m + 1) c) (Value.slice (some ⟨g', 0, none⟩) (m + 1) c')) w w' := by
  have HH := Hk.mk h
  have q0 := h.c0
  have q1 := h.c1
  have hgR : g ≠ R := by have := h.n1; simpa [Value.ownBlock] using this
  have hgR' : g' ≠ R := by have := h.n2; simpa [Value.ownBlock] using this
  have hgg : g ≠ g' := by
    rcases h.iq.ap with e | e
    · simp [Value.ownBlock] at e
    · simpa [Value.ownBlock] using e
  have hbnd : m + 1 ≤ c ∧ c ≤ maxLen ∧ m + 1 ≤ c' ∧ c' ≤ maxLen := by
    have h1 := h.iq.rk.2
    have h2 := h.iq.rv.2
    rcases h1 with ⟨e, _⟩ | ⟨g1, cap, cur, e, _, _, a1, a2, _⟩
    · cases e
    rcases h2 with ⟨e', _⟩ | ⟨g2, cap', cur', e', _, _, b1, b2, _⟩
    · cases e'
    injection e with _ _ e3
    injection e' with _ _ e4
    subst e3 e4
    exact ⟨a1, a2, b1, b2⟩
  obtain ⟨hc1, hc2, hc3, hc4⟩ := hbnd
  have hc5 : c ≤ 9223372036854775807 := by unfold maxLen at hc2; omega
  have hc6 : c' ≤ 9223372036854775807 := by unfold maxLen at hc4; omega
  clear h hc2 hc4
  have m4 : ((m : Int) + 1 == 0) = false := by simp; omega
  go_enter Try.func51, Try.ntmps51
  go_wp2_with fail
  go_loopw [5, 6] (fun b i wr => ∃ b' i' : Nat, b = .int .i64 b' ∧ i = .int .i64 i' ∧ 1 ≤ i' ∧ i' ≤ m + 1 ∧ b' < i' ∧ Hk (∀ j, j < i' → leQ (P b') (P j)) ∧ Hk (∃ q, wr = w.drewN q)) (fun _ i _ => m + 1 - (intOf i).toNat)
  case atStart => exact ⟨0, 1, rfl, rfl, by omega, by omega, by omega, ⟨fun j hj => by rw [show j = 0 by omega]; exact leQ_refl _⟩, ⟨0, rfl⟩⟩
  case round =>
    obtain ⟨b, i, rfl, rfl, i1, i2, hbi, HJ, HD⟩ := hrel
    obtain ⟨q, hq⟩ := HD.out
    have p0 : wr.cell? ⟨R, 0, none⟩ = some (Value.slice (some ⟨g, 0, none⟩) (m + 1) c) := by rw [hq]; exact q0
    have p1 : wr.cell? ⟨R, 1, none⟩ = some (Value.slice (some ⟨g', 0, none⟩) (m + 1) c') := by rw [hq]; exact q1
    obtain ⟨x, hx⟩ : ∃ x, P b = x := ⟨_, rfl⟩
    have HX := Hk.mk hx
    clear hx
    have c1 : wr.cell? ⟨g, b, none⟩ = some (.int .i64 x.1) := by rw [hq, ← HX.out]; exact HH.out.iq.c1 (by omega)
    have c2 : wr.cell? ⟨g', b, none⟩ = some (.int .i64 x.2) := by rw [hq, ← HX.out]; exact HH.out.iq.c2 (by omega)
    have b0 : (0 : Int) ≤ (b : Int) := by omega
    have b1 : (b : Int) < (m : Int) + 1 := by omega
    by_cases hil : i < m + 1
    · obtain ⟨y, hy⟩ : ∃ y, P i = y := ⟨_, rfl⟩
      have HY := Hk.mk hy
      clear hy
      have c3 : wr.cell? ⟨g, i, none⟩ = some (.int .i64 y.1) := by rw [hq, ← HY.out]; exact HH.out.iq.c1 (by omega)
      have c4 : wr.cell? ⟨g', i, none⟩ = some (.int .i64 y.2) := by rw [hq, ← HY.out]; exact HH.out.iq.c2 (by omega)
      have j0 : (0 : Int) ≤ (i : Int) := by omega
      have j1 : (i : Int) < (m : Int) + 1 := by omega
      clear hq q0 q1
      by_cases e1 : y.1 < x.1
      · have d1 : decide (y.1 < x.1) = true := by simpa using e1
        have HJ2 : Hk (∀ j, j < i + 1 → leQ (P i) (P j)) := ⟨le_take HJ.out (by rw [HX.out, HY.out, ltQ_iff]; exact Or.inl e1)⟩
        clear HJ e1
        as_aux_lemma =>
          go_wp2_with fail
          go_quiet (fail)
          go_wp2
          obtain ⟨q2, hq2⟩ := HD.out
          exact ⟨⟨i, i + 1, rfl, by go_num, by omega, by omega, by omega, HJ2, ⟨⟨_, by rw [hq2]; first | rfl | (simp only [World.drewN_drewN]; rfl)⟩⟩⟩, by simp [intOf]; omega⟩
      have d1 : decide (y.1 < x.1) = false := by simpa using e1
      by_cases e2 : y.1 = x.1
      · have d2 : (y.1 == x.1) = true := by simpa using e2
        by_cases e3 : y.2 < x.2
        · have d3 : decide (y.2 < x.2) = true := by simpa using e3
          have HJ2 : Hk (∀ j, j < i + 1 → leQ (P i) (P j)) := ⟨le_take HJ.out (by rw [HX.out, HY.out, ltQ_iff]; exact Or.inr ⟨e2, e3⟩)⟩
          clear HJ e1 e2 e3
          as_aux_lemma =>
            go_wp2_with fail
            go_quiet (fail)
            go_wp2
            obtain ⟨q2, hq2⟩ := HD.out
            exact ⟨⟨i, i + 1, rfl, by go_num, by omega, by omega, by omega, HJ2, ⟨⟨_, by rw [hq2]; first | rfl | (simp only [World.drewN_drewN]; rfl)⟩⟩⟩, by simp [intOf]; omega⟩
        · have d3 : decide (y.2 < x.2) = false := by simpa using e3
          have HJ2 : Hk (∀ j, j < i + 1 → leQ (P b) (P j)) := ⟨le_keep HJ.out (by rw [HX.out, HY.out, ltQ_no]; omega)⟩
          clear HJ e1 e2 e3
          as_aux_lemma =>
            go_wp2_with fail
            go_quiet (fail)
            go_wp2
            obtain ⟨q2, hq2⟩ := HD.out
            exact ⟨⟨b, i + 1, rfl, by go_num, by omega, by omega, by omega, HJ2, ⟨⟨_, by rw [hq2]; first | rfl | (simp only [World.drewN_drewN]; rfl)⟩⟩⟩, by simp [intOf]; omega⟩
      · have d2 : (y.1 == x.1) = false := by simpa using e2
        have HJ2 : Hk (∀ j, j < i + 1 → leQ (P b) (P j)) := ⟨le_keep HJ.out (by rw [HX.out, HY.out, ltQ_no]; omega)⟩
        clear HJ e1 e2
        as_aux_lemma =>
          go_wp2_with fail
          go_quiet (fail)
          go_wp2
          obtain ⟨q2, hq2⟩ := HD.out
          exact ⟨⟨b, i + 1, rfl, by go_num, by omega, by omega, by omega, HJ2, ⟨⟨_, by rw [hq2]; first | rfl | (simp only [World.drewN_drewN]; rfl)⟩⟩⟩, by simp [intOf]; omega⟩
    · obtain rfl : i = m + 1 := by omega
      have HR0 : Hk (Rq wr base R (Value.slice (some ⟨g, 0, none⟩) (m + 1) c) (Value.slice (some ⟨g', 0, none⟩) (m + 1) c') (m + 1) P) := ⟨by rw [hq]; exact HH.out.drewN q⟩
      have HF0 : Hk (Fr (MR R (Value.slice (some ⟨g, 0, none⟩) (m + 1) c) (Value.slice (some ⟨g', 0, none⟩) (m + 1) c')) w wr) := ⟨by rw [hq]; exact (Fr.refl _ w).drewN q⟩
      clear hq q0 q1
      go_wp2_with fail
      go_quiet (fail)
      go_wp2
      have HR1 := Hk.mk (HR0.out.drewN nq)
      have HF1 := Hk.mk (HF0.out.drewN nq)
      clear HR0 HF0 p0 p1 c1 c2
      obtain ⟨z, hz⟩ : ∃ z, P m = z := ⟨_, rfl⟩
      have HZ := Hk.mk hz
      clear hz
      generalize World.drewN wr nq = W1 at *
      have p0 := HR1.out.c0
      have p1 := HR1.out.c1
      have c1 := HR1.out.iq.c1 (j := b) (by omega)
      have c2 := HR1.out.iq.c2 (j := b) (by omega)
      have c3 := HR1.out.iq.c1 (j := m) (by omega)
      have c4 := HR1.out.iq.c2 (j := m) (by omega)
      rw [HX.out] at c1 c2
      rw [HZ.out] at c3 c4
      have f1 := HR1.out.iq.rk.frozenAt b
      have f2 := HR1.out.iq.rv.frozenAt b
      have m0 : (0 : Int) ≤ (m : Int) := by omega
      have m1 : (m : Int) < (m : Int) + 1 := by omega
      have HR2 := Hk.mk (HR1.out.put (b := b) (by omega) z)
      have HF2 := Hk.mk ((HF1.out.setCell (p := ⟨g, b, none⟩) (fun _ => Or.inr (Or.inl rfl)) (.int .i64 z.1)).setCell (p := ⟨g', b, none⟩) (fun _ => Or.inr (Or.inr rfl)) (.int .i64 z.2))
      clear HR1 HF1
      apply reg_merge
      · intro HG
        go_region
        have HR3 := Hk.mk (HR2.out.drew)
        have HF3 := Hk.mk (HF2.out.drew)
        obtain ⟨W2, hW2⟩ : ∃ W2, ((W1.setCell ⟨g, b, none⟩ (.int .i64 z.1)).setCell ⟨g', b, none⟩ (.int .i64 z.2)).drew = W2 := ⟨_, rfl⟩
        rw [hW2] at HR3 HF3 ⊢
        clear hW2
        revert HF3
        revert HR3
        revert W2
        exact HG.out
      as_aux_lemma =>
        intro W2 HR3 HF3
        clear HR2 HF2 c1 c2 c3 c4 f1 f2 p0 p1
        have p0 := HR3.out.c0
        have p1 := HR3.out.c1
        have f0 := HR3.out.f0
        have f1 := HR3.out.f1
        have s1 : (m : Int) ≤ (c : Int) := by omega
        have s2 : (m : Int) ≤ (c' : Int) := by omega
        have HR4 := Hk.mk (HR3.out.cut (m := m) (by omega))
        have HF4 := Hk.mk ((HF3.out.setCell (p := ⟨R, 0, none⟩) (fun _ => Or.inl rfl) (Value.slice (some ⟨g, 0, none⟩) m c)).setCell (p := ⟨R, 1, none⟩) (fun _ => Or.inl rfl) (Value.slice (some ⟨g', 0, none⟩) m c'))
        clear HR3 HF3
        have hwm : IntKind.i64.wrap (m : Int) = (m : Int) := by rw [IntKind.wrap_i64]; omega
        have hwm2 : wrap64 (m : Int) = (m : Int) := by unfold wrap64; omega
        clear HH m4 i1 i2 b0 b1 hil m1 hgR hgR' hgg hc5 hc6
        go_wp2_with fail
        go_region
        clear p0 p1 f0 f1
        go_wp2_with fail
        go_ret3
        refine ⟨b, by omega, HJ.out, by rw [HX.out]; rfl, ?_, ?_⟩
        · rw [HZ.out]
          first | with_reducible exact HR4.out.drew | with_reducible exact HR4.out | with_reducible exact HR4.out.drewN _
        · first | with_reducible exact HF4.out.drew | with_reducible exact HF4.out | with_reducible exact HF4.out.drewN _
end Go.Proofs.Ytjjodfdmbiebnaa
