/- Package codec: what a writer has written. -/
import Derived.Test.YtmkehmeoglpkeaaFr
import Derived.Test.YtmkehmeoglpkeaaWirc
import Derived.Test.YtmkehmeoglpkeaaByd
namespace Go.Proofs.Ytmkehmeoglpkeaa
open Go.RowKit
set_option linter.unusedVariables false
theorem OwnB.u8 {w : World} {base n : Nat} {v : Value} {xs : List Int} (h : OwnB w base v n xs) : ∀ j, v.ownBlock = some j → U8 w j := by
  intro j hj
  rcases h.2.2.2 with ⟨e, _⟩ | ⟨g, cap, cur, rfl, hg, hh, _⟩
  · subst e; cases hj
  · simp [Value.ownBlock] at hj; subst hj; exact ⟨_, _, hh⟩
/-- A writer in block W that holds these bytes. -/
structure WrB (w : World) (W base : Nat) (v : Value) (n : Nat) (xs : List Int) : Prop where
  cell : w.cell? ⟨W, 0, none⟩ = some v
  fz : w.frozen? ⟨W, 0, none⟩ = false
  own : OwnB w base v n xs
  lt : W < base
/-- What writing changes. -/
structure WS (W : Nat) (w w' : World) : Prop where
  below : Below W w w'
  keep : ∀ j, j < w.heap.size → j ≠ W → ¬ U8 w j → w'.heap[j]? = w.heap[j]?
  rest : ∀ o, 1 ≤ o → w'.cell? ⟨W, o, none⟩ = w.cell? ⟨W, o, none⟩
  fz : ∀ o, w'.frozen? ⟨W, o, none⟩ = w.frozen? ⟨W, o, none⟩
theorem WS.size {W : Nat} {w w' : World} (h : WS W w w') : w.heap.size ≤ w'.heap.size := h.below.size
theorem WS.refl (W : Nat) (w : World) : WS W w w := ⟨Below.refl _ _, fun _ _ _ _ => rfl, fun _ _ => rfl, fun _ => rfl⟩
theorem WS.trans {W : Nat} {a b c : World} (h : WS W a b) (k : WS W b c) : WS W a c :=
  ⟨h.below.trans k.below, fun j hj hW hu => by
    have e := h.keep j hj hW hu
    rw [k.keep j (Nat.lt_of_lt_of_le hj h.size) hW (fun ⟨cur, fr, x⟩ => hu ⟨cur, fr, by rw [← e]; exact x⟩), e],
   fun o ho => (k.rest o ho).trans (h.rest o ho), fun o => (k.fz o).trans (h.fz o)⟩
theorem WS.cell {W : Nat} {w w' : World} (h : WS W w w') {q o : Nat} (hq : q < w.heap.size) (hW : q ≠ W) (hu : ¬ U8 w q) : w'.cell? ⟨q, o, none⟩ = w.cell? ⟨q, o, none⟩ := World.cell?_of_block (h.keep q hq hW hu)
/-- Below the writer's block, and all that is new. -/
theorem WS.of_all {W : Nat} {w w' : World} (h : Below w.heap.size w w') (hW : W < w.heap.size) : WS W w w' :=
  ⟨h.mono (Nat.le_of_lt hW), fun j hj _ _ => h.block j hj, fun o _ => h.cell (p := ⟨W, o, none⟩) hW, fun o => h.frozen (p := ⟨W, o, none⟩) hW⟩
def WPost (W base N : Nat) (zs : List Int) (w : World) (e : Ending) (w' : World) : Prop := ∃ v', e = .returned (.tuple #[]) ∧ WrB w' W base v' N zs ∧ WS W w w'
theorem WrB.wlt {w : World} {W base n : Nat} {v : Value} {xs : List Int} (h : WrB w W base v n xs) : W < w.heap.size := World.block_lt_of_cell? _ _ h.cell
/-- What the writer holds stands while new memory is made. -/
theorem WrB.all {w w' : World} {W base n : Nat} {v : Value} {xs : List Int} (h : WrB w W base v n xs) (hb : Below w.heap.size w w') : WrB w' W base v n xs :=
  ⟨(hb.cell (p := ⟨W, 0, none⟩) h.wlt).trans h.cell, (hb.frozen (p := ⟨W, 0, none⟩) h.wlt).trans h.fz, h.own.below hb, h.lt⟩
theorem coadd_any (W base n : Nat) (v : Value) (xs : List Int) (A : Option Addr) (m c B : Nat) (ys : List Int) (w : World) (H : WrB w W base v n xs) (hbase : base ≤ w.heap.size)
    (hby : By w B A m ys) (hc : A = none → c = 0) (hlen : n + m ≤ 1099511627776) :
    Calls Try.prog 21 #[.pointer (some ⟨W, 0, none⟩), .slice A m c] w (WPost W base (n + m) (xs ++ ys) w) := by
  have HY := Hk.mk hby
  have HW := Hk.mk H
  have c0 := H.cell
  clear hby H
  have hown := HW.out.own
  have hc' := Hk.mk hc
  clear hc
  go_enter Try.func21, Try.ntmps21
  have hne : ¬ (v.ownBlock = some W) := fun e => by have := (HW.out.own.lt W e).1; have := HW.out.lt; omega
  have HNE := Hk.mk hne
  have hWs := HW.out.wlt
  clear hne
  go_wp2_with (at_builtin; refine wpList_append_by _ rfl _ _ rfl base v n xs rfl hown B A m c ys rfl HY.out hc'.out hlen hbase ?_; intro v' w1 hown' hgrow; obtain ⟨a', c', rfl, -, -, -⟩ := hown'.by_; have HG := Hk.mk hgrow; have HO := Hk.mk hown'; have d0 : w1.cell? ⟨W, 0, none⟩ = some v := (World.cell?_of_block (HG.out.block W hWs (fun e => HNE.out e.symm))).trans c0; have f0 : w1.frozen? ⟨W, 0, none⟩ = false := (World.frozen?_of_block (HG.out.block W hWs (fun e => HNE.out e.symm))).trans HW.out.fz; clear hgrow hown' c0 hown)
  go_end0
  have hs := HG.out.size
  have hlt := HW.out.lt
  refine ⟨.slice a' (n + m) c', rfl, ⟨?_, ?_, ?_, hlt⟩, ⟨?_, ?_, ?_, ?_⟩⟩
  · exact World.cell?_setCell_same' _ _ _ (by rw [d0]; rfl)
  · simpa using f0
  · refine Fr.own (M := fun j => j = W) HO.out ((Fr.refl (fun j => j = W) w1).setCell (p := ⟨W, 0, none⟩) (fun _ => rfl) _) (fun j hj e => ?_)
    have := (HO.out.lt j hj).1; omega
  · refine ((Below.refl W w).grown HG.out (Nat.le_of_lt hWs) (fun g hg => ?_)).setCell (Nat.le_refl W) _
    have := (HW.out.own.lt g hg).1; omega
  · intro j hj hW hu
    rw [Go.heap_setCell_other _ _ _ _ hW]
    exact HG.out.block j hj (fun e => hu (HW.out.own.u8 j e.symm))
  · intro o ho
    have e1 : (w1.setCell ⟨W, 0, none⟩ (.slice a' (n + m) c')).cell? ⟨W, o, none⟩ = w1.cell? ⟨W, o, none⟩ := by
      have ho' : ¬ o = 0 := by omega
      go_simp
    rw [e1]
    exact World.cell?_of_block (HG.out.block W hWs (fun e => HNE.out e.symm))
  · intro o
    have e1 : (w1.setCell ⟨W, 0, none⟩ (.slice a' (n + m) c')).frozen? ⟨W, o, none⟩ = w1.frozen? ⟨W, o, none⟩ := by go_simp
    rw [e1]
    exact World.frozen?_of_block (HG.out.block W hWs (fun e => HNE.out e.symm))
theorem conum_any (x : Int) (z W base n : Nat) (v : Value) (xs : List Int) (w : World) (hx : Hk (x = z)) (hz : Hk (z ≤ 9223372036854775807)) (H : WrB w W base v n xs) (hbase : base ≤ w.heap.size) (hn : n ≤ 1099511000000) :
    Calls Try.prog 22 #[.pointer (some ⟨W, 0, none⟩), .int .i64 x] w (WPost W base (n + (Wr.numL z).length) (xs ++ Wr.numL z) w) := by
  have HW := Hk.mk H
  have HL := Hk.mk (Wr.numL_nine (n := z) (by have := hz.out; omega))
  clear H
  go_enter Try.func22, Try.ntmps22
  go_wp2_with (first | (go_at_call 36; (with_reducible refine (num_at x z _ hx hz).mono ?_); rintro e w1 ⟨v1, rfl, ho1, hb1⟩; obtain ⟨a1, c1, rfl, hc1, hby1, hfr1⟩ := ho1.by_; have HB1 := Hk.mk hb1; have HY := Hk.mk hby1; have HF := Hk.mk hfr1; have HO := Hk.mk ho1; clear hb1 hby1 hfr1 ho1) | (go_at_call 21; (with_reducible refine (coadd_any W base n v xs a1 (Wr.numL z).length c1 _ (Wr.numL z) _ (HW.out.all HB1.out) (Nat.le_trans hbase HB1.out.size) HY.out ?_ ?_).mono ?_); (intro e0; subst e0; have h1 := HY.out.rd (by have := Wr.numL_pos z; omega); obtain ⟨_, _, e0, _⟩ := h1; cases e0); (have := HL.out; omega); rintro e w2 ⟨v2, rfl, hw2, hs2⟩; have HW2 := Hk.mk hw2; have HS2 := Hk.mk hs2; clear hw2 hs2))
  go_end0
  exact ⟨v2, rfl, HW2.out, (WS.of_all HB1.out HW.out.wlt).trans HS2.out⟩
theorem cobytes_any (W base n : Nat) (v : Value) (xs : List Int) (w : World) (H : WrB w W base v n xs) : Calls Try.prog 24 #[.pointer (some ⟨W, 0, none⟩)] w fun e w' => e = .returned v ∧ w = w' := by
  have c0 := H.cell
  clear H
  go_enter Try.func24, Try.ntmps24
  go_wp2
  go_ret
  exact ⟨rfl, rfl⟩
end Go.Proofs.Ytmkehmeoglpkeaa
