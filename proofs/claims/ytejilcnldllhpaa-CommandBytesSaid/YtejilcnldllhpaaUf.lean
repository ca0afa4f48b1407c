import Derived.Test.YtejilcnldllhpaaUb
import Derived.Test.YtejilcnldllhpaaUe
import Derived.Deep.QuietTactic
import Derived.BigQuiet
/- Package codec: what a writer has written. -/
namespace Go.Proofs.Ytejilcnldllhpaa
open Go.RowKit
set_option linter.unusedVariables false
theorem OwnB.u8 {w : World} {base n : Nat} {v : Value} {xs : List Int} (h : OwnB w base v n xs) : ∀ j, v.ownBlock = some j → U8 w j := by
  intro j hj
  rcases h.2.2.2 with ⟨e, _⟩ | ⟨g, cap, cur, rfl, hg, hh, _⟩
  · subst e; cases hj
  · simp [Value.ownBlock] at hj; subst hj; exact ⟨_, _, hh⟩
/-- A writer in block W that holds these bytes. -/
structure WrB (w : World) (W base : Nat) (v : Value) (n : Nat) (xs : List Int) : Prop where
  cell : w.cell? ⟨W, 0, none⟩ = some v
  fz : w.frozen? ⟨W, 0, none⟩ = false
  own : OwnB w base v n xs
  lt : W < base
/-- What writing changes. -/
structure WS (W : Nat) (w w' : World) : Prop where
  below : Below W w w'
  keep : ∀ j, j < w.heap.size → j ≠ W → ¬ U8 w j → w'.heap[j]? = w.heap[j]?
  rest : ∀ o, 1 ≤ o → w'.cell? ⟨W, o, none⟩ = w.cell? ⟨W, o, none⟩
  fz : ∀ o, w'.frozen? ⟨W, o, none⟩ = w.frozen? ⟨W, o, none⟩
theorem WS.size {W : Nat} {w w' : World} (h : WS W w w') : w.heap.size ≤ w'.heap.size := h.below.size
theorem WS.refl (W : Nat) (w : World) : WS W w w := ⟨Below.refl _ _, fun _ _ _ _ => rfl, fun _ _ => rfl, fun _ => rfl⟩
theorem WS.trans {W : Nat} {a b c : World} (h : WS W a b) (k : WS W b c) : WS W a c :=
  ⟨h.below.trans k.below, fun j hj hW hu => by
    have e := h.keep j hj hW hu
    rw [k.keep j (Nat.lt_of_lt_of_le hj h.size) hW (fun ⟨cur, fr, x⟩ => hu ⟨cur, fr, by rw [← e]; exact x⟩), e],
   fun o ho => (k.rest o ho).trans (h.rest o ho), fun o => (k.fz o).trans (h.fz o)⟩
theorem WS.cell {W : Nat} {w w' : World} (h : WS W w w') {q o : Nat} (hq : q < w.heap.size) (hW : q ≠ W) (hu : ¬ U8 w q) : w'.cell? ⟨q, o, none⟩ = w.cell? ⟨q, o, none⟩ := World.cell?_of_block (h.keep q hq hW hu)
/-- Below the writer's block, and all that is new. -/
theorem WS.of_all {W : Nat} {w w' : World} (h : Below w.heap.size w w') (hW : W < w.heap.size) : WS W w w' :=
  ⟨h.mono (Nat.le_of_lt hW), fun j hj _ _ => h.block j hj, fun o _ => h.cell (p := ⟨W, o, none⟩) hW, fun o => h.frozen (p := ⟨W, o, none⟩) hW⟩
def WPost (W base N : Nat) (zs : List Int) (w : World) (e : Ending) (w' : World) : Prop := ∃ v', e = .returned (.tuple #[]) ∧ WrB w' W base v' N zs ∧ WS W w w'
theorem WrB.wlt {w : World} {W base n : Nat} {v : Value} {xs : List Int} (h : WrB w W base v n xs) : W < w.heap.size := World.block_lt_of_cell? _ _ h.cell
/-- What the writer holds stands while new memory is made. -/
theorem WrB.all {w w' : World} {W base n : Nat} {v : Value} {xs : List Int} (h : WrB w W base v n xs) (hb : Below w.heap.size w w') : WrB w' W base v n xs :=
  ⟨(hb.cell (p := ⟨W, 0, none⟩) h.wlt).trans h.cell, (hb.frozen (p := ⟨W, 0, none⟩) h.wlt).trans h.fz, h.own.below hb, h.lt⟩
theorem coadd_any (W base n : Nat) (v : Value) (xs : List Int) (A : Option Addr) (m c B : Nat) (ys : List Int) (w : World) (H : WrB w W base v n xs) (hbase : base ≤ w.heap.size)
    (hby : By w B A m ys) (hc : A = none → c = 0) (hlen : n + m ≤ 1099511627776) :
    Calls Try.prog 104 #[.pointer (some ⟨W, 0, none⟩), .slice A m c] w (WPost W base (n + m) (xs ++ ys) w) := by
  have HY := Hk.mk hby
  have HW := Hk.mk H
  have c0 := H.cell
  clear hby H
  have hown := HW.out.own
  have hc' := Hk.mk hc
  clear hc
  go_enter Try.func104, Try.ntmps104
  have hne : ¬ (v.ownBlock = some W) := fun e => by have := (HW.out.own.lt W e).1; have := HW.out.lt; omega
  have HNE := Hk.mk hne
  have hWs := HW.out.wlt
  clear hne
  go_wp2_with (at_builtin; refine wpList_append_by _ rfl _ _ rfl base v n xs rfl hown B A m c ys rfl HY.out hc'.out hlen hbase ?_; intro v' w1 hown' hgrow; obtain ⟨a', c', rfl, -, -, -⟩ := hown'.by_; have HG := Hk.mk hgrow; have HO := Hk.mk hown'; have d0 : w1.cell? ⟨W, 0, none⟩ = some v := (World.cell?_of_block (HG.out.block W hWs (fun e => HNE.out e.symm))).trans c0; have f0 : w1.frozen? ⟨W, 0, none⟩ = false := (World.frozen?_of_block (HG.out.block W hWs (fun e => HNE.out e.symm))).trans HW.out.fz; clear hgrow hown' c0 hown)
  go_end0
  have hs := HG.out.size
  have hlt := HW.out.lt
  refine ⟨.slice a' (n + m) c', rfl, ⟨?_, ?_, ?_, hlt⟩, ⟨?_, ?_, ?_, ?_⟩⟩
  · exact World.cell?_setCell_same' _ _ _ (by rw [d0]; rfl)
  · simpa using f0
  · refine Fr.own (M := fun j => j = W) HO.out ((Fr.refl (fun j => j = W) w1).setCell (p := ⟨W, 0, none⟩) (fun _ => rfl) _) (fun j hj e => ?_)
    have := (HO.out.lt j hj).1; omega
  · refine ((Below.refl W w).grown HG.out (Nat.le_of_lt hWs) (fun g hg => ?_)).setCell (Nat.le_refl W) _
    have := (HW.out.own.lt g hg).1; omega
  · intro j hj hW hu
    rw [Go.heap_setCell_other _ _ _ _ hW]
    exact HG.out.block j hj (fun e => hu (HW.out.own.u8 j e.symm))
  · intro o ho
    have e1 : (w1.setCell ⟨W, 0, none⟩ (.slice a' (n + m) c')).cell? ⟨W, o, none⟩ = w1.cell? ⟨W, o, none⟩ := by
      have ho' : ¬ o = 0 := by omega
      go_simp
    rw [e1]
    exact World.cell?_of_block (HG.out.block W hWs (fun e => HNE.out e.symm))
  · intro o
    have e1 : (w1.setCell ⟨W, 0, none⟩ (.slice a' (n + m) c')).frozen? ⟨W, o, none⟩ = w1.frozen? ⟨W, o, none⟩ := by go_simp
    rw [e1]
    exact World.frozen?_of_block (HG.out.block W hWs (fun e => HNE.out e.symm))
theorem conum_any (x : Int) (z W base n : Nat) (v : Value) (xs : List Int) (w : World) (hx : Hk (x = z)) (hz : Hk (z ≤ 9223372036854775807)) (H : WrB w W base v n xs) (hbase : base ≤ w.heap.size) (hn : n ≤ 1099511000000) :
    Calls Try.prog 59 #[.pointer (some ⟨W, 0, none⟩), .int .i64 x] w (WPost W base (n + (Wr.numL z).length) (xs ++ Wr.numL z) w) := by
  have HW := Hk.mk H
  have HL := Hk.mk (Wr.numL_nine (n := z) (by have := hz.out; omega))
  clear H
  go_enter Try.func59, Try.ntmps59
  go_wp2_with (first | (go_at_call 103; (with_reducible refine (num_at x z _ hx hz).mono ?_); rintro e w1 ⟨v1, rfl, ho1, hb1⟩; obtain ⟨a1, c1, rfl, hc1, hby1, hfr1⟩ := ho1.by_; have HB1 := Hk.mk hb1; have HY := Hk.mk hby1; have HF := Hk.mk hfr1; have HO := Hk.mk ho1; clear hb1 hby1 hfr1 ho1) | (go_at_call 104; (with_reducible refine (coadd_any W base n v xs a1 (Wr.numL z).length c1 _ (Wr.numL z) _ (HW.out.all HB1.out) (Nat.le_trans hbase HB1.out.size) HY.out ?_ ?_).mono ?_); (intro e0; subst e0; have h1 := HY.out.rd (by have := Wr.numL_pos z; omega); obtain ⟨_, _, e0, _⟩ := h1; cases e0); (have := HL.out; omega); rintro e w2 ⟨v2, rfl, hw2, hs2⟩; have HW2 := Hk.mk hw2; have HS2 := Hk.mk hs2; clear hw2 hs2))
  go_end0
  exact ⟨v2, rfl, HW2.out, (WS.of_all HB1.out HW.out.wlt).trans HS2.out⟩
theorem coint_any (i : Int) (W base n : Nat) (v : Value) (xs : List Int) (w : World) (hi : I62 i) (H : WrB w W base v n xs) (hbase : base ≤ w.heap.size) (hn : n ≤ 1099511000000) :
    Calls Try.prog 105 #[.pointer (some ⟨W, 0, none⟩), .int .i64 i] w (WPost W base (n + (Wr.numL (Wr.zig i)).length) (xs ++ Wr.numL (Wr.zig i)) w) := by
  have HW := Hk.mk H
  have hzb := zig_bd hi
  have HI := Hk.mk hi
  have HL := Hk.mk (Wr.numL_nine (n := Wr.zig i) (by omega))
  clear H hzb hi
  go_enter Try.func105, Try.ntmps105
  go_wp2_with (first | (go_at_call 131; (with_reducible refine (int_any i _ HI.out).mono ?_); rintro e w1 ⟨v1, rfl, ho1, hb1⟩; obtain ⟨a1, c1, rfl, hc1, hby1, hfr1⟩ := ho1.by_; have HB1 := Hk.mk hb1; have HY := Hk.mk hby1; have HF := Hk.mk hfr1; have HO := Hk.mk ho1; clear hb1 hby1 hfr1 ho1) | (go_at_call 104; (with_reducible refine (coadd_any W base n v xs a1 (Wr.numL (Wr.zig i)).length c1 _ (Wr.numL (Wr.zig i)) _ (HW.out.all HB1.out) (Nat.le_trans hbase HB1.out.size) HY.out ?_ ?_).mono ?_); (intro e0; subst e0; have h1 := HY.out.rd (by have := Wr.numL_pos (Wr.zig i); omega); obtain ⟨_, _, e0, _⟩ := h1; cases e0); (have := HL.out; omega); rintro e w2 ⟨v2, rfl, hw2, hs2⟩; have HW2 := Hk.mk hw2; have HS2 := Hk.mk hs2; clear hw2 hs2))
  go_end0
  exact ⟨v2, rfl, HW2.out, (WS.of_all HB1.out HW.out.wlt).trans HS2.out⟩
theorem cobytes_any (W base n : Nat) (v : Value) (xs : List Int) (w : World) (H : WrB w W base v n xs) : Calls Try.prog 62 #[.pointer (some ⟨W, 0, none⟩)] w fun e w' => e = .returned v ∧ w = w' := by
  have c0 := H.cell
  clear H
  go_enter Try.func62, Try.ntmps62
  go_wp2
  go_ret
  exact ⟨rfl, rfl⟩
end Go.Proofs.Ytejilcnldllhpaa
/- Package command: the bytes of a command. -/
namespace Go.Proofs.Ytejilcnldllhpaa
open Go.RowKit
set_option linter.unusedVariables false
def uL (u : List Int) : List Int := u.flatMap fun a => Wr.numL a.toNat
def wrB (q : Int) (f : CF) : List Int :=
  if q = 0 then Wr.numL f.n.toNat else if q = 1 then Wr.numL f.n.toNat else if q = 2 then Wr.numL f.u.length ++ uL f.u else if q = 3 then Wr.numL f.t.toNat else
  if q = 4 then Wr.numL f.w.toNat ++ Wr.numL f.h.toNat else Wr.numL (Wr.zig f.x) ++ Wr.numL (Wr.zig f.y)
def bytesC (p s k : Int) (f : CF) : List Int := Wr.numL k.toNat ++ Wr.numL p.toNat ++ Wr.numL s.toNat ++ (partsL k).flatMap fun q => wrB q f
theorem numL_nine' {z : Int} (h : z ≤ 1099511627776) : (Wr.numL z.toNat).length ≤ 9 := Wr.numL_nine (by omega)
theorem uL_len (u : List Int) (h : ∀ a ∈ u, a ≤ 1099511627776) : (uL u).length ≤ 9 * u.length := by
  induction u with
  | nil => simp [uL]
  | cons a u ih =>
    have h1 := numL_nine' (h a (by simp))
    have h2 := ih fun b hb => h b (by simp [hb])
    unfold uL at *
    simp at *
    omega
theorem uL_snoc {u : List Int} {j : Nat} (h : j < u.length) : uL (u.take (j + 1)) = uL (u.take j) ++ Wr.numL (u.getD j 0).toNat := by
  unfold uL
  rw [List.take_succ_eq_append_getElem h, List.flatMap_append]
  simp [List.getD, List.getElem?_eq_getElem h]
theorem wrB_len {q : Int} {f : CF} (h : vB q f = true) : (wrB q f).length ≤ 600 := by
  unfold vB at h
  unfold wrB
  (repeat' split) <;> simp_all
  · have := numL_nine' (z := f.n) (by omega); omega
  · have := numL_nine' (z := f.n) (by omega); omega
  · unfold idsB at h
    simp at h
    have h1 := uL_len f.u fun a ha => (asc_ge h.2 a ha).2
    have h2 := Wr.numL_nine (n := f.u.length) (by omega)
    omega
  · have := numL_nine' (z := f.t) (by omega); omega
  · have := numL_nine' (z := f.w) (by omega); have := numL_nine' (z := f.h) (by omega); omega
  · have := Wr.numL_nine (n := Wr.zig f.x) (by unfold Wr.zig; split <;> omega)
    have := Wr.numL_nine (n := Wr.zig f.y) (by unfold Wr.zig; split <;> omega)
    omega
set_option maxRecDepth 100000 in
set_option maxHeartbeats 3200000 in
theorem write_any (q : Int) (W base N : Nat) (v : Value) (xs : List Int) (p s k n : Int) (a : Option Addr) (m c : Nat) (u : List Int) (t wd h x y : Int) (w : World) (hq0 : 0 ≤ q) (hq5 : q ≤ 5) (H : WrB w W base v N xs) (hbase : base ≤ w.heap.size) (hN : N ≤ 1099500000000) (hNq : Nq w W a m u) (hm : m ≤ 1099511627776) (E : Hk (vB q ⟨n, u, t, wd, h, x, y⟩ = true)) :
    Calls Try.prog 61 #[.int .i64 q, .pointer (some ⟨W, 0, none⟩), .agg #[.int .i64 p, .int .i64 s, .int .i64 k, .int .i64 n, .slice a m c, .int .i64 t, .int .i64 wd, .int .i64 h, .int .i64 x, .int .i64 y]] w (WPost W base (N + (wrB q ⟨n, u, t, wd, h, x, y⟩).length) (xs ++ wrB q ⟨n, u, t, wd, h, x, y⟩) w) := by
  have hc : q = 0 ∨ q = 1 ∨ q = 2 ∨ q = 3 ∨ q = 4 ∨ q = 5 := by omega
  clear hq0 hq5
  have hWs := H.wlt
  have HW := Hk.mk (H.all ((Below.refl _ _).alloc (Nat.le_refl _) (.cells #[.int .i64 p, .int .i64 s, .int .i64 k, .int .i64 n, .slice a m c, .int .i64 t, .int .i64 wd, .int .i64 h, .int .i64 x, .int .i64 y] 28)))
  have HS := Hk.mk (WS.of_all ((Below.refl _ _).alloc (Nat.le_refl _) (.cells #[.int .i64 p, .int .i64 s, .int .i64 k, .int .i64 n, .slice a m c, .int .i64 t, .int .i64 wd, .int .i64 h, .int .i64 x, .int .i64 y] 28)) hWs)
  have HSZ : Hk (base ≤ (w.alloc (.cells #[.int .i64 p, .int .i64 s, .int .i64 k, .int .i64 n, .slice a m c, .int .i64 t, .int .i64 wd, .int .i64 h, .int .i64 x, .int .i64 y] 28)).heap.size) := ⟨by simp; omega⟩
  have HQ := Hk.mk hNq
  have hl := hNq.len
  clear H hNq
  rcases hc with rfl | rfl | rfl | rfl | rfl | rfl
  · obtain ⟨hx0, hx1⟩ : 0 ≤ n ∧ n ≤ 1099511627776 := by have := E.out; unfold vB at this; simp at this; omega
    clear E hl
    go_enter Try.func61, Try.ntmps61
    go_wp2_with (go_at_call 59; (with_reducible refine (conum_any n n.toNat W base N v xs _ ?_ ?_ HW.out ?_ ?_).mono ?_); (exact ⟨by omega⟩); (exact ⟨by omega⟩); (exact HSZ.out); (omega); rintro e w2 ⟨v2, rfl, hw2, hs2⟩; have HW2 := Hk.mk hw2; have HSZ2 := Hk.mk (Nat.le_trans HSZ.out hs2.size); have HS2 := Hk.mk (HS.out.trans hs2); clear hw2 hs2)
    go_end0
    exact ⟨v2, rfl, HW2.out, HS2.out⟩
  · obtain ⟨hx0, hx1⟩ : 0 ≤ n ∧ n ≤ 1099511627776 := by have := E.out; unfold vB at this; simp at this; omega
    clear E hl
    go_enter Try.func61, Try.ntmps61
    go_wp2_with (go_at_call 59; (with_reducible refine (conum_any n n.toNat W base N v xs _ ?_ ?_ HW.out ?_ ?_).mono ?_); (exact ⟨by omega⟩); (exact ⟨by omega⟩); (exact HSZ.out); (omega); rintro e w2 ⟨v2, rfl, hw2, hs2⟩; have HW2 := Hk.mk hw2; have HSZ2 := Hk.mk (Nat.le_trans HSZ.out hs2.size); have HS2 := Hk.mk (HS.out.trans hs2); clear hw2 hs2)
    go_end0
    exact ⟨v2, rfl, HW2.out, HS2.out⟩
  · obtain ⟨hl1, hl2, has⟩ : 1 ≤ m ∧ m ≤ 64 ∧ ascL 0 u = true := by have := E.out; unfold vB idsB at this; simp at this; exact ⟨by omega, by omega, this.2⟩
    have HAS := Hk.mk has
    have HL := Hk.mk (Wr.numL_nine (n := m) (by omega))
    have HUL : Hk (u.length = m) := ⟨hl⟩
    clear E hl has
    have HBX : Hk (∀ X, WS W (w.alloc (.cells #[.int .i64 p, .int .i64 s, .int .i64 k, .int .i64 n, .slice a m c, .int .i64 t, .int .i64 wd, .int .i64 h, .int .i64 x, .int .i64 y] 28)) X → CmB X w.heap.size p s k n a m c t wd h x y) := ⟨fun X hX => by
      have h1 := CmB.box w p s k n a m c t wd h x y
      have h2 : w.heap.size < (w.alloc (.cells #[.int .i64 p, .int .i64 s, .int .i64 k, .int .i64 n, .slice a m c, .int .i64 t, .int .i64 wd, .int .i64 h, .int .i64 x, .int .i64 y] 28)).heap.size := by simp
      have h3 : ¬ w.heap.size = W := by omega
      have h4 : ¬ U8 (w.alloc (.cells #[.int .i64 p, .int .i64 s, .int .i64 k, .int .i64 n, .slice a m c, .int .i64 t, .int .i64 wd, .int .i64 h, .int .i64 x, .int .i64 y] 28)) w.heap.size := not_u8 w _ _ (by decide)
      have hc : ∀ o, X.cell? ⟨w.heap.size, o, none⟩ = (w.alloc (.cells #[.int .i64 p, .int .i64 s, .int .i64 k, .int .i64 n, .slice a m c, .int .i64 t, .int .i64 wd, .int .i64 h, .int .i64 x, .int .i64 y] 28)).cell? ⟨w.heap.size, o, none⟩ := fun o => hX.cell h2 h3 h4
      exact ⟨(hc _).trans h1.c0, (hc _).trans h1.c1, (hc _).trans h1.c2, (hc _).trans h1.c3, (hc _).trans h1.c4, (hc _).trans h1.c5, (hc _).trans h1.c6, (hc _).trans h1.c7, (hc _).trans h1.c8, (hc _).trans h1.c9, fun j => (World.frozen?_of_block (hX.keep _ h2 h3 h4)).trans (h1.fz j)⟩⟩
    go_enter Try.func61, Try.ntmps61
    go_wp2_with (go_at_call 59; (with_reducible refine (conum_any (m : Int) m W base N v xs _ ?_ ?_ HW.out ?_ ?_).mono ?_); (exact ⟨by omega⟩); (exact ⟨by omega⟩); (exact HSZ.out); (omega); rintro e w2 ⟨v2, rfl, hw2, hs2⟩; have HW2 := Hk.mk hw2; have HSZ2 := Hk.mk (Nat.le_trans HSZ.out hs2.size); obtain ⟨b0, b1, b2, b3, b4, b5, b6, b7, b8, b9, -⟩ := HBX.out _ hs2; have HS2 := Hk.mk (HS.out.trans hs2); clear hw2 hs2)
    clear b0 b1 b2 b3 b4 b5 b6 b7 b8 b9
    go_loopw [26] (fun i wr => ∃ (j : Nat) (v' : Value), i = .int .i64 j ∧ j ≤ m ∧ Hk (WrB wr W base v' (N + (Wr.numL m).length + (uL (u.take j)).length) (xs ++ Wr.numL m ++ uL (u.take j))) ∧ Hk (WS W w wr) ∧ Hk (base ≤ wr.heap.size)) (fun i _ => m - (intOf i).toNat)
    case atStart => exact ⟨0, v2, rfl, by omega, ⟨by simpa [uL] using HW2.out⟩, HS2, HSZ2⟩
    case round =>
      clear HW2 HS2 HSZ2
      obtain ⟨j, v', rfl, hj, HW2, HS2, HSZ2⟩ := hrel
      by_cases hlt : j < m
      · obtain ⟨b, off, rfl, hbl, hcl⟩ := HQ.out.rd (by omega)
        have d0 := (HS2.out.below.cell (p := ⟨b, off + j, none⟩) hbl).trans (hcl j hlt)
        clear hcl
        have hsn := uL_snoc (u := u) (j := j) (by rw [HUL.out]; exact hlt)
        have hge := asc_ge HAS.out _ (getD_mem (xs := u) (k := j) (by rw [HUL.out]; exact hlt))
        have hul : (uL (u.take j)).length ≤ 576 := by
          have h1 := uL_len (u.take j) (fun a ha => (asc_ge HAS.out a (List.mem_of_mem_take ha)).2)
          have h2 : (u.take j).length ≤ j := List.length_take_le _ _
          omega
        generalize u.getD j 0 = z at *
        have HSN := Hk.mk hsn
        have HLN := Hk.mk hul
        obtain ⟨hz0, hz1⟩ := hge
        clear hsn hul
        have i1 : (0 : Int) ≤ (j : Int) := by omega
        have i2 : (j : Int) < (m : Int) := by omega
        go_wp2_with (go_at_call 59; (with_reducible refine (conum_any z z.toNat W base (N + (Wr.numL m).length + (uL (u.take j)).length) v' (xs ++ Wr.numL m ++ uL (u.take j)) _ ?_ ?_ HW2.out ?_ ?_).mono ?_); (exact ⟨by omega⟩); (exact ⟨by omega⟩); (exact HSZ2.out); (have := HL.out; have := HLN.out; omega); rintro e w4 ⟨v4, rfl, hw4, hs4⟩; have HW4 := Hk.mk hw4; have HSZ4 := Hk.mk (Nat.le_trans HSZ2.out hs4.size); have HS4 := Hk.mk (HS2.out.trans hs4); clear hw4 hs4)
        go_roundw
        case rel => exact ⟨j + 1, v4, by go_num, by omega, ⟨by rw [HSN.out, List.length_append, ← Nat.add_assoc, ← List.append_assoc]; exact HW4.out⟩, HS4, HSZ4⟩
        case measure => simp [intOf]; omega
      · have hjm : j = m := by omega
        subst hjm
        go_wp2
        go_end0
        refine ⟨v', rfl, ?_, HS2.out⟩
        have h1 := HW2.out
        rw [List.take_of_length_le (by rw [HUL.out]; omega), Nat.add_assoc, ← List.length_append, List.append_assoc] at h1
        unfold wrB
        rw [← HUL.out] at h1
        exact h1
  · obtain ⟨hx0, hx1⟩ : 0 ≤ t ∧ t ≤ 1099511627776 := by have := E.out; unfold vB at this; simp at this; omega
    clear E hl
    go_enter Try.func61, Try.ntmps61
    go_wp2_with (go_at_call 59; (with_reducible refine (conum_any t t.toNat W base N v xs _ ?_ ?_ HW.out ?_ ?_).mono ?_); (exact ⟨by omega⟩); (exact ⟨by omega⟩); (exact HSZ.out); (omega); rintro e w2 ⟨v2, rfl, hw2, hs2⟩; have HW2 := Hk.mk hw2; have HSZ2 := Hk.mk (Nat.le_trans HSZ.out hs2.size); have HS2 := Hk.mk (HS.out.trans hs2); clear hw2 hs2)
    go_end0
    exact ⟨v2, rfl, HW2.out, HS2.out⟩
  · obtain ⟨hx0, hx1, hx2, hx3⟩ : 0 ≤ wd ∧ wd ≤ 1099511627776 ∧ 0 ≤ h ∧ h ≤ 1099511627776 := by have := E.out; unfold vB at this; simp at this; omega
    have HL := Hk.mk (numL_nine' (z := wd) (by omega))
    clear E hl
    have HBX : Hk (∀ X, WS W (w.alloc (.cells #[.int .i64 p, .int .i64 s, .int .i64 k, .int .i64 n, .slice a m c, .int .i64 t, .int .i64 wd, .int .i64 h, .int .i64 x, .int .i64 y] 28)) X → CmB X w.heap.size p s k n a m c t wd h x y) := ⟨fun X hX => by
      have h1 := CmB.box w p s k n a m c t wd h x y
      have h2 : w.heap.size < (w.alloc (.cells #[.int .i64 p, .int .i64 s, .int .i64 k, .int .i64 n, .slice a m c, .int .i64 t, .int .i64 wd, .int .i64 h, .int .i64 x, .int .i64 y] 28)).heap.size := by simp
      have h3 : ¬ w.heap.size = W := by omega
      have h4 : ¬ U8 (w.alloc (.cells #[.int .i64 p, .int .i64 s, .int .i64 k, .int .i64 n, .slice a m c, .int .i64 t, .int .i64 wd, .int .i64 h, .int .i64 x, .int .i64 y] 28)) w.heap.size := not_u8 w _ _ (by decide)
      have hc : ∀ o, X.cell? ⟨w.heap.size, o, none⟩ = (w.alloc (.cells #[.int .i64 p, .int .i64 s, .int .i64 k, .int .i64 n, .slice a m c, .int .i64 t, .int .i64 wd, .int .i64 h, .int .i64 x, .int .i64 y] 28)).cell? ⟨w.heap.size, o, none⟩ := fun o => hX.cell h2 h3 h4
      exact ⟨(hc _).trans h1.c0, (hc _).trans h1.c1, (hc _).trans h1.c2, (hc _).trans h1.c3, (hc _).trans h1.c4, (hc _).trans h1.c5, (hc _).trans h1.c6, (hc _).trans h1.c7, (hc _).trans h1.c8, (hc _).trans h1.c9, fun j => (World.frozen?_of_block (hX.keep _ h2 h3 h4)).trans (h1.fz j)⟩⟩
    go_enter Try.func61, Try.ntmps61
    go_wp2_with (first | (go_at_call 59; (with_reducible refine (conum_any h h.toNat W base (N + (Wr.numL wd.toNat).length) v2 (xs ++ Wr.numL wd.toNat) _ ?_ ?_ HW2.out ?_ ?_).mono ?_); (exact ⟨by omega⟩); (exact ⟨by omega⟩); (exact HSZ2.out); (have := HL.out; omega); rintro e w3 ⟨v3, rfl, hw3, hs3⟩; have HW3 := Hk.mk hw3; have HSZ3 := Hk.mk (Nat.le_trans HSZ2.out hs3.size); have HS3 := Hk.mk (HS2.out.trans hs3); clear hw3 hs3) | (go_at_call 59; (with_reducible refine (conum_any wd wd.toNat W base N v xs _ ?_ ?_ HW.out ?_ ?_).mono ?_); (exact ⟨by omega⟩); (exact ⟨by omega⟩); (exact HSZ.out); (omega); rintro e w2 ⟨v2, rfl, hw2, hs2⟩; have HW2 := Hk.mk hw2; have HSZ2 := Hk.mk (Nat.le_trans HSZ.out hs2.size); obtain ⟨b0, b1, b2, b3, b4, b5, b6, b7, b8, b9, -⟩ := HBX.out _ hs2; have HS2 := Hk.mk (HS.out.trans hs2); clear hw2 hs2))
    go_end0
    refine ⟨v3, rfl, ?_, HS3.out⟩
    have h1 := HW3.out
    rw [Nat.add_assoc, ← List.length_append, List.append_assoc] at h1
    exact h1
  · obtain ⟨hx0, hx1, hx2, hx3⟩ : -1099511627776 ≤ x ∧ x ≤ 1099511627776 ∧ -1099511627776 ≤ y ∧ y ≤ 1099511627776 := by have := E.out; unfold vB at this; simp at this; omega
    have HL := Hk.mk (Wr.numL_nine (n := Wr.zig x) (by unfold Wr.zig; split <;> omega))
    clear E hl
    have HBX : Hk (∀ X, WS W (w.alloc (.cells #[.int .i64 p, .int .i64 s, .int .i64 k, .int .i64 n, .slice a m c, .int .i64 t, .int .i64 wd, .int .i64 h, .int .i64 x, .int .i64 y] 28)) X → CmB X w.heap.size p s k n a m c t wd h x y) := ⟨fun X hX => by
      have h1 := CmB.box w p s k n a m c t wd h x y
      have h2 : w.heap.size < (w.alloc (.cells #[.int .i64 p, .int .i64 s, .int .i64 k, .int .i64 n, .slice a m c, .int .i64 t, .int .i64 wd, .int .i64 h, .int .i64 x, .int .i64 y] 28)).heap.size := by simp
      have h3 : ¬ w.heap.size = W := by omega
      have h4 : ¬ U8 (w.alloc (.cells #[.int .i64 p, .int .i64 s, .int .i64 k, .int .i64 n, .slice a m c, .int .i64 t, .int .i64 wd, .int .i64 h, .int .i64 x, .int .i64 y] 28)) w.heap.size := not_u8 w _ _ (by decide)
      have hc : ∀ o, X.cell? ⟨w.heap.size, o, none⟩ = (w.alloc (.cells #[.int .i64 p, .int .i64 s, .int .i64 k, .int .i64 n, .slice a m c, .int .i64 t, .int .i64 wd, .int .i64 h, .int .i64 x, .int .i64 y] 28)).cell? ⟨w.heap.size, o, none⟩ := fun o => hX.cell h2 h3 h4
      exact ⟨(hc _).trans h1.c0, (hc _).trans h1.c1, (hc _).trans h1.c2, (hc _).trans h1.c3, (hc _).trans h1.c4, (hc _).trans h1.c5, (hc _).trans h1.c6, (hc _).trans h1.c7, (hc _).trans h1.c8, (hc _).trans h1.c9, fun j => (World.frozen?_of_block (hX.keep _ h2 h3 h4)).trans (h1.fz j)⟩⟩
    go_enter Try.func61, Try.ntmps61
    go_wp2_with (first | (go_at_call 105; (with_reducible refine (coint_any y W base (N + (Wr.numL (Wr.zig x)).length) v2 (xs ++ Wr.numL (Wr.zig x)) _ ?_ HW2.out ?_ ?_).mono ?_); (unfold I62; omega); (exact HSZ2.out); (have := HL.out; omega); rintro e w3 ⟨v3, rfl, hw3, hs3⟩; have HW3 := Hk.mk hw3; have HSZ3 := Hk.mk (Nat.le_trans HSZ2.out hs3.size); have HS3 := Hk.mk (HS2.out.trans hs3); clear hw3 hs3) | (go_at_call 105; (with_reducible refine (coint_any x W base N v xs _ ?_ HW.out ?_ ?_).mono ?_); (unfold I62; omega); (exact HSZ.out); (omega); rintro e w2 ⟨v2, rfl, hw2, hs2⟩; have HW2 := Hk.mk hw2; have HSZ2 := Hk.mk (Nat.le_trans HSZ.out hs2.size); obtain ⟨b0, b1, b2, b3, b4, b5, b6, b7, b8, b9, -⟩ := HBX.out _ hs2; have HS2 := Hk.mk (HS.out.trans hs2); clear hw2 hs2))
    go_end0
    refine ⟨v3, rfl, ?_, HS3.out⟩
    have h1 := HW3.out
    rw [Nat.add_assoc, ← List.length_append, List.append_assoc] at h1
    exact h1
theorem okC_parts {p s k : Int} {f : CF} (h : okC p s k f = true) : (1 ≤ p ∧ p ≤ 8 ∧ 0 ≤ s ∧ s ≤ 1099511627776) ∧ (1 ≤ k ∧ k ≤ 7) ∧ ∀ q ∈ partsL k, vB q f = true := by
  rw [refC_eq] at h
  unfold refC baseB at h
  unfold partsL
  (repeat' split at h) <;> simp_all
theorem flat_len {L : List Int} {f : CF} (h : ∀ q ∈ L, vB q f = true) : (L.flatMap fun q => wrB q f).length ≤ 600 * L.length := by
  induction L with
  | nil => simp
  | cons a l ih =>
    have h1 := wrB_len (h a (by simp))
    have h2 := ih fun b hb => h b (by simp [hb])
    simp at *
    omega
theorem flat_snoc {L : List Int} {j : Nat} (f : CF) (h : j < L.length) : ((L.take (j + 1)).flatMap fun q => wrB q f) = ((L.take j).flatMap fun q => wrB q f) ++ wrB (L.getD j 0) f := by
  rw [List.take_succ_eq_append_getElem h, List.flatMap_append]
  simp [List.getD, List.getElem?_eq_getElem h]
theorem bytes22_no (p s k n : Int) (a : Option Addr) (m c : Nat) (u : List Int) (t wd h x y : Int) (w : World) (hN : Nq w w.heap.size a m u) (hm : m ≤ 1099511627776) (E : Hk (okC p s k ⟨n, u, t, wd, h, x, y⟩ = false)) :
    Calls Try.prog 17 #[.agg #[.int .i64 p, .int .i64 s, .int .i64 k, .int .i64 n, .slice a m c, .int .i64 t, .int .i64 wd, .int .i64 h, .int .i64 x, .int .i64 y]] w fun e w' => e = .returned (.tuple #[.slice none 0 0, .int .i64 1]) ∧ Below w.heap.size w w' := by
  have HN := Hk.mk ((hN.below ((Below.refl _ _).alloc (Nat.le_refl _) (.cells #[.int .i64 p, .int .i64 s, .int .i64 k, .int .i64 n, .slice a m c, .int .i64 t, .int .i64 wd, .int .i64 h, .int .i64 x, .int .i64 y] 28)) (Nat.le_refl _)).mono (show w.heap.size ≤ (w.alloc (.cells #[.int .i64 p, .int .i64 s, .int .i64 k, .int .i64 n, .slice a m c, .int .i64 t, .int .i64 wd, .int .i64 h, .int .i64 x, .int .i64 y] 28)).heap.size by simp))
  have E1 : Hk ((if okC p s k ⟨n, u, t, wd, h, x, y⟩ then (0 : Int) else 1) = 1) := ⟨by rw [E.out]; rfl⟩
  clear hN
  go_enter Try.func17, Try.ntmps17
  go_wp2_with (go_at_call 20; (with_reducible refine (check22_as 1 p s k n a m c u t wd h x y _ HN.out hm E1).mono ?_); rintro e w1 ⟨rfl, hb1⟩; have HB1 := Hk.mk hb1; clear hb1)
  go_ret2
  exact ⟨rfl, ((Below.refl _ _).alloc (Nat.le_refl _) _).trans (HB1.out.mono (by simp))⟩
def BytesR (zs : List Int) (w : World) (e : Ending) (w' : World) : Prop := ∃ v, e = .returned (.tuple #[v, .int .i64 0]) ∧ OwnB w' w.heap.size v zs.length zs ∧ Below w.heap.size w w'
set_option maxRecDepth 100000 in
set_option maxHeartbeats 3200000 in
theorem bytes22_yes (p s k n : Int) (a : Option Addr) (m c : Nat) (u : List Int) (t wd h x y : Int) (w : World) (hN : Nq w w.heap.size a m u) (hm : m ≤ 1099511627776) (E : Hk (okC p s k ⟨n, u, t, wd, h, x, y⟩ = true)) :
    Calls Try.prog 17 #[.agg #[.int .i64 p, .int .i64 s, .int .i64 k, .int .i64 n, .slice a m c, .int .i64 t, .int .i64 wd, .int .i64 h, .int .i64 x, .int .i64 y]] w (BytesR (bytesC p s k ⟨n, u, t, wd, h, x, y⟩) w) := by
  obtain ⟨⟨hp1, hp2, hs1, hs2⟩, ⟨hk1, hk2⟩, hv⟩ := okC_parts E.out
  have HV := Hk.mk hv
  have HL1 := Hk.mk (numL_nine' (z := k) (by omega))
  have HL2 := Hk.mk (numL_nine' (z := p) (by omega))
  have HL3 := Hk.mk (numL_nine' (z := s) (by omega))
  have HN0 := Hk.mk hN
  have HN := Hk.mk ((hN.below ((Below.refl _ _).alloc (Nat.le_refl _) (.cells #[.int .i64 p, .int .i64 s, .int .i64 k, .int .i64 n, .slice a m c, .int .i64 t, .int .i64 wd, .int .i64 h, .int .i64 x, .int .i64 y] 28)) (Nat.le_refl _)).mono (show w.heap.size ≤ (w.alloc (.cells #[.int .i64 p, .int .i64 s, .int .i64 k, .int .i64 n, .slice a m c, .int .i64 t, .int .i64 wd, .int .i64 h, .int .i64 x, .int .i64 y] 28)).heap.size by simp))
  have E1 : Hk ((if okC p s k ⟨n, u, t, wd, h, x, y⟩ then (0 : Int) else 1) = 0) := ⟨by rw [E.out]; rfl⟩
  have HBW : Hk (Below w.heap.size w (w.alloc (.cells #[.int .i64 p, .int .i64 s, .int .i64 k, .int .i64 n, .slice a m c, .int .i64 t, .int .i64 wd, .int .i64 h, .int .i64 x, .int .i64 y] 28))) := ⟨(Below.refl _ _).alloc (Nat.le_refl _) _⟩
  have HB0 := Hk.mk (CmB.box w p s k n a m c t wd h x y)
  clear hN hv
  go_enter Try.func17, Try.ntmps17
  go_wp2_with (first | (go_at_call 20; (with_reducible refine (check22_as 0 p s k n a m c u t wd h x y _ HN.out hm E1).mono ?_); rintro e w1 ⟨rfl, hb1⟩; have HB1 := Hk.mk hb1; have hsz1 : w.heap.size < w1.heap.size := (by have := hb1.size; simp at this; omega); have HX1 := Hk.mk (HB0.out.below hb1 (by simp)); have HBX : Hk (∀ X, Below w1.heap.size (w1.alloc (.cells #[.slice none 0 0, .int .u64 0, .int .i64 0, .bool false] 112)) X → CmB X w.heap.size p s k n a m c t wd h x y) := ⟨fun X hX => (HX1.out.below ((Below.refl _ _).alloc (Nat.le_refl _) _) hsz1).below hX hsz1⟩; have HW1 : Hk (WrB (w1.alloc (.cells #[.slice none 0 0, .int .u64 0, .int .i64 0, .bool false] 112)) w1.heap.size (w1.heap.size + 1) (.slice none 0 0) 0 []) := ⟨⟨by go_simp, by go_simp, OwnB.nil _ _, Nat.lt_succ_self _⟩⟩; have HS1 : Hk (WS w1.heap.size (w1.alloc (.cells #[.slice none 0 0, .int .u64 0, .int .i64 0, .bool false] 112)) (w1.alloc (.cells #[.slice none 0 0, .int .u64 0, .int .i64 0, .bool false] 112))) := ⟨WS.refl _ _⟩; have HSZ1 : Hk (w1.heap.size + 1 ≤ (w1.alloc (.cells #[.slice none 0 0, .int .u64 0, .int .i64 0, .bool false] 112)).heap.size) := ⟨by simp⟩; obtain ⟨b0, b1, b2, b3, b4, b5, b6, b7, b8, b9, -⟩ := HX1.out; clear hb1) | (go_at_call 60; (with_reducible refine (parts_any k _ hk1 hk2).mono ?_); rintro e w5 ⟨bp, nn, L, rfl, hL, hlen, hnq, hb5, hbb, hlt, hu5⟩; have HB5 := Hk.mk hb5; have HS5 := Hk.mk (HS4.out.trans (WS.of_all hb5 HW4.out.wlt)); have HW5 := Hk.mk (HW4.out.all hb5); have HSZ5 := Hk.mk (Nat.le_trans HSZ4.out hb5.size); have HLQ := Hk.mk hnq; have HL := Hk.mk hL; have HU := Hk.mk hu5; have hn2 : nn ≤ 2 := (by have := (partsL_bd k).1; rw [hL, hlen] at this; exact this); have hpw : w1.heap.size < bp := (by have := HW4.out.wlt; omega); clear hb5 hnq hL hlen hbb hu5 b0 b1 b2 b3 b4 b5 b6 b7 b8 b9) | (go_at_call 59; (with_reducible refine (conum_any s s.toNat w1.heap.size (w1.heap.size + 1) (0 + (Wr.numL k.toNat).length + (Wr.numL p.toNat).length) v3 ([] ++ Wr.numL k.toNat ++ Wr.numL p.toNat) _ ?_ ?_ HW3.out ?_ ?_).mono ?_); (exact ⟨by omega⟩); (exact ⟨by omega⟩); (exact HSZ3.out); (have := HL1.out; have := HL2.out; have := HL3.out; omega); rintro e w4 ⟨v4, rfl, hw4, hs4⟩; have HW4 := Hk.mk hw4; have HSZ4 := Hk.mk (Nat.le_trans HSZ3.out hs4.size); have HS4 := Hk.mk (HS3.out.trans hs4); obtain ⟨b0, b1, b2, b3, b4, b5, b6, b7, b8, b9, -⟩ := HBX.out _ HS4.out.below; clear hw4 hs4) | (go_at_call 59; (with_reducible refine (conum_any p p.toNat w1.heap.size (w1.heap.size + 1) (0 + (Wr.numL k.toNat).length) v2 ([] ++ Wr.numL k.toNat) _ ?_ ?_ HW2.out ?_ ?_).mono ?_); (exact ⟨by omega⟩); (exact ⟨by omega⟩); (exact HSZ2.out); (have := HL1.out; have := HL2.out; have := HL3.out; omega); rintro e w3 ⟨v3, rfl, hw3, hs3⟩; have HW3 := Hk.mk hw3; have HSZ3 := Hk.mk (Nat.le_trans HSZ2.out hs3.size); have HS3 := Hk.mk (HS2.out.trans hs3); obtain ⟨b0, b1, b2, b3, b4, b5, b6, b7, b8, b9, -⟩ := HBX.out _ HS3.out.below; clear hw3 hs3) | (go_at_call 59; (with_reducible refine (conum_any k k.toNat w1.heap.size (w1.heap.size + 1) 0 (.slice none 0 0) [] _ ?_ ?_ HW1.out ?_ ?_).mono ?_); (exact ⟨by omega⟩); (exact ⟨by omega⟩); (exact HSZ1.out); (have := HL1.out; have := HL2.out; have := HL3.out; omega); rintro e w2 ⟨v2, rfl, hw2, hs2⟩; have HW2 := Hk.mk hw2; have HSZ2 := Hk.mk (Nat.le_trans HSZ1.out hs2.size); have HS2 := Hk.mk (HS1.out.trans hs2); obtain ⟨b0, b1, b2, b3, b4, b5, b6, b7, b8, b9, -⟩ := HBX.out _ HS2.out.below; clear hw2 hs2))
  have HW6 : Hk (WrB w5 w1.heap.size (w1.heap.size + 1) v4 (Wr.numL k.toNat ++ Wr.numL p.toNat ++ Wr.numL s.toNat).length (Wr.numL k.toNat ++ Wr.numL p.toNat ++ Wr.numL s.toNat)) := ⟨by have := HW5.out; simpa [Nat.add_assoc, List.append_assoc] using this⟩
  have HLB : Hk (L.length = nn ∧ ∀ q ∈ L, (0 ≤ q ∧ q ≤ 5) ∧ vB q ⟨n, u, t, wd, h, x, y⟩ = true) := ⟨⟨HLQ.out.len, by rw [← HL.out]; exact fun q hq => ⟨(partsL_bd k).2 q hq, HV.out q hq⟩⟩⟩
  have HL0 : Hk ((Wr.numL k.toNat ++ Wr.numL p.toNat ++ Wr.numL s.toNat).length ≤ 27) := ⟨by have := HL1.out; have := HL2.out; have := HL3.out; simp; omega⟩
  clear HW5 HW4 HW3 HW2 HW1 HS1 HS2 HS3 HS4 HSZ1 HSZ2 HSZ3 HSZ4 HV E1 HN
  generalize hgl : (Wr.numL k.toNat ++ Wr.numL p.toNat ++ Wr.numL s.toNat) = xs0 at *
  have HGL := Hk.mk hgl
  clear hgl
  go_loopw [26] (fun i wr => ∃ (j : Nat) (v' : Value), i = .int .i64 j ∧ j ≤ nn ∧ Hk (WrB wr w1.heap.size (w1.heap.size + 1) v' (xs0 ++ (L.take j).flatMap fun q => wrB q ⟨n, u, t, wd, h, x, y⟩).length (xs0 ++ (L.take j).flatMap fun q => wrB q ⟨n, u, t, wd, h, x, y⟩)) ∧ Hk (WS w1.heap.size w5 wr) ∧ Hk (w1.heap.size + 1 ≤ wr.heap.size)) (fun i _ => nn - (intOf i).toNat)
  case atStart => exact ⟨0, v4, rfl, by omega, ⟨by simpa using HW6.out⟩, ⟨WS.refl _ _⟩, HSZ5⟩
  case round =>
    clear HW6 HSZ5
    obtain ⟨j, v', rfl, hj, HW, HS, HSZ⟩ := hrel
    by_cases hlt2 : j < nn
    · have i1 : (0 : Int) ≤ (j : Int) := by omega
      have i2 : (j : Int) < (nn : Int) := by omega
      obtain ⟨b', off', eb, hbl, hc⟩ := HLQ.out.rd (by omega)
      injection eb with eb
      injection eb with eb1 eb2
      subst eb1 eb2
      have hq := (HS.out.cell (o := 0 + j) hlt (by omega) HU.out).trans (hc j hlt2)
      simp only [Nat.zero_add] at hq
      clear hc
      have hsn := flat_snoc ⟨n, u, t, wd, h, x, y⟩ (L := L) (j := j) (by rw [HLB.out.1]; exact hlt2)
      have hfl := flat_len (L := L.take j) (f := ⟨n, u, t, wd, h, x, y⟩) (fun q hq => (HLB.out.2 q (List.mem_of_mem_take hq)).2)
      have hjl : (L.take j).length ≤ 2 := by have : (L.take j).length ≤ j := List.length_take_le _ _; omega
      obtain ⟨⟨q0, q5⟩, hv⟩ := HLB.out.2 _ (getD_mem (xs := L) (k := j) (by rw [HLB.out.1]; exact hlt2))
      generalize L.getD j 0 = q at *
      have HSN := Hk.mk hsn
      have HV := Hk.mk hv
      have HFL : Hk ((xs0 ++ (L.take j).flatMap fun q => wrB q ⟨n, u, t, wd, h, x, y⟩).length ≤ 2000) := ⟨by have := HL0.out; simp at *; omega⟩
      obtain ⟨b0, b1, b2, b3, b4, b5, b6, b7, b8, b9, -⟩ := HBX.out _ (HS5.out.trans HS.out).below
      have HNQ : Hk (Nq wr w1.heap.size a m u) := ⟨((HN0.out.below ((HBW.out.trans (HB1.out.mono (by simp))).trans (((Below.refl w1.heap.size w1).alloc (Nat.le_refl _) (.cells #[.slice none 0 0, .int .u64 0, .int .i64 0, .bool false] 112)).trans (HS5.out.trans HS.out).below |>.mono (by omega))) (Nat.le_refl _)).mono (by omega))⟩
      clear hsn hv hfl hjl
      go_wp2_with (go_at_call 61; (with_reducible refine (write_any q w1.heap.size (w1.heap.size + 1) _ v' _ p s k n a m c u t wd h x y _ q0 q5 HW.out HSZ.out ?_ HNQ.out hm HV).mono ?_); (have := HFL.out; omega); rintro e w6 ⟨v6, rfl, hw6, hs6⟩; have HW6 := Hk.mk hw6; have HS6 := Hk.mk (HS.out.trans hs6); have HSZ6 := Hk.mk (Nat.le_trans HSZ.out hs6.size); clear hw6 hs6)
      go_roundw
      case rel => exact ⟨j + 1, v6, by go_num, by omega, ⟨by have h1 := HW6.out; rw [← List.length_append, List.append_assoc] at h1; rw [HSN.out]; exact h1⟩, HS6, HSZ6⟩
      case measure => simp [intOf]; omega
    · have hjn : j = nn := by omega
      subst hjn
      go_wp2_with (go_at_call 62; (with_reducible refine (cobytes_any w1.heap.size (w1.heap.size + 1) _ v' _ _ HW.out).mono ?_); rintro e w' ⟨rfl, rfl⟩)
      go_ret2
      have hx : (xs0 ++ (L.take j).flatMap fun q => wrB q ⟨n, u, t, wd, h, x, y⟩) = bytesC p s k ⟨n, u, t, wd, h, x, y⟩ := by
        rw [List.take_of_length_le (by rw [HLB.out.1]; omega), ← HGL.out, ← HL.out]; rfl
      have ho := HW.out.own
      rw [hx] at ho
      refine ⟨v', rfl, ho.weak (by omega), ?_⟩
      exact (HBW.out.trans (HB1.out.mono (by simp))).trans ((((Below.refl w1.heap.size w1).alloc (Nat.le_refl _) (.cells #[.slice none 0 0, .int .u64 0, .int .i64 0, .bool false] 112)).trans (HS5.out.trans HS.out).below).mono (by omega))
end Go.Proofs.Ytejilcnldllhpaa
/- Package codec: what a reader reads. -/
namespace Go.Proofs.Ytejilcnldllhpaa
open Go.RowKit
set_option linter.unusedVariables false
/-- A reader in block R of these bytes, so far, with this error. -/
structure RdB (w : World) (D R : Nat) (a : Option Addr) (n c : Nat) (xs : List Int) (at_ : Nat) (e : Int) : Prop where
  c0 : w.cell? ⟨R, 0, none⟩ = some (.slice a n c)
  c1 : w.cell? ⟨R, 1, none⟩ = some (.int .i64 at_)
  c2 : w.cell? ⟨R, 2, none⟩ = some (.int .i64 e)
  f1 : w.frozen? ⟨R, 1, none⟩ = false
  f2 : w.frozen? ⟨R, 2, none⟩ = false
  by_ : By w D a n xs
  dr : D ≤ R
  nc : n ≤ c
  cm : c ≤ 9223372036854775807
  nm : n ≤ 1099511627776
  an : a = none → c = 0
  le : at_ ≤ n
theorem RdB.lt {w : World} {D R : Nat} {a : Option Addr} {n c : Nat} {xs : List Int} {at_ : Nat} {e : Int} (h : RdB w D R a n c xs at_ e) : R < w.heap.size := World.block_lt_of_cell? _ _ h.c0
theorem By.fr {M : Nat → Prop} {w w' : World} {D n : Nat} {a : Option Addr} {xs : List Int} (h : By w D a n xs) (k : Fr M w w') (hR : D ≤ w.heap.size) (hM : ∀ j, j < D → ¬ M j) : By w' D a n xs :=
  ⟨h.len, h.byt, fun hn => by
    obtain ⟨b, off, e1, h1, h2⟩ := h.rd hn
    exact ⟨b, off, e1, h1, fun j hj => (k.cell (by omega) (hM b h1)).trans (h2 j hj)⟩⟩
/-- Nothing that stands, up to the reader's block, is touched. -/
theorem RdB.fr {M : Nat → Prop} {w w' : World} {D R : Nat} {a : Option Addr} {n c : Nat} {xs : List Int} {at_ : Nat} {e : Int} (h : RdB w D R a n c xs at_ e) (k : Fr M w w') (hM : ∀ j, j < D ∨ j = R → ¬ M j) : RdB w' D R a n c xs at_ e :=
  ⟨(k.cell h.lt (hM R (.inr rfl))).trans h.c0, (k.cell h.lt (hM R (.inr rfl))).trans h.c1, (k.cell h.lt (hM R (.inr rfl))).trans h.c2, (k.frozen h.lt (hM R (.inr rfl))).trans h.f1, (k.frozen h.lt (hM R (.inr rfl))).trans h.f2,
   h.by_.fr k (Nat.le_trans h.dr (Nat.le_of_lt h.lt)) (fun j hj => hM j (.inl hj)), h.dr, h.nc, h.cm, h.nm, h.an, h.le⟩
theorem RdB.drewN {w : World} {D R : Nat} {a : Option Addr} {n c : Nat} {xs : List Int} {at_ : Nat} {e : Int} (h : RdB w D R a n c xs at_ e) (m : Nat) : RdB (w.drewN m) D R a n c xs at_ e :=
  h.fr ((Fr.refl (fun _ => False) w).drewN m) fun _ _ x => x
/-- One step of a reader: what it answers, where it stands, its error. -/
def stpC (N K E lo hi : Int) (at_ : Nat) (e : Int) : Int × Nat × Int :=
  if e ≠ 0 then (0, at_, e) else if E ≠ 0 then (0, at_, E) else if N < lo ∨ hi < N then (0, at_, 1) else (N, at_ + K.toNat, 0)
def rdV (sg : Bool) (xs : List Int) (lo hi : Int) (at_ : Nat) (e : Int) : Int × Nat × Int :=
  stpC (if sg then Wr.unzig (Wr.getS (xs.drop at_)).1 else (Wr.getS (xs.drop at_)).1) (Wr.getS (xs.drop at_)).2.1 (Wr.getS (xs.drop at_)).2.2 lo hi at_ e
theorem By.setR {w : World} {D R n : Nat} {a : Option Addr} {xs : List Int} (h : By w D a n xs) (hD : D ≤ R) (hR : R ≤ w.heap.size) (o : Nat) (v : Value) : By (w.setCell ⟨R, o, none⟩ v) D a n xs :=
  h.fr (M := fun j => j = R) ((Fr.refl (fun j => j = R) w).setCell (p := ⟨R, o, none⟩) (fun _ => rfl) v) (by omega) (fun j hj e => by omega)
/-- Take: counted as read, or the error kept. -/
def TakeR (K E : Int) (D R : Nat) (a : Option Addr) (n c : Nat) (xs : List Int) (at_ : Nat) (e : Int) (w : World) (o : Ending) (w' : World) : Prop :=
  o = .returned (.tuple #[]) ∧ RdB w' D R a n c xs (if e = 0 ∧ E = 0 then at_ + K.toNat else at_) (if e = 0 then E else e) ∧ Fr (fun j => j = R) w w' ∧ w.heap.size = w'.heap.size
theorem cotake_any (K E : Int) (D R : Nat) (a : Option Addr) (n c : Nat) (xs : List Int) (at_ : Nat) (e : Int) (w : World) (H : RdB w D R a n c xs at_ e) (hK : 0 ≤ K) (hKn : at_ + K.toNat ≤ n) :
    Calls Try.prog 132 #[.pointer (some ⟨R, 0, none⟩), .int .i64 K, .int .i64 E] w (TakeR K E D R a n c xs at_ e w) := by
  obtain ⟨c0, c1, c2, f1, f2, hby, hdr, hnc, hcm, hnm, han, hle⟩ := H
  have HB := Hk.mk hby
  have hRs : R < w.heap.size := World.block_lt_of_cell? _ _ c0
  have HAN := Hk.mk han
  clear hby han
  by_cases he : e = 0
  · subst he
    by_cases hE : E = 0
    · subst hE
      obtain ⟨k, rfl⟩ : ∃ k : Nat, K = k := ⟨K.toNat, by omega⟩
      have hkk : at_ + k ≤ n := by simpa using hKn
      go_enter Try.func132, Try.ntmps132
      go_wp2
      go_end0
      refine ⟨rfl, ⟨by go_simp, ?_, by go_simp, by go_simp, by go_simp, (HB.out.setR hdr (Nat.le_of_lt hRs) 2 (.int .i64 0)).setR hdr (by simp; omega) 1 _, hdr, hnc, hcm, hnm, HAN.out, by simp; omega⟩, ?_, by simp⟩
      · simp
        exact World.cell?_setCell_same' _ _ _ (by go_simp)
      · exact ((Fr.refl (fun j => j = R) w).setCell (p := ⟨R, 2, none⟩) (fun _ => rfl) (.int .i64 0)).setCell (p := ⟨R, 1, none⟩) (fun _ => rfl) _
    · have b1 : (E == 0) = false := by simp; omega
      go_enter Try.func132, Try.ntmps132
      go_wp2
      go_end0
      refine ⟨rfl, ?_, (Fr.refl (fun j => j = R) w).setCell (p := ⟨R, 2, none⟩) (fun _ => rfl) (.int .i64 E), by simp⟩
      rw [if_neg (by omega), if_pos rfl]
      exact ⟨by go_simp, by go_simp, by go_simp, by go_simp, by go_simp, HB.out.setR hdr (Nat.le_of_lt hRs) 2 (.int .i64 E), hdr, hnc, hcm, hnm, HAN.out, hle⟩
  · have b1 : (e == 0) = false := by simp; omega
    have b2 : (e != 0) = true := by simp; omega
    go_enter Try.func132, Try.ntmps132
    go_wp2
    go_end0
    refine ⟨rfl, ?_, Fr.refl _ _, rfl⟩
    rw [if_neg (by omega), if_neg he]
    exact ⟨c0, c1, c2, f1, f2, HB.out, hdr, hnc, hcm, hnm, HAN.out, hle⟩
/-- What a reading of a number leaves. -/
def NumR (r : Int × Nat × Int) (D R : Nat) (a : Option Addr) (n c : Nat) (xs : List Int) (w : World) (o : Ending) (w' : World) : Prop :=
  ∃ z at' e', o = .returned (.int .i64 z) ∧ r = (z, at', e') ∧ RdB w' D R a n c xs at' e' ∧ Fr (fun j => j = R) w w' ∧ w.heap.size = w'.heap.size
theorem cotake_as (K E : Int) (D R : Nat) (a : Option Addr) (n c : Nat) (xs : List Int) (at_ : Nat) (e : Int) (at' : Nat) (e' : Int) (w : World) (H : RdB w D R a n c xs at_ e) (hK : 0 ≤ K) (hKn : at_ + K.toNat ≤ n) (HA : Hk ((if e = 0 ∧ E = 0 then at_ + K.toNat else at_) = at')) (HE : Hk ((if e = 0 then E else e) = e')) :
    Calls Try.prog 132 #[.pointer (some ⟨R, 0, none⟩), .int .i64 K, .int .i64 E] w fun o w' => o = .returned (.tuple #[]) ∧ RdB w' D R a n c xs at' e' ∧ Fr (fun j => j = R) w w' ∧ w.heap.size = w'.heap.size := by
  refine (cotake_any K E D R a n c xs at_ e w H hK hKn).mono fun o w' h => ?_
  have h' := h
  unfold TakeR at h'
  rw [HA.out, HE.out] at h'
  exact h'
theorem conumber_any (N K E lo hi : Int) (D R : Nat) (a : Option Addr) (n c : Nat) (xs : List Int) (at_ : Nat) (e : Int) (w : World) (H : RdB w D R a n c xs at_ e) (hK : 0 ≤ K) (hKn : at_ + K.toNat ≤ n) :
    Calls Try.prog 111 #[.pointer (some ⟨R, 0, none⟩), .int .i64 N, .int .i64 K, .int .i64 E, .int .i64 lo, .int .i64 hi] w (NumR (stpC N K E lo hi at_ e) D R a n c xs w) := by
  have HR := Hk.mk H
  clear H
  by_cases hE : E = 0
  · subst hE
    by_cases hr : N < lo ∨ hi < N
    · obtain ⟨at', hat⟩ : ∃ at', (if e = 0 ∧ (1 : Int) = 0 then at_ + K.toNat else at_) = at' := ⟨_, rfl⟩
      obtain ⟨e', hee⟩ : ∃ e', (if e = 0 then (1 : Int) else e) = e' := ⟨_, rfl⟩
      have RR : Hk (stpC N K 0 lo hi at_ e = (0, at', e')) := ⟨by rw [← hat, ← hee]; unfold stpC; by_cases h0 : e = 0 <;> simp [h0, hr]⟩
      have hne : ¬ e' = 0 := by rw [← hee]; split <;> omega
      have b2 : (e' == 0) = false := by simpa using hne
      have b3 : (e' != 0) = true := by simpa using hne
      have HA := Hk.mk hat
      have HE := Hk.mk hee
      clear hat hee hne
      by_cases h1 : N < lo
      · have b0 : decide (N < lo) = true := by simpa using h1
        clear hr
        go_enter Try.func111, Try.ntmps111
        go_wp2_with (go_at_call 132; (with_reducible refine (cotake_as K 1 D R a n c xs at_ e at' e' _ HR.out hK hKn HA HE).mono ?_); rintro o w1 ⟨rfl, hr1, hf1, hz1⟩; have d2 := hr1.c2; have HR1 := Hk.mk hr1; have HF1 := Hk.mk hf1; have HZ1 := Hk.mk hz1; clear hr1 hf1 hz1)
        go_ret
        exact ⟨0, at', e', rfl, RR.out, HR1.out, HF1.out, HZ1.out⟩
      · have h2 : hi < N := by omega
        have b0 : decide (N < lo) = false := by simpa using h1
        have b1 : decide (hi < N) = true := by simpa using h2
        clear hr
        go_enter Try.func111, Try.ntmps111
        go_wp2_with (go_at_call 132; (with_reducible refine (cotake_as K 1 D R a n c xs at_ e at' e' _ HR.out hK hKn HA HE).mono ?_); rintro o w1 ⟨rfl, hr1, hf1, hz1⟩; have d2 := hr1.c2; have HR1 := Hk.mk hr1; have HF1 := Hk.mk hf1; have HZ1 := Hk.mk hz1; clear hr1 hf1 hz1)
        go_ret
        exact ⟨0, at', e', rfl, RR.out, HR1.out, HF1.out, HZ1.out⟩
    · have h1 : ¬ N < lo := by omega
      have h2 : ¬ hi < N := by omega
      have b0 : decide (N < lo) = false := by simpa using h1
      have b1 : decide (hi < N) = false := by simpa using h2
      by_cases h0 : e = 0
      · subst h0
        obtain ⟨at', hat⟩ : ∃ at', at_ + K.toNat = at' := ⟨_, rfl⟩
        obtain ⟨e', hee⟩ : ∃ e' : Int, 0 = e' := ⟨_, rfl⟩
        have RR : Hk (stpC N K 0 lo hi at_ 0 = (N, at', e')) := ⟨by rw [← hat, ← hee]; unfold stpC; simp [hr]⟩
        have b2 : (e' == 0) = true := by simp [← hee]
        have b3 : (e' != 0) = false := by simp [← hee]
        have HA : Hk ((if (0 : Int) = 0 ∧ (0 : Int) = 0 then at_ + K.toNat else at_) = at') := ⟨by simpa using hat⟩
        have HE : Hk ((if (0 : Int) = 0 then (0 : Int) else 0) = e') := ⟨by simpa using hee⟩
        clear hat hee hr
        go_enter Try.func111, Try.ntmps111
        go_wp2_with (go_at_call 132; (with_reducible refine (cotake_as K 0 D R a n c xs at_ 0 at' e' _ HR.out hK hKn HA HE).mono ?_); rintro o w1 ⟨rfl, hr1, hf1, hz1⟩; have d2 := hr1.c2; have HR1 := Hk.mk hr1; have HF1 := Hk.mk hf1; have HZ1 := Hk.mk hz1; clear hr1 hf1 hz1)
        go_ret
        exact ⟨N, at', e', rfl, RR.out, HR1.out, HF1.out, HZ1.out⟩
      · obtain ⟨at', hat⟩ : ∃ at', at_ = at' := ⟨_, rfl⟩
        obtain ⟨e', hee⟩ : ∃ e', e = e' := ⟨_, rfl⟩
        have RR : Hk (stpC N K 0 lo hi at_ e = (0, at', e')) := ⟨by rw [← hat, ← hee]; unfold stpC; simp [h0]⟩
        have b2 : (e' == 0) = false := by simpa [← hee] using h0
        have b3 : (e' != 0) = true := by simpa [← hee] using h0
        have HA : Hk ((if e = 0 ∧ (0 : Int) = 0 then at_ + K.toNat else at_) = at') := ⟨by simpa [h0] using hat⟩
        have HE : Hk ((if e = 0 then (0 : Int) else e) = e') := ⟨by simpa [h0] using hee⟩
        clear hat hee hr h0
        go_enter Try.func111, Try.ntmps111
        go_wp2_with (go_at_call 132; (with_reducible refine (cotake_as K 0 D R a n c xs at_ e at' e' _ HR.out hK hKn HA HE).mono ?_); rintro o w1 ⟨rfl, hr1, hf1, hz1⟩; have d2 := hr1.c2; have HR1 := Hk.mk hr1; have HF1 := Hk.mk hf1; have HZ1 := Hk.mk hz1; clear hr1 hf1 hz1)
        go_ret
        exact ⟨0, at', e', rfl, RR.out, HR1.out, HF1.out, HZ1.out⟩
  · obtain ⟨at', hat⟩ : ∃ at', (if e = 0 ∧ E = 0 then at_ + K.toNat else at_) = at' := ⟨_, rfl⟩
    obtain ⟨e', hee⟩ : ∃ e', (if e = 0 then E else e) = e' := ⟨_, rfl⟩
    have RR : Hk (stpC N K E lo hi at_ e = (0, at', e')) := ⟨by rw [← hat, ← hee]; unfold stpC; by_cases h0 : e = 0 <;> simp [h0, hE]⟩
    have hne : ¬ e' = 0 := by rw [← hee]; split <;> omega
    have b0 : (E == 0) = false := by simpa using hE
    have b2 : (e' == 0) = false := by simpa using hne
    have b3 : (e' != 0) = true := by simpa using hne
    have HA := Hk.mk hat
    have HE := Hk.mk hee
    clear hat hee hne hE
    go_enter Try.func111, Try.ntmps111
    go_wp2_with (go_at_call 132; (with_reducible refine (cotake_as K E D R a n c xs at_ e at' e' _ HR.out hK hKn HA HE).mono ?_); rintro o w1 ⟨rfl, hr1, hf1, hz1⟩; have d2 := hr1.c2; have HR1 := Hk.mk hr1; have HF1 := Hk.mk hf1; have HZ1 := Hk.mk hz1; clear hr1 hf1 hz1)
    go_ret
    exact ⟨0, at', e', rfl, RR.out, HR1.out, HF1.out, HZ1.out⟩
theorem By.cutR {w : World} {B n c k b off : Nat} {xs : List Int} (h : By w B (some ⟨b, off, none⟩) n xs) (hk : k ≤ n) (hc : n ≤ c) : By w B (if c = k then some ⟨b, off, none⟩ else some ⟨b, off + k, none⟩) (n - k) (xs.drop k) := by
  by_cases h1 : c = k
  · have hl := h.len
    rw [List.drop_of_length_le (by omega), show n - k = 0 by omega]; exact By.nil _ _ _
  · rw [if_neg h1]; exact h.tail hk
/-- What is left of the bytes. -/
def RestR (D : Nat) (n c : Nat) (xs : List Int) (at_ : Nat) (w : World) (o : Ending) (w' : World) : Prop := ∃ a' m, o = .returned (.slice a' (n - at_) (c - at_)) ∧ w' = w.drewN m ∧ By w' D a' (n - at_) (xs.drop at_)
theorem corest_any (D R : Nat) (a : Option Addr) (n c : Nat) (xs : List Int) (at_ : Nat) (e : Int) (w : World) (H : RdB w D R a n c xs at_ e) :
    Calls Try.prog 110 #[.pointer (some ⟨R, 0, none⟩)] w (RestR D n c xs at_ w) := by
  obtain ⟨c0, c1, c2, f1, f2, hby, hdr, hnc, hcm, hnm, han, hle⟩ := H
  have HB := Hk.mk hby
  have HAN := Hk.mk han
  clear hby han c2 f1 f2
  have j0 : (0 : Int) ≤ (at_ : Int) := by omega
  have j1 : (at_ : Int) ≤ (n : Int) := by omega
  have j2 : (at_ : Int) ≤ (c : Int) := by omega
  cases a with
  | none =>
    obtain rfl : c = 0 := HAN.out rfl
    obtain rfl : n = 0 := by omega
    obtain rfl : at_ = 0 := by omega
    go_enter Try.func110, Try.ntmps110
    go_wp2
    go_quiet (fail)
    go_wp2
    go_ret
    exact ⟨none, _, rfl, rfl, by simpa using HB.out.drewN _⟩
  | some ad =>
    obtain ⟨b, off, spot⟩ := ad
    by_cases h0 : n = 0
    · subst h0
      obtain rfl : at_ = 0 := by omega
      go_enter Try.func110, Try.ntmps110
      go_wp2
      go_quiet (fail)
      go_wp2
      go_ret
      exact ⟨some ⟨b, off, spot⟩, _, rfl, rfl, by simpa using HB.out.drewN _⟩
    · obtain rfl : spot = none := by
        obtain ⟨b', off', e1, -⟩ := HB.out.rd (by omega)
        injection e1 with e1
        injection e1
      by_cases hca : c = at_
      · obtain rfl : n = at_ := by omega
        subst hca
        have hl := HB.out.len
        go_enter Try.func110, Try.ntmps110
        go_wp2
        go_quiet (fail)
        go_wp2
        go_ret
        exact ⟨some ⟨b, off, none⟩, _, by simp, rfl, by rw [List.drop_of_length_le (by omega), Nat.sub_self]; exact By.nil _ _ _⟩
      · have HC := Hk.mk (HB.out.tail hle)
        go_enter Try.func110, Try.ntmps110
        go_wp2
        go_quiet (fail)
        go_wp2
        go_ret
        exact ⟨_, _, rfl, rfl, HC.out.drewN _⟩
/-- What Num and Int leave. -/
theorem getS_k {xs : List Int} (hx : ∀ b ∈ xs, Fn.Byt b) : 0 ≤ (Wr.getS xs).2.1 ∧ (Wr.getS xs).2.1.toNat ≤ xs.length := by
  obtain ⟨h1, h2, h3, h4, _⟩ := Wr.getS_bd hx
  exact ⟨h3, by omega⟩
theorem cornum_any (lo hi : Int) (D R : Nat) (a : Option Addr) (n c : Nat) (xs : List Int) (at_ : Nat) (e : Int) (w : World) (H : RdB w D R a n c xs at_ e) :
    Calls Try.prog 75 #[.pointer (some ⟨R, 0, none⟩), .int .i64 lo, .int .i64 hi] w (NumR (rdV false xs lo hi at_ e) D R a n c xs w) := by
  have HR := Hk.mk H
  have hl := H.by_.len
  have hle := H.le
  have hlt := Nat.le_trans H.dr (Nat.le_of_lt H.lt)
  have hnm : n - at_ ≤ 1099511627776 := by have := H.nm; omega
  have hk := getS_k (xs := xs.drop at_) (fun b hb => H.by_.byt b (List.mem_of_mem_drop hb))
  obtain ⟨G, hG⟩ : ∃ G, Wr.getS (xs.drop at_) = G := ⟨_, rfl⟩
  obtain ⟨N, K, E⟩ := G
  rw [hG] at hk
  simp at hk
  have hK : 0 ≤ K := hk.1
  have hKn : at_ + K.toNat ≤ n := by omega
  have RR : Hk (rdV false xs lo hi at_ e = stpC N K E lo hi at_ e) := ⟨by unfold rdV; rw [hG]; rfl⟩
  have HG := Hk.mk hG
  clear H hG hk hl
  go_enter Try.func75, Try.ntmps75
  go_wp2_with (first | (go_at_call 110; (with_reducible refine (corest_any D R a n c xs at_ e _ HR.out).mono ?_); rintro o w1 ⟨a', m, rfl, rfl, hb1⟩; have HB1 := Hk.mk (hb1.mono (show D ≤ (w.drewN m).heap.size from hlt)); clear hb1) | (go_at_call 109; (with_reducible refine (getnum_any a' (n - at_) (c - at_) (xs.drop at_) _ HB1.out hnm).mono ?_); rintro o w' ⟨rfl, rfl⟩; rw [HG.out]; dsimp only) | (go_at_call 111; (with_reducible refine (conumber_any N K E lo hi D R a n c xs at_ e _ (HR.out.drewN m) hK hKn).mono ?_); rintro o w1 ⟨z, at', e', rfl, hr, hrb, hfr, hsz⟩; have HX := Hk.mk hr; have HRB := Hk.mk hrb; have HFR := Hk.mk hfr; have HSZ := Hk.mk hsz; clear hr hrb hfr hsz))
  go_ret
  exact ⟨z, at', e', rfl, by rw [RR.out]; exact HX.out, HRB.out, ((Fr.refl _ _).drewN m).trans HFR.out, HSZ.out⟩
theorem corint_any (lo hi : Int) (D R : Nat) (a : Option Addr) (n c : Nat) (xs : List Int) (at_ : Nat) (e : Int) (w : World) (H : RdB w D R a n c xs at_ e) :
    Calls Try.prog 112 #[.pointer (some ⟨R, 0, none⟩), .int .i64 lo, .int .i64 hi] w (NumR (rdV true xs lo hi at_ e) D R a n c xs w) := by
  have HR := Hk.mk H
  have hl := H.by_.len
  have hle := H.le
  have hlt := Nat.le_trans H.dr (Nat.le_of_lt H.lt)
  have hnm : n - at_ ≤ 1099511627776 := by have := H.nm; omega
  have hk := getS_k (xs := xs.drop at_) (fun b hb => H.by_.byt b (List.mem_of_mem_drop hb))
  obtain ⟨G, hG⟩ : ∃ G, Wr.getS (xs.drop at_) = G := ⟨_, rfl⟩
  obtain ⟨N, K, E⟩ := G
  rw [hG] at hk
  simp at hk
  have hK : 0 ≤ K := hk.1
  have hKn : at_ + K.toNat ≤ n := by omega
  have RR : Hk (rdV true xs lo hi at_ e = stpC (Wr.unzig N) K E lo hi at_ e) := ⟨by unfold rdV; rw [hG]; rfl⟩
  have HG := Hk.mk hG
  clear H hG hk hl
  go_enter Try.func112, Try.ntmps112
  go_wp2_with (first | (go_at_call 110; (with_reducible refine (corest_any D R a n c xs at_ e _ HR.out).mono ?_); rintro o w1 ⟨a', m, rfl, rfl, hb1⟩; have HB1 := Hk.mk (hb1.mono (show D ≤ (w.drewN m).heap.size from hlt)); clear hb1) | (go_at_call 133; (with_reducible refine (getint_any a' (n - at_) (c - at_) (xs.drop at_) _ HB1.out hnm).mono ?_); rintro o w' ⟨rfl, rfl⟩; rw [HG.out]; dsimp only) | (go_at_call 111; (with_reducible refine (conumber_any (Wr.unzig N) K E lo hi D R a n c xs at_ e _ (HR.out.drewN m) hK hKn).mono ?_); rintro o w1 ⟨z, at', e', rfl, hr, hrb, hfr, hsz⟩; have HX := Hk.mk hr; have HRB := Hk.mk hrb; have HFR := Hk.mk hfr; have HSZ := Hk.mk hsz; clear hr hrb hfr hsz))
  go_ret
  exact ⟨z, at', e', rfl, by rw [RR.out]; exact HX.out, HRB.out, ((Fr.refl _ _).drewN m).trans HFR.out, HSZ.out⟩
end Go.Proofs.Ytejilcnldllhpaa
/- Package command: a part of a command read. -/
namespace Go.Proofs.Ytejilcnldllhpaa
open Go.RowKit
set_option linter.unusedVariables false
def rdU (xs : List Int) : Nat → Int → Nat → Int → List Int × Nat × Int
  | 0, _, at_, e => ([], at_, e)
  | k + 1, last, at_, e => ((rdV false xs (last + 1) 1099511627776 at_ e).1 :: (rdU xs k (rdV false xs (last + 1) 1099511627776 at_ e).1 (rdV false xs (last + 1) 1099511627776 at_ e).2.1 (rdV false xs (last + 1) 1099511627776 at_ e).2.2).1, (rdU xs k (rdV false xs (last + 1) 1099511627776 at_ e).1 (rdV false xs (last + 1) 1099511627776 at_ e).2.1 (rdV false xs (last + 1) 1099511627776 at_ e).2.2).2)
def rdP (xs : List Int) (q : Int) (f : CF) (at_ : Nat) (e : Int) : CF × Nat × Int :=
  if q = 0 then ({ f with n := (rdV false xs 0 3 at_ e).1 }, (rdV false xs 0 3 at_ e).2)
  else if q = 1 then ({ f with n := (rdV false xs 1 1099511627776 at_ e).1 }, (rdV false xs 1 1099511627776 at_ e).2)
  else if q = 2 then ({ f with u := f.u ++ (rdU xs (rdV false xs 1 64 at_ e).1.toNat 0 (rdV false xs 1 64 at_ e).2.1 (rdV false xs 1 64 at_ e).2.2).1 }, (rdU xs (rdV false xs 1 64 at_ e).1.toNat 0 (rdV false xs 1 64 at_ e).2.1 (rdV false xs 1 64 at_ e).2.2).2)
  else if q = 3 then ({ f with t := (rdV false xs 0 16383 at_ e).1 }, (rdV false xs 0 16383 at_ e).2)
  else if q = 4 then ({ f with w := (rdV false xs 1 4 at_ e).1, h := (rdV false xs 1 4 (rdV false xs 1 4 at_ e).2.1 (rdV false xs 1 4 at_ e).2.2).1 }, (rdV false xs 1 4 (rdV false xs 1 4 at_ e).2.1 (rdV false xs 1 4 at_ e).2.2).2)
  else ({ f with x := (rdV true xs (-1099511627776) 1099511627776 at_ e).1, y := (rdV true xs (-1099511627776) 1099511627776 (rdV true xs (-1099511627776) 1099511627776 at_ e).2.1 (rdV true xs (-1099511627776) 1099511627776 at_ e).2.2).1 }, (rdV true xs (-1099511627776) 1099511627776 (rdV true xs (-1099511627776) 1099511627776 at_ e).2.1 (rdV true xs (-1099511627776) 1099511627776 at_ e).2.2).2)
theorem rdV_bd {sg : Bool} {xs : List Int} {lo hi : Int} {at_ : Nat} {e : Int} {z : Int} {at' : Nat} {e' : Int} (h : rdV sg xs lo hi at_ e = (z, at', e')) : z = 0 ∨ lo ≤ z ∧ z ≤ hi := by
  unfold rdV stpC at h
  (repeat' split at h) <;> (injection h with h1 h2; omega)
theorem CmB.fr {M : Nat → Prop} {w w' : World} {b : Nat} {p s k n : Int} {a : Option Addr} {m c : Nat} {t wd h x y : Int} (H : CmB w b p s k n a m c t wd h x y) (K : Fr M w w') (hM : ¬ M b) : CmB w' b p s k n a m c t wd h x y :=
  have hb : b < w.heap.size := World.block_lt_of_cell? _ _ H.c0
  ⟨(K.cell hb hM).trans H.c0, (K.cell hb hM).trans H.c1, (K.cell hb hM).trans H.c2, (K.cell hb hM).trans H.c3, (K.cell hb hM).trans H.c4, (K.cell hb hM).trans H.c5, (K.cell hb hM).trans H.c6, (K.cell hb hM).trans H.c7, (K.cell hb hM).trans H.c8, (K.cell hb hM).trans H.c9, fun j => (K.frozen hb hM).trans (H.fz j)⟩
/-- What reading a part leaves. -/
def ReadR (r : CF × Nat × Int) (cb : Nat) (p s k : Int) (base D R : Nat) (a0 : Option Addr) (n0 c0 : Nat) (xs : List Int) (w : World) (o : Ending) (w' : World) : Prop :=
  ∃ n' a' m' c' u' t' wd' h' x' y' at' e', o = .returned (.tuple #[]) ∧ r = (⟨n', u', t', wd', h', x', y'⟩, at', e') ∧ CmB w' cb p s k n' a' m' c' t' wd' h' x' y' ∧ OwnI w' base (.slice a' m' c') m' u' ∧ RdB w' D R a0 n0 c0 xs at' e' ∧ Fr (fun j => j = R ∨ j = cb) w w'
set_option maxRecDepth 100000 in
set_option maxHeartbeats 3200000 in
theorem read0 (cb base D R : Nat) (a0 : Option Addr) (n0 c0 : Nat) (xs : List Int) (at_ : Nat) (e : Int) (p s k n : Int) (a : Option Addr) (m c : Nat) (u : List Int) (t wd h x y : Int) (w : World) (hD : D ≤ cb) (hcr : ¬ cb = R) (hcb : cb < base) (hR : R < base) (hbase : base ≤ w.heap.size) (HC : Hk (CmB w cb p s k n a m c t wd h x y)) (HO : Hk (OwnI w base (.slice a m c) m u)) (HR : Hk (RdB w D R a0 n0 c0 xs at_ e)) :
    Calls Try.prog 76 #[.int .i64 0, .pointer (some ⟨R, 0, none⟩), .pointer (some ⟨cb, 0, none⟩)] w (ReadR (rdP xs 0 ⟨n, u, t, wd, h, x, y⟩ at_ e) cb p s k base D R a0 n0 c0 xs w) := by
  go_enter Try.func76, Try.ntmps76
  go_wp2_with (go_at_call 75; (with_reducible refine (cornum_any 0 3 D R a0 n0 c0 xs at_ e _ HR.out).mono ?_); rintro o w1 ⟨z1, at1, e1, rfl, hr, hrb, hfr, hsz⟩; have HX1 := Hk.mk hr; have HRB1 := Hk.mk hrb; have HFR1 := Hk.mk hfr; have HSZ1 := Hk.mk hsz; have HCB1 := Hk.mk (HC.out.fr hfr (show ¬ cb = R from hcr)); obtain ⟨b0, b1, b2, b3, b4, b5, b6, b7, b8, b9, bf⟩ := HCB1.out; have g3 := bf 3; clear bf; clear hr hrb hfr hsz)
  go_end0
  have hF : Fr (fun j => j = R ∨ j = cb) w (w1.setCell ⟨cb, 3, none⟩ (.int .i64 z1)) := (HFR1.out.mono (fun j _ e => .inl e)).setCell (fun _ => .inr rfl) _
  refine ⟨z1, a, m, c, u, t, wd, h, x, y, at1, e1, rfl, by simp [rdP, HX1.out], ⟨by go_simp, by go_simp, by go_simp, by go_simp, by go_simp, by go_simp, by go_simp, by go_simp, by go_simp, by go_simp, fun j => by have := HCB1.out.fz j; go_simp⟩, Fr.owni HO.out hF (fun j hj h => ?_), HRB1.out.fr ((Fr.refl (fun j => j = cb) w1).setCell (p := ⟨cb, 3, none⟩) (fun _ => rfl) _) (fun j hj e => by omega), hF⟩
  have := (HO.out.lt j hj).1
  omega
set_option maxRecDepth 100000 in
set_option maxHeartbeats 3200000 in
theorem read1 (cb base D R : Nat) (a0 : Option Addr) (n0 c0 : Nat) (xs : List Int) (at_ : Nat) (e : Int) (p s k n : Int) (a : Option Addr) (m c : Nat) (u : List Int) (t wd h x y : Int) (w : World) (hD : D ≤ cb) (hcr : ¬ cb = R) (hcb : cb < base) (hR : R < base) (hbase : base ≤ w.heap.size) (HC : Hk (CmB w cb p s k n a m c t wd h x y)) (HO : Hk (OwnI w base (.slice a m c) m u)) (HR : Hk (RdB w D R a0 n0 c0 xs at_ e)) :
    Calls Try.prog 76 #[.int .i64 1, .pointer (some ⟨R, 0, none⟩), .pointer (some ⟨cb, 0, none⟩)] w (ReadR (rdP xs 1 ⟨n, u, t, wd, h, x, y⟩ at_ e) cb p s k base D R a0 n0 c0 xs w) := by
  go_enter Try.func76, Try.ntmps76
  go_wp2_with (go_at_call 75; (with_reducible refine (cornum_any 1 1099511627776 D R a0 n0 c0 xs at_ e _ HR.out).mono ?_); rintro o w1 ⟨z1, at1, e1, rfl, hr, hrb, hfr, hsz⟩; have HX1 := Hk.mk hr; have HRB1 := Hk.mk hrb; have HFR1 := Hk.mk hfr; have HSZ1 := Hk.mk hsz; have HCB1 := Hk.mk (HC.out.fr hfr (show ¬ cb = R from hcr)); obtain ⟨b0, b1, b2, b3, b4, b5, b6, b7, b8, b9, bf⟩ := HCB1.out; have g3 := bf 3; clear bf; clear hr hrb hfr hsz)
  go_end0
  have hF : Fr (fun j => j = R ∨ j = cb) w (w1.setCell ⟨cb, 3, none⟩ (.int .i64 z1)) := (HFR1.out.mono (fun j _ e => .inl e)).setCell (fun _ => .inr rfl) _
  refine ⟨z1, a, m, c, u, t, wd, h, x, y, at1, e1, rfl, by simp [rdP, HX1.out], ⟨by go_simp, by go_simp, by go_simp, by go_simp, by go_simp, by go_simp, by go_simp, by go_simp, by go_simp, by go_simp, fun j => by have := HCB1.out.fz j; go_simp⟩, Fr.owni HO.out hF (fun j hj h => ?_), HRB1.out.fr ((Fr.refl (fun j => j = cb) w1).setCell (p := ⟨cb, 3, none⟩) (fun _ => rfl) _) (fun j hj e => by omega), hF⟩
  have := (HO.out.lt j hj).1
  omega
set_option maxRecDepth 100000 in
set_option maxHeartbeats 3200000 in
theorem read3 (cb base D R : Nat) (a0 : Option Addr) (n0 c0 : Nat) (xs : List Int) (at_ : Nat) (e : Int) (p s k n : Int) (a : Option Addr) (m c : Nat) (u : List Int) (t wd h x y : Int) (w : World) (hD : D ≤ cb) (hcr : ¬ cb = R) (hcb : cb < base) (hR : R < base) (hbase : base ≤ w.heap.size) (HC : Hk (CmB w cb p s k n a m c t wd h x y)) (HO : Hk (OwnI w base (.slice a m c) m u)) (HR : Hk (RdB w D R a0 n0 c0 xs at_ e)) :
    Calls Try.prog 76 #[.int .i64 3, .pointer (some ⟨R, 0, none⟩), .pointer (some ⟨cb, 0, none⟩)] w (ReadR (rdP xs 3 ⟨n, u, t, wd, h, x, y⟩ at_ e) cb p s k base D R a0 n0 c0 xs w) := by
  go_enter Try.func76, Try.ntmps76
  go_wp2_with (go_at_call 75; (with_reducible refine (cornum_any 0 16383 D R a0 n0 c0 xs at_ e _ HR.out).mono ?_); rintro o w1 ⟨z1, at1, e1, rfl, hr, hrb, hfr, hsz⟩; have HX1 := Hk.mk hr; have HRB1 := Hk.mk hrb; have HFR1 := Hk.mk hfr; have HSZ1 := Hk.mk hsz; have HCB1 := Hk.mk (HC.out.fr hfr (show ¬ cb = R from hcr)); obtain ⟨b0, b1, b2, b3, b4, b5, b6, b7, b8, b9, bf⟩ := HCB1.out; have g5 := bf 5; clear bf; clear hr hrb hfr hsz)
  go_end0
  have hF : Fr (fun j => j = R ∨ j = cb) w (w1.setCell ⟨cb, 5, none⟩ (.int .i64 z1)) := (HFR1.out.mono (fun j _ e => .inl e)).setCell (fun _ => .inr rfl) _
  refine ⟨n, a, m, c, u, z1, wd, h, x, y, at1, e1, rfl, by simp [rdP, HX1.out], ⟨by go_simp, by go_simp, by go_simp, by go_simp, by go_simp, by go_simp, by go_simp, by go_simp, by go_simp, by go_simp, fun j => by have := HCB1.out.fz j; go_simp⟩, Fr.owni HO.out hF (fun j hj h => ?_), HRB1.out.fr ((Fr.refl (fun j => j = cb) w1).setCell (p := ⟨cb, 5, none⟩) (fun _ => rfl) _) (fun j hj e => by omega), hF⟩
  have := (HO.out.lt j hj).1
  omega
set_option maxRecDepth 100000 in
set_option maxHeartbeats 3200000 in
theorem read4 (cb base D R : Nat) (a0 : Option Addr) (n0 c0 : Nat) (xs : List Int) (at_ : Nat) (e : Int) (p s k n : Int) (a : Option Addr) (m c : Nat) (u : List Int) (t wd h x y : Int) (w : World) (hD : D ≤ cb) (hcr : ¬ cb = R) (hcb : cb < base) (hR : R < base) (hbase : base ≤ w.heap.size) (HC : Hk (CmB w cb p s k n a m c t wd h x y)) (HO : Hk (OwnI w base (.slice a m c) m u)) (HR : Hk (RdB w D R a0 n0 c0 xs at_ e)) :
    Calls Try.prog 76 #[.int .i64 4, .pointer (some ⟨R, 0, none⟩), .pointer (some ⟨cb, 0, none⟩)] w (ReadR (rdP xs 4 ⟨n, u, t, wd, h, x, y⟩ at_ e) cb p s k base D R a0 n0 c0 xs w) := by
  go_enter Try.func76, Try.ntmps76
  go_wp2_with (first | (go_at_call 75; (with_reducible refine (cornum_any 1 4 D R a0 n0 c0 xs at1 e1 _ HRS.out).mono ?_); rintro o w2 ⟨z2, at2, e2, rfl, hr, hrb, hfr, hsz⟩; clear b0 b1 b2 b3 b4 b5 b6 b7 b8 b9 g6; have HX2 := Hk.mk hr; have HRB2 := Hk.mk hrb; have HFR2 := Hk.mk hfr; have HSZ2 := Hk.mk hsz; have HCB2 := Hk.mk (HCS.out.fr hfr (show ¬ cb = R from hcr)); obtain ⟨b0, b1, b2, b3, b4, b5, b6, b7, b8, b9, bf⟩ := HCB2.out; have g7 := bf 7; clear bf; clear hr hrb hfr hsz) | (go_at_call 75; (with_reducible refine (cornum_any 1 4 D R a0 n0 c0 xs at_ e _ HR.out).mono ?_); rintro o w1 ⟨z1, at1, e1, rfl, hr, hrb, hfr, hsz⟩; have HX1 := Hk.mk hr; have HRB1 := Hk.mk hrb; have HFR1 := Hk.mk hfr; have HSZ1 := Hk.mk hsz; have HCB1 := Hk.mk (HC.out.fr hfr (show ¬ cb = R from hcr)); obtain ⟨b0, b1, b2, b3, b4, b5, b6, b7, b8, b9, bf⟩ := HCB1.out; have g6 := bf 6; clear bf; clear hr hrb hfr hsz; have HRS : Hk (RdB (w1.setCell ⟨cb, 6, none⟩ (.int .i64 z1)) D R a0 n0 c0 xs at1 e1) := ⟨HRB1.out.fr ((Fr.refl (fun j => j = cb) w1).setCell (p := ⟨cb, 6, none⟩) (fun _ => rfl) _) (fun j hj e => by omega)⟩; have HCS : Hk (CmB (w1.setCell ⟨cb, 6, none⟩ (.int .i64 z1)) cb p s k n a m c t z1 h x y) := ⟨⟨by go_simp, by go_simp, by go_simp, by go_simp, by go_simp, by go_simp, by go_simp, by go_simp, by go_simp, by go_simp, fun j => by have := HCB1.out.fz j; go_simp⟩⟩))
  go_end0
  have hF : Fr (fun j => j = R ∨ j = cb) w (w2.setCell ⟨cb, 7, none⟩ (.int .i64 z2)) := ((((HFR1.out.mono (fun j _ e => .inl e)).setCell (p := ⟨cb, 6, none⟩) (fun _ => .inr rfl) (.int .i64 z1)).andThen HFR2.out (fun j _ e => .inl e)).setCell (p := ⟨cb, 7, none⟩) (fun _ => .inr rfl) _)
  refine ⟨n, a, m, c, u, t, z1, z2, x, y, at2, e2, rfl, by simp [rdP, HX1.out, HX2.out], ⟨by go_simp, by go_simp, by go_simp, by go_simp, by go_simp, by go_simp, by go_simp, by go_simp, by go_simp, by go_simp, fun j => by have := HCB2.out.fz j; go_simp⟩, Fr.owni HO.out hF (fun j hj h => ?_), HRB2.out.fr ((Fr.refl (fun j => j = cb) w2).setCell (p := ⟨cb, 7, none⟩) (fun _ => rfl) _) (fun j hj e => by omega), hF⟩
  have := (HO.out.lt j hj).1
  omega
set_option maxRecDepth 100000 in
set_option maxHeartbeats 3200000 in
theorem read5 (cb base D R : Nat) (a0 : Option Addr) (n0 c0 : Nat) (xs : List Int) (at_ : Nat) (e : Int) (p s k n : Int) (a : Option Addr) (m c : Nat) (u : List Int) (t wd h x y : Int) (w : World) (hD : D ≤ cb) (hcr : ¬ cb = R) (hcb : cb < base) (hR : R < base) (hbase : base ≤ w.heap.size) (HC : Hk (CmB w cb p s k n a m c t wd h x y)) (HO : Hk (OwnI w base (.slice a m c) m u)) (HR : Hk (RdB w D R a0 n0 c0 xs at_ e)) :
    Calls Try.prog 76 #[.int .i64 5, .pointer (some ⟨R, 0, none⟩), .pointer (some ⟨cb, 0, none⟩)] w (ReadR (rdP xs 5 ⟨n, u, t, wd, h, x, y⟩ at_ e) cb p s k base D R a0 n0 c0 xs w) := by
  go_enter Try.func76, Try.ntmps76
  go_wp2_with (first | (go_at_call 112; (with_reducible refine (corint_any (-1099511627776) 1099511627776 D R a0 n0 c0 xs at1 e1 _ HRS.out).mono ?_); rintro o w2 ⟨z2, at2, e2, rfl, hr, hrb, hfr, hsz⟩; clear b0 b1 b2 b3 b4 b5 b6 b7 b8 b9 g8; have HX2 := Hk.mk hr; have HRB2 := Hk.mk hrb; have HFR2 := Hk.mk hfr; have HSZ2 := Hk.mk hsz; have HCB2 := Hk.mk (HCS.out.fr hfr (show ¬ cb = R from hcr)); obtain ⟨b0, b1, b2, b3, b4, b5, b6, b7, b8, b9, bf⟩ := HCB2.out; have g9 := bf 9; clear bf; clear hr hrb hfr hsz) | (go_at_call 112; (with_reducible refine (corint_any (-1099511627776) 1099511627776 D R a0 n0 c0 xs at_ e _ HR.out).mono ?_); rintro o w1 ⟨z1, at1, e1, rfl, hr, hrb, hfr, hsz⟩; have HX1 := Hk.mk hr; have HRB1 := Hk.mk hrb; have HFR1 := Hk.mk hfr; have HSZ1 := Hk.mk hsz; have HCB1 := Hk.mk (HC.out.fr hfr (show ¬ cb = R from hcr)); obtain ⟨b0, b1, b2, b3, b4, b5, b6, b7, b8, b9, bf⟩ := HCB1.out; have g8 := bf 8; clear bf; clear hr hrb hfr hsz; have HRS : Hk (RdB (w1.setCell ⟨cb, 8, none⟩ (.int .i64 z1)) D R a0 n0 c0 xs at1 e1) := ⟨HRB1.out.fr ((Fr.refl (fun j => j = cb) w1).setCell (p := ⟨cb, 8, none⟩) (fun _ => rfl) _) (fun j hj e => by omega)⟩; have HCS : Hk (CmB (w1.setCell ⟨cb, 8, none⟩ (.int .i64 z1)) cb p s k n a m c t wd h z1 y) := ⟨⟨by go_simp, by go_simp, by go_simp, by go_simp, by go_simp, by go_simp, by go_simp, by go_simp, by go_simp, by go_simp, fun j => by have := HCB1.out.fz j; go_simp⟩⟩))
  go_end0
  have hF : Fr (fun j => j = R ∨ j = cb) w (w2.setCell ⟨cb, 9, none⟩ (.int .i64 z2)) := ((((HFR1.out.mono (fun j _ e => .inl e)).setCell (p := ⟨cb, 8, none⟩) (fun _ => .inr rfl) (.int .i64 z1)).andThen HFR2.out (fun j _ e => .inl e)).setCell (p := ⟨cb, 9, none⟩) (fun _ => .inr rfl) _)
  refine ⟨n, a, m, c, u, t, wd, h, z1, z2, at2, e2, rfl, by simp [rdP, HX1.out, HX2.out], ⟨by go_simp, by go_simp, by go_simp, by go_simp, by go_simp, by go_simp, by go_simp, by go_simp, by go_simp, by go_simp, fun j => by have := HCB2.out.fz j; go_simp⟩, Fr.owni HO.out hF (fun j hj h => ?_), HRB2.out.fr ((Fr.refl (fun j => j = cb) w2).setCell (p := ⟨cb, 9, none⟩) (fun _ => rfl) _) (fun j hj e => by omega), hF⟩
  have := (HO.out.lt j hj).1
  omega
set_option maxRecDepth 100000 in
set_option maxHeartbeats 3200000 in
theorem read2 (cb base D R : Nat) (a0 : Option Addr) (n0 c0 : Nat) (xs : List Int) (at_ : Nat) (e : Int) (p s k n : Int) (t wd h x y : Int) (w : World) (hD : D ≤ cb) (hcr : ¬ cb = R) (hcb : cb < base) (hR : R < base) (hbase : base ≤ w.heap.size) (HC : Hk (CmB w cb p s k n none 0 0 t wd h x y)) (HO : Hk (OwnI w base (.slice none 0 0) 0 [])) (HR : Hk (RdB w D R a0 n0 c0 xs at_ e)) :
    Calls Try.prog 76 #[.int .i64 2, .pointer (some ⟨R, 0, none⟩), .pointer (some ⟨cb, 0, none⟩)] w (ReadR (rdP xs 2 ⟨n, [], t, wd, h, x, y⟩ at_ e) cb p s k base D R a0 n0 c0 xs w) := by
  obtain ⟨i0, hi, hz0, hz1, hz2⟩ := info_parts info_i
  go_enter Try.func76, Try.ntmps76
  go_wp2_with (go_at_call 75; (with_reducible refine (cornum_any 1 64 D R a0 n0 c0 xs at_ e _ HR.out).mono ?_); rintro o w1 ⟨z1, at1, e1, rfl, hr, hrb, hfr, hsz⟩; have HX1 := Hk.mk hr; have HRB1 := Hk.mk hrb; have HFR1 := Hk.mk hfr; have HSZ1 := Hk.mk hsz; have HCB1 := Hk.mk (HC.out.fr hfr (show ¬ cb = R from hcr)); obtain ⟨b0, b1, b2, b3, b4, b5, b6, b7, b8, b9, bf⟩ := HCB1.out; clear bf; clear hr hrb hfr hsz; clear b0 b1 b2 b3 b4 b5 b6 b7 b8 b9; have hzb : 0 ≤ z1 ∧ z1 ≤ 64 := (by have := rdV_bd HX1.out; omega); obtain ⟨cnt, rfl⟩ : ∃ cnt : Nat, z1 = cnt := ⟨z1.toNat, by omega⟩)
  obtain ⟨hzb0, hzb1⟩ := hzb
  obtain ⟨lF, hlF⟩ : ∃ lF, rdU xs cnt 0 at1 e1 = lF := ⟨_, rfl⟩
  have HLF := Hk.mk hlF
  have HLFO := Hk.mk hlF
  clear hlF
  go_loopw [6, 26] (fun zs is wr => ∃ (j : Nat) (z : Int) (l : List Int) (at2 : Nat) (e2 : Int) (a' : Option Addr) (c' : Nat), zs = .int .i64 z ∧ is = .int .i64 j ∧ j ≤ cnt ∧ 0 ≤ z ∧ z ≤ 1099511627776 ∧ Hk ((l ++ (rdU xs (cnt - j) z at2 e2).1, (rdU xs (cnt - j) z at2 e2).2) = lF) ∧ Hk (OwnI wr w.heap.size (.slice a' j c') j l) ∧ Hk (CmB wr cb p s k n a' j c' t wd h x y) ∧ Hk (RdB wr D R a0 n0 c0 xs at2 e2) ∧ Hk (Fr (fun j => j = R ∨ j = cb) w wr)) (fun _ i _ => cnt - (intOf i).toNat)
  case atStart => exact ⟨0, 0, [], at1, e1, none, 0, rfl, rfl, by omega, by omega, by omega, ⟨by simpa using HLF.out⟩, ⟨OwnI.nil _ _⟩, HCB1, HRB1, ⟨HFR1.out.mono (fun j _ e => .inl e)⟩⟩
  case round =>
    clear HCB1 HRB1 HFR1 HSZ1 HLF
    obtain ⟨j, z, l, at2, e2, a', c', rfl, rfl, hj, hz, hzt, HL, HO2, HC2, HR2, HF2⟩ := hrel
    have c4 := HC2.out.c4
    by_cases hlt : j < cnt
    · have hsn : rdU xs (cnt - j) z at2 e2 = rdU xs ((cnt - (j + 1)) + 1) z at2 e2 := by rw [show cnt - j = cnt - (j + 1) + 1 by omega]
      have HSN := Hk.mk hsn
      have hws := HF2.out.size
      have i1 : (0 : Int) ≤ (j : Int) := by omega
      have i2 : (j : Int) < (cnt : Int) := by omega
      clear hsn c4
      go_wp2_with (first | (go_at_call 75; (with_reducible refine (cornum_any (z + 1) 1099511627776 D R a0 n0 c0 xs at2 e2 _ HR2.out).mono ?_); rintro o w3 ⟨z3, at3, e3, rfl, hr, hrb, hfr, hsz⟩; have HX3 := Hk.mk hr; have HRB3 := Hk.mk hrb; have HFR3 := Hk.mk hfr; have HSZ3 := Hk.mk hsz; have HCB3 := Hk.mk (HC2.out.fr hfr (show ¬ cb = R from hcr)); obtain ⟨b0, b1, b2, b3, b4, b5, b6, b7, b8, b9, bf⟩ := HCB3.out; have g4 := bf 4; clear bf; clear hr hrb hfr hsz; have hzb : 0 ≤ z3 ∧ z3 ≤ 1099511627776 := (by have := rdV_bd HX3.out; omega); have hown := (Fr.owni (M := fun j => j = R) HO2.out HFR3.out (fun q hq h => by have := (HO2.out.lt q hq).1; omega)).2; have hz3 := HSZ3.out; have HOW := Hk.mk hown) | (at_builtin; refine wpList_append_own _ rfl _ _ 24 rfl w.heap.size 3 i0 (.int .i64 0) 1 8 Try.underlying24 hi hz0 hz1 hz2 rfl (by decide) _ _ _ rfl (hown.alloc _) ⟨w3.heap.size, 0, none⟩ 1 1 [.int .i64 z3] rfl rfl ?_ ?_ ?_ ?_ ?_ ?_; (exact one_new _ _ _); (intro u hu; simp at hu; subst hu; rfl); (unfold maxLen; omega); (omega); (simp; omega); intro v' w4 hown' hgrow _; have ho4 : OwnI w4 w.heap.size v' (j + 1) (l ++ [z3]) := ⟨by simp [HO2.out.1], by simpa using hown'⟩; obtain ⟨a4, c4', rfl, hc4, -⟩ := ho4.nq; have HO4 := Hk.mk ho4; have hf4 : Fr (fun j => w.heap.size ≤ j) w3 w4 := (((Fr.refl _ w3).alloc _).grown hgrow (fun q _ hq => (HOW.out.lt q hq).1)); have HF4 := Hk.mk hf4; have hcw : cb < w.heap.size := (by omega); have HCB4 := Hk.mk (HCB3.out.fr hf4 (show ¬ w.heap.size ≤ cb by omega)); have HRB4 := Hk.mk (HRB3.out.fr hf4 (fun q hq h => by have : D ≤ cb := hD; omega)); clear b0 b1 b2 b3 b4 b5 b6 b7 b8 b9 g4 hown' hgrow ho4 hf4 hown; obtain ⟨b0, b1, b2, b3, b4, b5, b6, b7, b8, b9, bf⟩ := HCB4.out; have g4 := bf 4; clear bf))
      obtain ⟨hzb0', hzb1'⟩ := hzb
      go_roundw
      case rel =>
        refine ⟨j + 1, z3, l ++ [z3], at3, e3, a4, c4', by go_num, by go_num, by omega, by omega, by omega, ⟨?_⟩, ⟨?_⟩, ⟨⟨by go_simp, by go_simp, by go_simp, by go_simp, by go_simp, by go_simp, by go_simp, by go_simp, by go_simp, by go_simp, fun j => by have := HCB4.out.fz j; go_simp⟩⟩, ⟨?_⟩, ⟨?_⟩⟩
        · have h1 := HL.out
          rw [HSN.out, rdU, HX3.out] at h1
          simpa using h1
        · exact Fr.owni (M := fun j => j = cb) HO4.out ((Fr.refl (fun j => j = cb) w4).setCell (p := ⟨cb, 4, none⟩) (fun _ => rfl) _) (fun q hq h => by have := (HO4.out.lt q hq).1; omega)
        · exact HRB4.out.fr ((Fr.refl (fun j => j = cb) w4).setCell (p := ⟨cb, 4, none⟩) (fun _ => rfl) _) (fun q hq e => by omega)
        · exact ((HF2.out.andThen HFR3.out (fun q _ e => .inl e)).andThen HF4.out (fun q hq e => by omega)).setCell (p := ⟨cb, 4, none⟩) (fun _ => .inr rfl) _
      case measure => simp [intOf]; omega
    · have hjc : j = cnt := by omega
      subst hjc
      go_wp2
      go_end0
      refine ⟨n, a', j, c', l, t, wd, h, x, y, at2, e2, rfl, ?_, HC2.out, HO2.out.weak hbase, HR2.out, HF2.out⟩
      have h1 := HL.out
      simp [rdU] at h1
      simp [rdP, HX1.out, HLFO.out, ← h1]
end Go.Proofs.Ytejilcnldllhpaa
