/- Package command: the bytes of a command. -/
import Derived.Test.YtkffleclofkjmaaCmh
import Derived.Test.YtkffleclofkjmaaCoa
namespace Go.Proofs.Ytkffleclofkjmaa
open Go.RowKit
set_option linter.unusedVariables false
def uL (u : List Int) : List Int := u.flatMap fun a => Wr.numL a.toNat
def wrB (q : Int) (f : CF) : List Int :=
  if q = 0 then Wr.numL f.n.toNat else if q = 1 then Wr.numL f.n.toNat else if q = 2 then Wr.numL f.u.length ++ uL f.u else if q = 3 then Wr.numL f.t.toNat else
  if q = 4 then Wr.numL f.w.toNat ++ Wr.numL f.h.toNat else Wr.numL (Wr.zig f.x) ++ Wr.numL (Wr.zig f.y)
def bytesC (p s k : Int) (f : CF) : List Int := Wr.numL k.toNat ++ Wr.numL p.toNat ++ Wr.numL s.toNat ++ (partsL k).flatMap fun q => wrB q f
theorem numL_nine' {z : Int} (h : z ≤ 1099511627776) : (Wr.numL z.toNat).length ≤ 9 := Wr.numL_nine (by omega)
theorem uL_len (u : List Int) (h : ∀ a ∈ u, a ≤ 1099511627776) : (uL u).length ≤ 9 * u.length := by
  induction u with
  | nil => simp [uL]
  | cons a u ih =>
    have h1 := numL_nine' (h a (by simp))
    have h2 := ih fun b hb => h b (by simp [hb])
    unfold uL at *
    simp at *
    omega
theorem uL_snoc {u : List Int} {j : Nat} (h : j < u.length) : uL (u.take (j + 1)) = uL (u.take j) ++ Wr.numL (u.getD j 0).toNat := by
  unfold uL
  rw [List.take_succ_eq_append_getElem h, List.flatMap_append]
  simp [List.getD, List.getElem?_eq_getElem h]
theorem wrB_len {q : Int} {f : CF} (h : vB q f = true) : (wrB q f).length ≤ 600 := by
  unfold vB at h
  unfold wrB
  (repeat' split) <;> simp_all
  · have := numL_nine' (z := f.n) (by omega); omega
  · have := numL_nine' (z := f.n) (by omega); omega
  · unfold idsB at h
    simp at h
    have h1 := uL_len f.u fun a ha => (asc_ge h.2 a ha).2
    have h2 := Wr.numL_nine (n := f.u.length) (by omega)
    omega
  · have := numL_nine' (z := f.t) (by omega); omega
  · have := numL_nine' (z := f.w) (by omega); have := numL_nine' (z := f.h) (by omega); omega
  · have := Wr.numL_nine (n := Wr.zig f.x) (by unfold Wr.zig; split <;> omega)
    have := Wr.numL_nine (n := Wr.zig f.y) (by unfold Wr.zig; split <;> omega)
    omega
set_option maxRecDepth 100000 in
set_option maxHeartbeats 3200000 in
theorem write_any (q : Int) (W base N : Nat) (v : Value) (xs : List Int) (p s k n : Int) (a : Option Addr) (m c : Nat) (u : List Int) (t wd h x y : Int) (w : World) (hq0 : 0 ≤ q) (hq5 : q ≤ 5) (H : WrB w W base v N xs) (hbase : base ≤ w.heap.size) (hN : N ≤ 1099500000000) (hNq : Nq w W a m u) (hm : m ≤ 1099511627776) (E : Hk (vB q ⟨n, u, t, wd, h, x, y⟩ = true)) :
    Calls Try.prog 31 #[.int .i64 q, .pointer (some ⟨W, 0, none⟩), .agg #[.int .i64 p, .int .i64 s, .int .i64 k, .int .i64 n, .slice a m c, .int .i64 t, .int .i64 wd, .int .i64 h, .int .i64 x, .int .i64 y]] w (WPost W base (N + (wrB q ⟨n, u, t, wd, h, x, y⟩).length) (xs ++ wrB q ⟨n, u, t, wd, h, x, y⟩) w) := by
  have hc : q = 0 ∨ q = 1 ∨ q = 2 ∨ q = 3 ∨ q = 4 ∨ q = 5 := by omega
  clear hq0 hq5
  have hWs := H.wlt
  have HW := Hk.mk (H.all ((Below.refl _ _).alloc (Nat.le_refl _) (.cells #[.int .i64 p, .int .i64 s, .int .i64 k, .int .i64 n, .slice a m c, .int .i64 t, .int .i64 wd, .int .i64 h, .int .i64 x, .int .i64 y] 28)))
  have HS := Hk.mk (WS.of_all ((Below.refl _ _).alloc (Nat.le_refl _) (.cells #[.int .i64 p, .int .i64 s, .int .i64 k, .int .i64 n, .slice a m c, .int .i64 t, .int .i64 wd, .int .i64 h, .int .i64 x, .int .i64 y] 28)) hWs)
  have HSZ : Hk (base ≤ (w.alloc (.cells #[.int .i64 p, .int .i64 s, .int .i64 k, .int .i64 n, .slice a m c, .int .i64 t, .int .i64 wd, .int .i64 h, .int .i64 x, .int .i64 y] 28)).heap.size) := ⟨by simp; omega⟩
  have HQ := Hk.mk hNq
  have hl := hNq.len
  clear H hNq
  rcases hc with rfl | rfl | rfl | rfl | rfl | rfl
  · obtain ⟨hx0, hx1⟩ : 0 ≤ n ∧ n ≤ 1099511627776 := by have := E.out; unfold vB at this; simp at this; omega
    clear E hl
    go_enter Try.func31, Try.ntmps31
    go_wp2_with (go_at_call 29; (with_reducible refine (conum_any n n.toNat W base N v xs _ ?_ ?_ HW.out ?_ ?_).mono ?_); (exact ⟨by omega⟩); (exact ⟨by omega⟩); (exact HSZ.out); (omega); rintro e w2 ⟨v2, rfl, hw2, hs2⟩; have HW2 := Hk.mk hw2; have HSZ2 := Hk.mk (Nat.le_trans HSZ.out hs2.size); have HS2 := Hk.mk (HS.out.trans hs2); clear hw2 hs2)
    go_end0
    exact ⟨v2, rfl, HW2.out, HS2.out⟩
  · obtain ⟨hx0, hx1⟩ : 0 ≤ n ∧ n ≤ 1099511627776 := by have := E.out; unfold vB at this; simp at this; omega
    clear E hl
    go_enter Try.func31, Try.ntmps31
    go_wp2_with (go_at_call 29; (with_reducible refine (conum_any n n.toNat W base N v xs _ ?_ ?_ HW.out ?_ ?_).mono ?_); (exact ⟨by omega⟩); (exact ⟨by omega⟩); (exact HSZ.out); (omega); rintro e w2 ⟨v2, rfl, hw2, hs2⟩; have HW2 := Hk.mk hw2; have HSZ2 := Hk.mk (Nat.le_trans HSZ.out hs2.size); have HS2 := Hk.mk (HS.out.trans hs2); clear hw2 hs2)
    go_end0
    exact ⟨v2, rfl, HW2.out, HS2.out⟩
  · obtain ⟨hl1, hl2, has⟩ : 1 ≤ m ∧ m ≤ 64 ∧ ascL 0 u = true := by have := E.out; unfold vB idsB at this; simp at this; exact ⟨by omega, by omega, this.2⟩
    have HAS := Hk.mk has
    have HL := Hk.mk (Wr.numL_nine (n := m) (by omega))
    have HUL : Hk (u.length = m) := ⟨hl⟩
    clear E hl has
    have HBX : Hk (∀ X, WS W (w.alloc (.cells #[.int .i64 p, .int .i64 s, .int .i64 k, .int .i64 n, .slice a m c, .int .i64 t, .int .i64 wd, .int .i64 h, .int .i64 x, .int .i64 y] 28)) X → CmB X w.heap.size p s k n a m c t wd h x y) := ⟨fun X hX => by
      have h1 := CmB.box w p s k n a m c t wd h x y
      have h2 : w.heap.size < (w.alloc (.cells #[.int .i64 p, .int .i64 s, .int .i64 k, .int .i64 n, .slice a m c, .int .i64 t, .int .i64 wd, .int .i64 h, .int .i64 x, .int .i64 y] 28)).heap.size := by simp
      have h3 : ¬ w.heap.size = W := by omega
      have h4 : ¬ U8 (w.alloc (.cells #[.int .i64 p, .int .i64 s, .int .i64 k, .int .i64 n, .slice a m c, .int .i64 t, .int .i64 wd, .int .i64 h, .int .i64 x, .int .i64 y] 28)) w.heap.size := not_u8 w _ _ (by decide)
      have hc : ∀ o, X.cell? ⟨w.heap.size, o, none⟩ = (w.alloc (.cells #[.int .i64 p, .int .i64 s, .int .i64 k, .int .i64 n, .slice a m c, .int .i64 t, .int .i64 wd, .int .i64 h, .int .i64 x, .int .i64 y] 28)).cell? ⟨w.heap.size, o, none⟩ := fun o => hX.cell h2 h3 h4
      exact ⟨(hc _).trans h1.c0, (hc _).trans h1.c1, (hc _).trans h1.c2, (hc _).trans h1.c3, (hc _).trans h1.c4, (hc _).trans h1.c5, (hc _).trans h1.c6, (hc _).trans h1.c7, (hc _).trans h1.c8, (hc _).trans h1.c9, fun j => (World.frozen?_of_block (hX.keep _ h2 h3 h4)).trans (h1.fz j)⟩⟩
    go_enter Try.func31, Try.ntmps31
    go_wp2_with (go_at_call 29; (with_reducible refine (conum_any (m : Int) m W base N v xs _ ?_ ?_ HW.out ?_ ?_).mono ?_); (exact ⟨by omega⟩); (exact ⟨by omega⟩); (exact HSZ.out); (omega); rintro e w2 ⟨v2, rfl, hw2, hs2⟩; have HW2 := Hk.mk hw2; have HSZ2 := Hk.mk (Nat.le_trans HSZ.out hs2.size); obtain ⟨b0, b1, b2, b3, b4, b5, b6, b7, b8, b9, -⟩ := HBX.out _ hs2; have HS2 := Hk.mk (HS.out.trans hs2); clear hw2 hs2)
    clear b0 b1 b2 b3 b4 b5 b6 b7 b8 b9
    go_loopw [26] (fun i wr => ∃ (j : Nat) (v' : Value), i = .int .i64 j ∧ j ≤ m ∧ Hk (WrB wr W base v' (N + (Wr.numL m).length + (uL (u.take j)).length) (xs ++ Wr.numL m ++ uL (u.take j))) ∧ Hk (WS W w wr) ∧ Hk (base ≤ wr.heap.size)) (fun i _ => m - (intOf i).toNat)
    case atStart => exact ⟨0, v2, rfl, by omega, ⟨by simpa [uL] using HW2.out⟩, HS2, HSZ2⟩
    case round =>
      clear HW2 HS2 HSZ2
      obtain ⟨j, v', rfl, hj, HW2, HS2, HSZ2⟩ := hrel
      by_cases hlt : j < m
      · obtain ⟨b, off, rfl, hbl, hcl⟩ := HQ.out.rd (by omega)
        have d0 := (HS2.out.below.cell (p := ⟨b, off + j, none⟩) hbl).trans (hcl j hlt)
        clear hcl
        have hsn := uL_snoc (u := u) (j := j) (by rw [HUL.out]; exact hlt)
        have hge := asc_ge HAS.out _ (getD_mem (xs := u) (k := j) (by rw [HUL.out]; exact hlt))
        have hul : (uL (u.take j)).length ≤ 576 := by
          have h1 := uL_len (u.take j) (fun a ha => (asc_ge HAS.out a (List.mem_of_mem_take ha)).2)
          have h2 : (u.take j).length ≤ j := List.length_take_le _ _
          omega
        generalize u.getD j 0 = z at *
        have HSN := Hk.mk hsn
        have HLN := Hk.mk hul
        obtain ⟨hz0, hz1⟩ := hge
        clear hsn hul
        have i1 : (0 : Int) ≤ (j : Int) := by omega
        have i2 : (j : Int) < (m : Int) := by omega
        go_wp2_with (go_at_call 29; (with_reducible refine (conum_any z z.toNat W base (N + (Wr.numL m).length + (uL (u.take j)).length) v' (xs ++ Wr.numL m ++ uL (u.take j)) _ ?_ ?_ HW2.out ?_ ?_).mono ?_); (exact ⟨by omega⟩); (exact ⟨by omega⟩); (exact HSZ2.out); (have := HL.out; have := HLN.out; omega); rintro e w4 ⟨v4, rfl, hw4, hs4⟩; have HW4 := Hk.mk hw4; have HSZ4 := Hk.mk (Nat.le_trans HSZ2.out hs4.size); have HS4 := Hk.mk (HS2.out.trans hs4); clear hw4 hs4)
        go_roundw
        case rel => exact ⟨j + 1, v4, by go_num, by omega, ⟨by rw [HSN.out, List.length_append, ← Nat.add_assoc, ← List.append_assoc]; exact HW4.out⟩, HS4, HSZ4⟩
        case measure => simp [intOf]; omega
      · have hjm : j = m := by omega
        subst hjm
        go_wp2
        go_end0
        refine ⟨v', rfl, ?_, HS2.out⟩
        have h1 := HW2.out
        rw [List.take_of_length_le (by rw [HUL.out]; omega), Nat.add_assoc, ← List.length_append, List.append_assoc] at h1
        unfold wrB
        rw [← HUL.out] at h1
        exact h1
  · obtain ⟨hx0, hx1⟩ : 0 ≤ t ∧ t ≤ 1099511627776 := by have := E.out; unfold vB at this; simp at this; omega
    clear E hl
    go_enter Try.func31, Try.ntmps31
    go_wp2_with (go_at_call 29; (with_reducible refine (conum_any t t.toNat W base N v xs _ ?_ ?_ HW.out ?_ ?_).mono ?_); (exact ⟨by omega⟩); (exact ⟨by omega⟩); (exact HSZ.out); (omega); rintro e w2 ⟨v2, rfl, hw2, hs2⟩; have HW2 := Hk.mk hw2; have HSZ2 := Hk.mk (Nat.le_trans HSZ.out hs2.size); have HS2 := Hk.mk (HS.out.trans hs2); clear hw2 hs2)
    go_end0
    exact ⟨v2, rfl, HW2.out, HS2.out⟩
  · obtain ⟨hx0, hx1, hx2, hx3⟩ : 0 ≤ wd ∧ wd ≤ 1099511627776 ∧ 0 ≤ h ∧ h ≤ 1099511627776 := by have := E.out; unfold vB at this; simp at this; omega
    have HL := Hk.mk (numL_nine' (z := wd) (by omega))
    clear E hl
    have HBX : Hk (∀ X, WS W (w.alloc (.cells #[.int .i64 p, .int .i64 s, .int .i64 k, .int .i64 n, .slice a m c, .int .i64 t, .int .i64 wd, .int .i64 h, .int .i64 x, .int .i64 y] 28)) X → CmB X w.heap.size p s k n a m c t wd h x y) := ⟨fun X hX => by
      have h1 := CmB.box w p s k n a m c t wd h x y
      have h2 : w.heap.size < (w.alloc (.cells #[.int .i64 p, .int .i64 s, .int .i64 k, .int .i64 n, .slice a m c, .int .i64 t, .int .i64 wd, .int .i64 h, .int .i64 x, .int .i64 y] 28)).heap.size := by simp
      have h3 : ¬ w.heap.size = W := by omega
      have h4 : ¬ U8 (w.alloc (.cells #[.int .i64 p, .int .i64 s, .int .i64 k, .int .i64 n, .slice a m c, .int .i64 t, .int .i64 wd, .int .i64 h, .int .i64 x, .int .i64 y] 28)) w.heap.size := not_u8 w _ _ (by decide)
      have hc : ∀ o, X.cell? ⟨w.heap.size, o, none⟩ = (w.alloc (.cells #[.int .i64 p, .int .i64 s, .int .i64 k, .int .i64 n, .slice a m c, .int .i64 t, .int .i64 wd, .int .i64 h, .int .i64 x, .int .i64 y] 28)).cell? ⟨w.heap.size, o, none⟩ := fun o => hX.cell h2 h3 h4
      exact ⟨(hc _).trans h1.c0, (hc _).trans h1.c1, (hc _).trans h1.c2, (hc _).trans h1.c3, (hc _).trans h1.c4, (hc _).trans h1.c5, (hc _).trans h1.c6, (hc _).trans h1.c7, (hc _).trans h1.c8, (hc _).trans h1.c9, fun j => (World.frozen?_of_block (hX.keep _ h2 h3 h4)).trans (h1.fz j)⟩⟩
    go_enter Try.func31, Try.ntmps31
    go_wp2_with (first | (go_at_call 29; (with_reducible refine (conum_any h h.toNat W base (N + (Wr.numL wd.toNat).length) v2 (xs ++ Wr.numL wd.toNat) _ ?_ ?_ HW2.out ?_ ?_).mono ?_); (exact ⟨by omega⟩); (exact ⟨by omega⟩); (exact HSZ2.out); (have := HL.out; omega); rintro e w3 ⟨v3, rfl, hw3, hs3⟩; have HW3 := Hk.mk hw3; have HSZ3 := Hk.mk (Nat.le_trans HSZ2.out hs3.size); have HS3 := Hk.mk (HS2.out.trans hs3); clear hw3 hs3) | (go_at_call 29; (with_reducible refine (conum_any wd wd.toNat W base N v xs _ ?_ ?_ HW.out ?_ ?_).mono ?_); (exact ⟨by omega⟩); (exact ⟨by omega⟩); (exact HSZ.out); (omega); rintro e w2 ⟨v2, rfl, hw2, hs2⟩; have HW2 := Hk.mk hw2; have HSZ2 := Hk.mk (Nat.le_trans HSZ.out hs2.size); obtain ⟨b0, b1, b2, b3, b4, b5, b6, b7, b8, b9, -⟩ := HBX.out _ hs2; have HS2 := Hk.mk (HS.out.trans hs2); clear hw2 hs2))
    go_end0
    refine ⟨v3, rfl, ?_, HS3.out⟩
    have h1 := HW3.out
    rw [Nat.add_assoc, ← List.length_append, List.append_assoc] at h1
    exact h1
  · obtain ⟨hx0, hx1, hx2, hx3⟩ : -1099511627776 ≤ x ∧ x ≤ 1099511627776 ∧ -1099511627776 ≤ y ∧ y ≤ 1099511627776 := by have := E.out; unfold vB at this; simp at this; omega
    have HL := Hk.mk (Wr.numL_nine (n := Wr.zig x) (by unfold Wr.zig; split <;> omega))
    clear E hl
    have HBX : Hk (∀ X, WS W (w.alloc (.cells #[.int .i64 p, .int .i64 s, .int .i64 k, .int .i64 n, .slice a m c, .int .i64 t, .int .i64 wd, .int .i64 h, .int .i64 x, .int .i64 y] 28)) X → CmB X w.heap.size p s k n a m c t wd h x y) := ⟨fun X hX => by
      have h1 := CmB.box w p s k n a m c t wd h x y
      have h2 : w.heap.size < (w.alloc (.cells #[.int .i64 p, .int .i64 s, .int .i64 k, .int .i64 n, .slice a m c, .int .i64 t, .int .i64 wd, .int .i64 h, .int .i64 x, .int .i64 y] 28)).heap.size := by simp
      have h3 : ¬ w.heap.size = W := by omega
      have h4 : ¬ U8 (w.alloc (.cells #[.int .i64 p, .int .i64 s, .int .i64 k, .int .i64 n, .slice a m c, .int .i64 t, .int .i64 wd, .int .i64 h, .int .i64 x, .int .i64 y] 28)) w.heap.size := not_u8 w _ _ (by decide)
      have hc : ∀ o, X.cell? ⟨w.heap.size, o, none⟩ = (w.alloc (.cells #[.int .i64 p, .int .i64 s, .int .i64 k, .int .i64 n, .slice a m c, .int .i64 t, .int .i64 wd, .int .i64 h, .int .i64 x, .int .i64 y] 28)).cell? ⟨w.heap.size, o, none⟩ := fun o => hX.cell h2 h3 h4
      exact ⟨(hc _).trans h1.c0, (hc _).trans h1.c1, (hc _).trans h1.c2, (hc _).trans h1.c3, (hc _).trans h1.c4, (hc _).trans h1.c5, (hc _).trans h1.c6, (hc _).trans h1.c7, (hc _).trans h1.c8, (hc _).trans h1.c9, fun j => (World.frozen?_of_block (hX.keep _ h2 h3 h4)).trans (h1.fz j)⟩⟩
    go_enter Try.func31, Try.ntmps31
    go_wp2_with (first | (go_at_call 54; (with_reducible refine (coint_any y W base (N + (Wr.numL (Wr.zig x)).length) v2 (xs ++ Wr.numL (Wr.zig x)) _ ?_ HW2.out ?_ ?_).mono ?_); (unfold I62; omega); (exact HSZ2.out); (have := HL.out; omega); rintro e w3 ⟨v3, rfl, hw3, hs3⟩; have HW3 := Hk.mk hw3; have HSZ3 := Hk.mk (Nat.le_trans HSZ2.out hs3.size); have HS3 := Hk.mk (HS2.out.trans hs3); clear hw3 hs3) | (go_at_call 54; (with_reducible refine (coint_any x W base N v xs _ ?_ HW.out ?_ ?_).mono ?_); (unfold I62; omega); (exact HSZ.out); (omega); rintro e w2 ⟨v2, rfl, hw2, hs2⟩; have HW2 := Hk.mk hw2; have HSZ2 := Hk.mk (Nat.le_trans HSZ.out hs2.size); obtain ⟨b0, b1, b2, b3, b4, b5, b6, b7, b8, b9, -⟩ := HBX.out _ hs2; have HS2 := Hk.mk (HS.out.trans hs2); clear hw2 hs2))
    go_end0
    refine ⟨v3, rfl, ?_, HS3.out⟩
    have h1 := HW3.out
    rw [Nat.add_assoc, ← List.length_append, List.append_assoc] at h1
    exact h1
theorem okC_parts {p s k : Int} {f : CF} (h : okC p s k f = true) : (1 ≤ p ∧ p ≤ 8 ∧ 0 ≤ s ∧ s ≤ 1099511627776) ∧ (1 ≤ k ∧ k ≤ 7) ∧ ∀ q ∈ partsL k, vB q f = true := by
  rw [refC_eq] at h
  unfold refC baseB at h
  unfold partsL
  (repeat' split at h) <;> simp_all
theorem flat_len {L : List Int} {f : CF} (h : ∀ q ∈ L, vB q f = true) : (L.flatMap fun q => wrB q f).length ≤ 600 * L.length := by
  induction L with
  | nil => simp
  | cons a l ih =>
    have h1 := wrB_len (h a (by simp))
    have h2 := ih fun b hb => h b (by simp [hb])
    simp at *
    omega
theorem flat_snoc {L : List Int} {j : Nat} (f : CF) (h : j < L.length) : ((L.take (j + 1)).flatMap fun q => wrB q f) = ((L.take j).flatMap fun q => wrB q f) ++ wrB (L.getD j 0) f := by
  rw [List.take_succ_eq_append_getElem h, List.flatMap_append]
  simp [List.getD, List.getElem?_eq_getElem h]
theorem bytes22_no (p s k n : Int) (a : Option Addr) (m c : Nat) (u : List Int) (t wd h x y : Int) (w : World) (hN : Nq w w.heap.size a m u) (hm : m ≤ 1099511627776) (E : Hk (okC p s k ⟨n, u, t, wd, h, x, y⟩ = false)) :
    Calls Try.prog 15 #[.agg #[.int .i64 p, .int .i64 s, .int .i64 k, .int .i64 n, .slice a m c, .int .i64 t, .int .i64 wd, .int .i64 h, .int .i64 x, .int .i64 y]] w fun e w' => e = .returned (.tuple #[.slice none 0 0, .int .i64 1]) ∧ Below w.heap.size w w' := by
  have HN := Hk.mk ((hN.below ((Below.refl _ _).alloc (Nat.le_refl _) (.cells #[.int .i64 p, .int .i64 s, .int .i64 k, .int .i64 n, .slice a m c, .int .i64 t, .int .i64 wd, .int .i64 h, .int .i64 x, .int .i64 y] 28)) (Nat.le_refl _)).mono (show w.heap.size ≤ (w.alloc (.cells #[.int .i64 p, .int .i64 s, .int .i64 k, .int .i64 n, .slice a m c, .int .i64 t, .int .i64 wd, .int .i64 h, .int .i64 x, .int .i64 y] 28)).heap.size by simp))
  have E1 : Hk ((if okC p s k ⟨n, u, t, wd, h, x, y⟩ then (0 : Int) else 1) = 1) := ⟨by rw [E.out]; rfl⟩
  clear hN
  go_enter Try.func15, Try.ntmps15
  go_wp2_with (go_at_call 18; (with_reducible refine (check22_as 1 p s k n a m c u t wd h x y _ HN.out hm E1).mono ?_); rintro e w1 ⟨rfl, hb1⟩; have HB1 := Hk.mk hb1; clear hb1)
  go_ret2
  exact ⟨rfl, ((Below.refl _ _).alloc (Nat.le_refl _) _).trans (HB1.out.mono (by simp))⟩
def BytesR (zs : List Int) (w : World) (e : Ending) (w' : World) : Prop := ∃ v, e = .returned (.tuple #[v, .int .i64 0]) ∧ OwnB w' w.heap.size v zs.length zs ∧ Below w.heap.size w w'
set_option maxRecDepth 100000 in
set_option maxHeartbeats 3200000 in
theorem bytes22_yes (p s k n : Int) (a : Option Addr) (m c : Nat) (u : List Int) (t wd h x y : Int) (w : World) (hN : Nq w w.heap.size a m u) (hm : m ≤ 1099511627776) (E : Hk (okC p s k ⟨n, u, t, wd, h, x, y⟩ = true)) :
    Calls Try.prog 15 #[.agg #[.int .i64 p, .int .i64 s, .int .i64 k, .int .i64 n, .slice a m c, .int .i64 t, .int .i64 wd, .int .i64 h, .int .i64 x, .int .i64 y]] w (BytesR (bytesC p s k ⟨n, u, t, wd, h, x, y⟩) w) := by
  obtain ⟨⟨hp1, hp2, hs1, hs2⟩, ⟨hk1, hk2⟩, hv⟩ := okC_parts E.out
  have HV := Hk.mk hv
  have HL1 := Hk.mk (numL_nine' (z := k) (by omega))
  have HL2 := Hk.mk (numL_nine' (z := p) (by omega))
  have HL3 := Hk.mk (numL_nine' (z := s) (by omega))
  have HN0 := Hk.mk hN
  have HN := Hk.mk ((hN.below ((Below.refl _ _).alloc (Nat.le_refl _) (.cells #[.int .i64 p, .int .i64 s, .int .i64 k, .int .i64 n, .slice a m c, .int .i64 t, .int .i64 wd, .int .i64 h, .int .i64 x, .int .i64 y] 28)) (Nat.le_refl _)).mono (show w.heap.size ≤ (w.alloc (.cells #[.int .i64 p, .int .i64 s, .int .i64 k, .int .i64 n, .slice a m c, .int .i64 t, .int .i64 wd, .int .i64 h, .int .i64 x, .int .i64 y] 28)).heap.size by simp))
  have E1 : Hk ((if okC p s k ⟨n, u, t, wd, h, x, y⟩ then (0 : Int) else 1) = 0) := ⟨by rw [E.out]; rfl⟩
  have HBW : Hk (Below w.heap.size w (w.alloc (.cells #[.int .i64 p, .int .i64 s, .int .i64 k, .int .i64 n, .slice a m c, .int .i64 t, .int .i64 wd, .int .i64 h, .int .i64 x, .int .i64 y] 28))) := ⟨(Below.refl _ _).alloc (Nat.le_refl _) _⟩
  have HB0 := Hk.mk (CmB.box w p s k n a m c t wd h x y)
  clear hN hv
  go_enter Try.func15, Try.ntmps15
  go_wp2_with (first | (go_at_call 18; (with_reducible refine (check22_as 0 p s k n a m c u t wd h x y _ HN.out hm E1).mono ?_); rintro e w1 ⟨rfl, hb1⟩; have HB1 := Hk.mk hb1; have hsz1 : w.heap.size < w1.heap.size := (by have := hb1.size; simp at this; omega); have HX1 := Hk.mk (HB0.out.below hb1 (by simp)); have HBX : Hk (∀ X, Below w1.heap.size (w1.alloc (.cells #[.slice none 0 0, .int .u64 0, .int .i64 0, .bool false] 56)) X → CmB X w.heap.size p s k n a m c t wd h x y) := ⟨fun X hX => (HX1.out.below ((Below.refl _ _).alloc (Nat.le_refl _) _) hsz1).below hX hsz1⟩; have HW1 : Hk (WrB (w1.alloc (.cells #[.slice none 0 0, .int .u64 0, .int .i64 0, .bool false] 56)) w1.heap.size (w1.heap.size + 1) (.slice none 0 0) 0 []) := ⟨⟨by go_simp, by go_simp, OwnB.nil _ _, Nat.lt_succ_self _⟩⟩; have HS1 : Hk (WS w1.heap.size (w1.alloc (.cells #[.slice none 0 0, .int .u64 0, .int .i64 0, .bool false] 56)) (w1.alloc (.cells #[.slice none 0 0, .int .u64 0, .int .i64 0, .bool false] 56))) := ⟨WS.refl _ _⟩; have HSZ1 : Hk (w1.heap.size + 1 ≤ (w1.alloc (.cells #[.slice none 0 0, .int .u64 0, .int .i64 0, .bool false] 56)).heap.size) := ⟨by simp⟩; obtain ⟨b0, b1, b2, b3, b4, b5, b6, b7, b8, b9, -⟩ := HX1.out; clear hb1) | (go_at_call 30; (with_reducible refine (parts_any k _ hk1 hk2).mono ?_); rintro e w5 ⟨bp, nn, L, rfl, hL, hlen, hnq, hb5, hbb, hlt, hu5⟩; have HB5 := Hk.mk hb5; have HS5 := Hk.mk (HS4.out.trans (WS.of_all hb5 HW4.out.wlt)); have HW5 := Hk.mk (HW4.out.all hb5); have HSZ5 := Hk.mk (Nat.le_trans HSZ4.out hb5.size); have HLQ := Hk.mk hnq; have HL := Hk.mk hL; have HU := Hk.mk hu5; have hn2 : nn ≤ 2 := (by have := (partsL_bd k).1; rw [hL, hlen] at this; exact this); have hpw : w1.heap.size < bp := (by have := HW4.out.wlt; omega); clear hb5 hnq hL hlen hbb hu5 b0 b1 b2 b3 b4 b5 b6 b7 b8 b9) | (go_at_call 29; (with_reducible refine (conum_any s s.toNat w1.heap.size (w1.heap.size + 1) (0 + (Wr.numL k.toNat).length + (Wr.numL p.toNat).length) v3 ([] ++ Wr.numL k.toNat ++ Wr.numL p.toNat) _ ?_ ?_ HW3.out ?_ ?_).mono ?_); (exact ⟨by omega⟩); (exact ⟨by omega⟩); (exact HSZ3.out); (have := HL1.out; have := HL2.out; have := HL3.out; omega); rintro e w4 ⟨v4, rfl, hw4, hs4⟩; have HW4 := Hk.mk hw4; have HSZ4 := Hk.mk (Nat.le_trans HSZ3.out hs4.size); have HS4 := Hk.mk (HS3.out.trans hs4); obtain ⟨b0, b1, b2, b3, b4, b5, b6, b7, b8, b9, -⟩ := HBX.out _ HS4.out.below; clear hw4 hs4) | (go_at_call 29; (with_reducible refine (conum_any p p.toNat w1.heap.size (w1.heap.size + 1) (0 + (Wr.numL k.toNat).length) v2 ([] ++ Wr.numL k.toNat) _ ?_ ?_ HW2.out ?_ ?_).mono ?_); (exact ⟨by omega⟩); (exact ⟨by omega⟩); (exact HSZ2.out); (have := HL1.out; have := HL2.out; have := HL3.out; omega); rintro e w3 ⟨v3, rfl, hw3, hs3⟩; have HW3 := Hk.mk hw3; have HSZ3 := Hk.mk (Nat.le_trans HSZ2.out hs3.size); have HS3 := Hk.mk (HS2.out.trans hs3); obtain ⟨b0, b1, b2, b3, b4, b5, b6, b7, b8, b9, -⟩ := HBX.out _ HS3.out.below; clear hw3 hs3) | (go_at_call 29; (with_reducible refine (conum_any k k.toNat w1.heap.size (w1.heap.size + 1) 0 (.slice none 0 0) [] _ ?_ ?_ HW1.out ?_ ?_).mono ?_); (exact ⟨by omega⟩); (exact ⟨by omega⟩); (exact HSZ1.out); (have := HL1.out; have := HL2.out; have := HL3.out; omega); rintro e w2 ⟨v2, rfl, hw2, hs2⟩; have HW2 := Hk.mk hw2; have HSZ2 := Hk.mk (Nat.le_trans HSZ1.out hs2.size); have HS2 := Hk.mk (HS1.out.trans hs2); obtain ⟨b0, b1, b2, b3, b4, b5, b6, b7, b8, b9, -⟩ := HBX.out _ HS2.out.below; clear hw2 hs2))
  have HW6 : Hk (WrB w5 w1.heap.size (w1.heap.size + 1) v4 (Wr.numL k.toNat ++ Wr.numL p.toNat ++ Wr.numL s.toNat).length (Wr.numL k.toNat ++ Wr.numL p.toNat ++ Wr.numL s.toNat)) := ⟨by have := HW5.out; simpa [Nat.add_assoc, List.append_assoc] using this⟩
  have HLB : Hk (L.length = nn ∧ ∀ q ∈ L, (0 ≤ q ∧ q ≤ 5) ∧ vB q ⟨n, u, t, wd, h, x, y⟩ = true) := ⟨⟨HLQ.out.len, by rw [← HL.out]; exact fun q hq => ⟨(partsL_bd k).2 q hq, HV.out q hq⟩⟩⟩
  have HL0 : Hk ((Wr.numL k.toNat ++ Wr.numL p.toNat ++ Wr.numL s.toNat).length ≤ 27) := ⟨by have := HL1.out; have := HL2.out; have := HL3.out; simp; omega⟩
  clear HW5 HW4 HW3 HW2 HW1 HS1 HS2 HS3 HS4 HSZ1 HSZ2 HSZ3 HSZ4 HV E1 HN
  generalize hgl : (Wr.numL k.toNat ++ Wr.numL p.toNat ++ Wr.numL s.toNat) = xs0 at *
  have HGL := Hk.mk hgl
  clear hgl
  go_loopw [26] (fun i wr => ∃ (j : Nat) (v' : Value), i = .int .i64 j ∧ j ≤ nn ∧ Hk (WrB wr w1.heap.size (w1.heap.size + 1) v' (xs0 ++ (L.take j).flatMap fun q => wrB q ⟨n, u, t, wd, h, x, y⟩).length (xs0 ++ (L.take j).flatMap fun q => wrB q ⟨n, u, t, wd, h, x, y⟩)) ∧ Hk (WS w1.heap.size w5 wr) ∧ Hk (w1.heap.size + 1 ≤ wr.heap.size)) (fun i _ => nn - (intOf i).toNat)
  case atStart => exact ⟨0, v4, rfl, by omega, ⟨by simpa using HW6.out⟩, ⟨WS.refl _ _⟩, HSZ5⟩
  case round =>
    clear HW6 HSZ5
    obtain ⟨j, v', rfl, hj, HW, HS, HSZ⟩ := hrel
    by_cases hlt2 : j < nn
    · have i1 : (0 : Int) ≤ (j : Int) := by omega
      have i2 : (j : Int) < (nn : Int) := by omega
      obtain ⟨b', off', eb, hbl, hc⟩ := HLQ.out.rd (by omega)
      injection eb with eb
      injection eb with eb1 eb2
      subst eb1 eb2
      have hq := (HS.out.cell (o := 0 + j) hlt (by omega) HU.out).trans (hc j hlt2)
      simp only [Nat.zero_add] at hq
      clear hc
      have hsn := flat_snoc ⟨n, u, t, wd, h, x, y⟩ (L := L) (j := j) (by rw [HLB.out.1]; exact hlt2)
      have hfl := flat_len (L := L.take j) (f := ⟨n, u, t, wd, h, x, y⟩) (fun q hq => (HLB.out.2 q (List.mem_of_mem_take hq)).2)
      have hjl : (L.take j).length ≤ 2 := by have : (L.take j).length ≤ j := List.length_take_le _ _; omega
      obtain ⟨⟨q0, q5⟩, hv⟩ := HLB.out.2 _ (getD_mem (xs := L) (k := j) (by rw [HLB.out.1]; exact hlt2))
      generalize L.getD j 0 = q at *
      have HSN := Hk.mk hsn
      have HV := Hk.mk hv
      have HFL : Hk ((xs0 ++ (L.take j).flatMap fun q => wrB q ⟨n, u, t, wd, h, x, y⟩).length ≤ 2000) := ⟨by have := HL0.out; simp at *; omega⟩
      obtain ⟨b0, b1, b2, b3, b4, b5, b6, b7, b8, b9, -⟩ := HBX.out _ (HS5.out.trans HS.out).below
      have HNQ : Hk (Nq wr w1.heap.size a m u) := ⟨((HN0.out.below ((HBW.out.trans (HB1.out.mono (by simp))).trans (((Below.refl w1.heap.size w1).alloc (Nat.le_refl _) (.cells #[.slice none 0 0, .int .u64 0, .int .i64 0, .bool false] 56)).trans (HS5.out.trans HS.out).below |>.mono (by omega))) (Nat.le_refl _)).mono (by omega))⟩
      clear hsn hv hfl hjl
      go_wp2_with (go_at_call 31; (with_reducible refine (write_any q w1.heap.size (w1.heap.size + 1) _ v' _ p s k n a m c u t wd h x y _ q0 q5 HW.out HSZ.out ?_ HNQ.out hm HV).mono ?_); (have := HFL.out; omega); rintro e w6 ⟨v6, rfl, hw6, hs6⟩; have HW6 := Hk.mk hw6; have HS6 := Hk.mk (HS.out.trans hs6); have HSZ6 := Hk.mk (Nat.le_trans HSZ.out hs6.size); clear hw6 hs6)
      go_roundw
      case rel => exact ⟨j + 1, v6, by go_num, by omega, ⟨by have h1 := HW6.out; rw [← List.length_append, List.append_assoc] at h1; rw [HSN.out]; exact h1⟩, HS6, HSZ6⟩
      case measure => simp [intOf]; omega
    · have hjn : j = nn := by omega
      subst hjn
      go_wp2_with (go_at_call 32; (with_reducible refine (cobytes_any w1.heap.size (w1.heap.size + 1) _ v' _ _ HW.out).mono ?_); rintro e w' ⟨rfl, rfl⟩)
      go_ret2
      have hx : (xs0 ++ (L.take j).flatMap fun q => wrB q ⟨n, u, t, wd, h, x, y⟩) = bytesC p s k ⟨n, u, t, wd, h, x, y⟩ := by
        rw [List.take_of_length_le (by rw [HLB.out.1]; omega), ← HGL.out, ← HL.out]; rfl
      have ho := HW.out.own
      rw [hx] at ho
      refine ⟨v', rfl, ho.weak (by omega), ?_⟩
      exact (HBW.out.trans (HB1.out.mono (by simp))).trans ((((Below.refl w1.heap.size w1).alloc (Nat.le_refl _) (.cells #[.slice none 0 0, .int .u64 0, .int .i64 0, .bool false] 56)).trans (HS5.out.trans HS.out).below).mono (by omega))
end Go.Proofs.Ytkffleclofkjmaa
