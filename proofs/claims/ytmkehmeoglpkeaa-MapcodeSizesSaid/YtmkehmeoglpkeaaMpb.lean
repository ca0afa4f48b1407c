/- Layer 7: a map's bytes, by the program and by the reference. -/
import Derived.Test.YtmkehmeoglpkeaaMpa
import Derived.Test.YtmkehmeoglpkeaaGra
namespace Go.Proofs.Ytmkehmeoglpkeaa
open Go.RowKit
set_option linter.unusedVariables false
theorem OwnB.capm {w : World} {base n c : Nat} {a : Option Addr} {xs : List Int} (h : OwnB w base (.slice a n c) n xs) : c ≤ 9223372036854775807 := by
  rcases h.2.2.2 with ⟨e, _⟩ | ⟨g, cap, cur, e, _, _, _, hm, _⟩
  · injection e with e1 e2 e3; omega
  · injection e with e1 e2 e3; unfold maxLen at hm; omega
theorem OwnB.anm {w : World} {base n c : Nat} {a : Option Addr} {xs : List Int} (h : OwnB w base (.slice a n c) n xs) : a = none → c = 0 := by
  intro ha
  rcases h.2.2.2 with ⟨e, _⟩ | ⟨g, cap, cur, e, _⟩
  · injection e with e1 e2 e3
  · injection e with e1 e2 e3; rw [ha] at e1; cases e1
theorem OwnB.byS {w : World} {base n c : Nat} {a : Option Addr} {xs : List Int} (h : OwnB w base (.slice a n c) n xs) : By w w.heap.size a n xs := by
  obtain ⟨a9, c9, e9, -, h9, -⟩ := h.by_
  injection e9 with e1 e2 e3
  rw [e1]; exact h9
/-- What hashing leaves: the sum's bytes behind. -/
def HashR (W base n : Nat) (xs : List Int) (w : World) (e : Ending) (w' : World) : Prop :=
  ∃ v', e = .returned (.int .u64 (Mp.hash xs)) ∧ WrB w' W base v' (n + 8) (xs ++ Mp.eight (Mp.hash xs)) ∧ Below W w w' ∧ ∀ j, j < w.heap.size → j ≠ W → ¬ U8 w j → w'.heap[j]? = w.heap[j]?
set_option maxRecDepth 100000 in
theorem cohash_new (h0 : Int) (W base n : Nat) (v : Value) (xs : List Int) (w : World) (H : WrB w W base v n xs) (hbase : base ≤ w.heap.size) (hn : n ≤ 1099511000000)
    (k1 : w.cell? ⟨W, 1, none⟩ = some (.int .u64 h0)) (k2 : w.cell? ⟨W, 2, none⟩ = some (.int .i64 0)) (k3 : w.cell? ⟨W, 3, none⟩ = some (.bool false))
    (f1 : w.frozen? ⟨W, 1, none⟩ = false) (f2 : w.frozen? ⟨W, 2, none⟩ = false) (f3 : w.frozen? ⟨W, 3, none⟩ = false) :
    Calls Try.prog 23 #[.pointer (some ⟨W, 0, none⟩)] w (HashR W base n xs w) := by
  obtain ⟨a, c, rfl, hnc, hby, hfr⟩ := H.own.by_
  have HCAP := Hk.mk H.own.capm
  have HAN := Hk.mk H.own.anm
  have HW0 := Hk.mk H
  have HLT := Hk.mk H.wlt
  have HWB := Hk.mk H.lt
  have HBQ : Hk (0 < n → ∀ b off, a = some ⟨b, off, none⟩ → ¬ b = W) := ⟨fun _ b off e h => by have h1 := (hfr b off e).1; have h2 := HWB.out; omega⟩
  have HY : Hk (By w w.heap.size a n xs) := ⟨hby⟩
  have HU : Hk (Fn.U64 (Mp.hash xs)) := ⟨Mp.hash_u64 xs⟩
  have c0 : w.cell? ⟨W, 0, none⟩ = some (.slice a n c) := H.cell
  have f0 := H.fz
  have g1 : w.drew.cell? ⟨W, 1, none⟩ = some (.int .u64 h0) := k1
  have g2 : w.drew.cell? ⟨W, 2, none⟩ = some (.int .i64 0) := k2
  have g3 : w.drew.cell? ⟨W, 3, none⟩ = some (.bool false) := k3
  have y1 : w.drew.frozen? ⟨W, 1, none⟩ = false := f1
  have y2 : w.drew.frozen? ⟨W, 2, none⟩ = false := f2
  have y3 : w.drew.frozen? ⟨W, 3, none⟩ = false := f3
  have HW1 : Hk (WrB w.drew W base (.slice a n c) n xs) := ⟨⟨H.cell, H.fz, H.own.drew, H.lt⟩⟩
  have HY1 : Hk (By w.drew w.heap.size a n xs) := ⟨hby.drew⟩
  have HFD : Hk (Fr (fun _ => False) w w.drew) := ⟨(Fr.refl _ w).drew⟩
  have HHS : Hk (w.drew.heap.size = w.heap.size) := ⟨rfl⟩
  clear H hby hfr k1 k2 k3 f1 f2 f3
  go_enter Try.func23, Try.ntmps23
  go_wp2
  go_still_tail 7, (by kernel_rfl)
  change wpList _ _ _ _ _ w.drew
  clear c0
  generalize w.drew = w2 at *
  go_wp2_with (first | (go_at_call 37; (with_reducible refine (summed_new W 1 h0 a n c w.heap.size xs _ g1 g2 g3 y1 y2 y3 HY1.out ?_ HBQ.out hnc HCAP.out ?_ HAN.out).mono ?_); (have := HHS.out; omega); (omega); rintro e w3 ⟨rfl, -, hf3, hr3, hz3, hs3⟩; have HF3 := Hk.mk hf3; have HZ3 : Hk (WrB w3 W base (.slice a n c) n xs) := ⟨⟨(hr3 0 (by omega)).trans HW1.out.cell, (hz3 0).trans HW1.out.fz, Fr.own HW1.out.own hf3 (fun j hj h => by have h1 := (HW1.out.own.lt j hj).1; have h2 := HWB.out; omega), HW1.out.lt⟩⟩; have HS3 := Hk.mk hs3; clear hf3 hr3 hz3 hs3) | (go_at_call 38; (with_reducible refine (word_any (Mp.hash xs) W base n (.slice a n c) xs _ HU HZ3.out ?_ hn).mono ?_); (have := HHS.out; have := HS3.out; omega); rintro e w4 ⟨v4, rfl, hw4, hs4⟩; have HW4 := Hk.mk hw4; have HS4 := Hk.mk hs4; clear hw4 hs4))
  go_ret
  refine ⟨v4, rfl, HW4.out, ?_, ?_⟩
  · exact ((Fr.below ((HFD.out.mono (N := fun j => W ≤ j) (fun j hj h => h.elim)).andThen (HF3.out.mono (N := fun j => W ≤ j) (fun j hj h => by omega)) (fun j hj h => h)) (Nat.le_of_lt HLT.out) (fun j hj h => h))).trans HS4.out.below
  · intro j hj hW hu
    have e1 : w3.heap[j]? = w.heap[j]? := (HF3.out.block j (by have := HHS.out; omega) hW).trans (HFD.out.block j hj (fun h => h))
    exact (HS4.out.keep j (by have := HHS.out; have := HS3.out; omega) hW (not_u8_of hu e1)).trans e1
theorem two_byt (w : World) (x y : Int) (t : TypeId) (fr : Nat × Nat) (hx : Fn.Byt x) (hy : Fn.Byt y) : By (w.alloc (.cells #[.int .u8 x, .int .u8 y] t fr)) (w.heap.size + 1) (some ⟨w.heap.size, 0, none⟩) 2 [x, y] :=
  By.lit w [x, y] t fr _ 2 rfl (fun b hb => by simp at hb; rcases hb with rfl | rfl; exact hx; exact hy) (Nat.lt_succ_self _)
theorem b84 : Fn.Byt 84 := by unfold Fn.Byt; omega
theorem b71 : Fn.Byt 71 := by unfold Fn.Byt; omega
theorem mapB_len (W H : Int) (xs : List Int) : (Mp.mapB W H xs).length = 2 + (Wr.numL W.toNat).length + (Wr.numL H.toNat).length + xs.length := by unfold Mp.mapB; simp; omega
def MapR (zs : List Int) (w : World) (e : Ending) (w' : World) : Prop := ∃ v, e = .returned (.tuple #[v, .int .i64 0]) ∧ OwnB w' w.heap.size v zs.length zs ∧ Below w.heap.size w w'
theorem mbytes_no (W H : Int) (a : Option Addr) (n c : Nat) (xs : List Int) (w : World) (h : By w w.heap.size a n xs) (hn : n ≤ 140737488355328) (E : Hk (gE W H n xs = 1)) :
    Calls Try.prog 9 #[.agg #[.int .i64 W, .int .i64 H, .slice a n c]] w fun e w' => e = .returned (.tuple #[.slice none 0 0, .int .i64 1]) ∧ Below w.heap.size w w' := by
  have HY := Hk.mk (h.alloc (Nat.le_refl _) (.cells #[.int .i64 W, .int .i64 H, .slice a n c] 26))
  clear h
  go_enter Try.func9, Try.ntmps9
  go_wp2_with (go_at_call 20; (with_reducible refine (check_as 1 W H a n c w.heap.size xs _ HY.out ?_ hn E).mono ?_); (simp); rintro e w1 ⟨rfl, hb1⟩; have HB1 := Hk.mk hb1; clear hb1)
  go_ret2
  exact ⟨rfl, ((Below.refl _ _).alloc (Nat.le_refl _) _).trans (HB1.out.mono (by simp))⟩
set_option maxRecDepth 100000 in
set_option maxHeartbeats 1600000 in
theorem mbytes_yes (W H : Int) (a : Option Addr) (n c : Nat) (xs : List Int) (w : World) (h : By w w.heap.size a n xs) (han : a = none → c = 0) (G : Hk (GOk W H n xs)) :
    Calls Try.prog 9 #[.agg #[.int .i64 W, .int .i64 H, .slice a n c]] w (MapR (Mp.mapL W H xs) w) := by
  obtain ⟨w1', w2', h1', h2', nn⟩ : 1 ≤ W ∧ W ≤ 128 ∧ 1 ≤ H ∧ H ≤ 128 ∧ (n : Int) = W * H := ⟨G.out.w1, G.out.w2, G.out.h1, G.out.h2, G.out.nn⟩
  obtain ⟨m1, m2⟩ := mul_bd w1' w2' h1' h2'
  have hn : n ≤ 16384 := by omega
  have E : Hk (gE W H n xs = 0) := ⟨gE_yes G.out⟩
  have HAN := Hk.mk han
  have HL1 := Hk.mk (Wr.numL_nine (n := W.toNat) (by omega))
  have HL2 := Hk.mk (Wr.numL_nine (n := H.toNat) (by omega))
  have HLX := Hk.mk h.len
  have HML := Hk.mk (mapB_len W H xs)
  have HBW : Hk (Below w.heap.size w (w.alloc (.cells #[.int .i64 W, .int .i64 H, .slice a n c] 26))) := ⟨(Below.refl _ _).alloc (Nat.le_refl _) _⟩
  have HY0 := Hk.mk h
  have HY := Hk.mk (h.alloc (Nat.le_refl _) (.cells #[.int .i64 W, .int .i64 H, .slice a n c] 26))
  have HG0 : Hk ((w.alloc (.cells #[.int .i64 W, .int .i64 H, .slice a n c] 26)).cell? ⟨w.heap.size, 0, none⟩ = some (.int .i64 W) ∧ (w.alloc (.cells #[.int .i64 W, .int .i64 H, .slice a n c] 26)).cell? ⟨w.heap.size, 1, none⟩ = some (.int .i64 H) ∧ (w.alloc (.cells #[.int .i64 W, .int .i64 H, .slice a n c] 26)).cell? ⟨w.heap.size, 2, none⟩ = some (.slice a n c)) := ⟨by go_simp, by go_simp, by go_simp⟩
  clear h han m1 m2 nn
  go_enter Try.func9, Try.ntmps9
  go_wp2_with (first | (go_at_call 20; (with_reducible refine (check_as 0 W H a n c w.heap.size xs _ HY.out ?_ ?_ E).mono ?_); (simp); (omega); rintro e w1 ⟨rfl, hb1⟩; have HB1 := Hk.mk hb1; have hsz1 : w.heap.size < w1.heap.size := (by have := hb1.size; simp at this; omega); have HGX : Hk (∀ X, Below w1.heap.size (w1.alloc (.cells #[.slice none 0 0, .int .u64 0, .int .i64 0, .bool false] 51)) X → X.cell? ⟨w.heap.size, 0, none⟩ = some (.int .i64 W) ∧ X.cell? ⟨w.heap.size, 1, none⟩ = some (.int .i64 H) ∧ X.cell? ⟨w.heap.size, 2, none⟩ = some (.slice a n c)) := ⟨fun X hX => ⟨((HB1.out.trans ((Below.refl w1.heap.size w1).alloc (Nat.le_refl _) (.cells #[.slice none 0 0, .int .u64 0, .int .i64 0, .bool false] 51) |>.mono (Nat.le_trans (by simp) hb1.size))).trans (hX.mono hb1.size) |>.cell (p := ⟨w.heap.size, 0, none⟩) (by simp)).trans HG0.out.1, ((HB1.out.trans ((Below.refl w1.heap.size w1).alloc (Nat.le_refl _) (.cells #[.slice none 0 0, .int .u64 0, .int .i64 0, .bool false] 51) |>.mono (Nat.le_trans (by simp) hb1.size))).trans (hX.mono hb1.size) |>.cell (p := ⟨w.heap.size, 1, none⟩) (by simp)).trans HG0.out.2.1, ((HB1.out.trans ((Below.refl w1.heap.size w1).alloc (Nat.le_refl _) (.cells #[.slice none 0 0, .int .u64 0, .int .i64 0, .bool false] 51) |>.mono (Nat.le_trans (by simp) hb1.size))).trans (hX.mono hb1.size) |>.cell (p := ⟨w.heap.size, 2, none⟩) (by simp)).trans HG0.out.2.2⟩⟩; have HW1 : Hk (WrB ((w1.alloc (.cells #[.slice none 0 0, .int .u64 0, .int .i64 0, .bool false] 51)).alloc (.cells #[.int .u8 84, .int .u8 71] 5)) w1.heap.size (w1.heap.size + 1) (.slice none 0 0) 0 []) := ⟨WrB.all (w := w1.alloc (.cells #[.slice none 0 0, .int .u64 0, .int .i64 0, .bool false] 51)) ⟨by go_simp, by go_simp, OwnB.nil _ _, Nat.lt_succ_self _⟩ ((Below.refl _ _).alloc (Nat.le_refl _) _)⟩; have HT1 : Hk (By ((w1.alloc (.cells #[.slice none 0 0, .int .u64 0, .int .i64 0, .bool false] 51)).alloc (.cells #[.int .u8 84, .int .u8 71] 5)) (w1.heap.size + 2) (some ⟨w1.heap.size + 1, 0, none⟩) 2 [84, 71]) := ⟨by simpa [Nat.add_assoc] using two_byt (w1.alloc (.cells #[.slice none 0 0, .int .u64 0, .int .i64 0, .bool false] 51)) 84 71 5 (0, 0) b84 b71⟩; have HS1 : Hk (WS w1.heap.size (w1.alloc (.cells #[.slice none 0 0, .int .u64 0, .int .i64 0, .bool false] 51)) ((w1.alloc (.cells #[.slice none 0 0, .int .u64 0, .int .i64 0, .bool false] 51)).alloc (.cells #[.int .u8 84, .int .u8 71] 5))) := ⟨WS.of_all ((Below.refl _ _).alloc (Nat.le_refl _) _) (by simp)⟩; clear hb1) | (go_at_call 21; (with_reducible refine (coadd_any w1.heap.size (w1.heap.size + 1) 0 (.slice none 0 0) [] (some ⟨w1.heap.size + 1, 0, none⟩) 2 2 (w1.heap.size + 2) [84, 71] _ HW1.out ?_ HT1.out ?_ ?_).mono ?_); (simp); (intro e0; cases e0); (omega); rintro e w2 ⟨v2, rfl, hw2, hs2⟩; have HW2 : Hk (WrB w2 w1.heap.size (w1.heap.size + 1) v2 2 [84, 71]) := ⟨by simpa using hw2⟩; have HS2 := Hk.mk (HS1.out.trans hs2); have HZ2 : Hk (w1.heap.size + 1 ≤ w2.heap.size) := ⟨by have := HS2.out.size; simp at this; omega⟩; obtain ⟨d0, -, -⟩ := HGX.out _ HS2.out.below; clear hw2 hs2 HW1 HT1) | (go_at_call 22; (with_reducible refine (conum_any W W.toNat w1.heap.size (w1.heap.size + 1) 2 v2 [84, 71] _ ⟨by omega⟩ ⟨by omega⟩ HW2.out HZ2.out ?_).mono ?_); (omega); rintro e w3 ⟨v3, rfl, hw3, hs3⟩; have HW3 := Hk.mk hw3; have HS3 := Hk.mk (HS2.out.trans hs3); have HZ3 : Hk (w1.heap.size + 1 ≤ w3.heap.size) := ⟨Nat.le_trans HZ2.out hs3.size⟩; obtain ⟨-, d1, -⟩ := HGX.out _ HS3.out.below; clear hw3 hs3 HW2 HS2 HZ2 d0) | (go_at_call 22; (with_reducible refine (conum_any H H.toNat w1.heap.size (w1.heap.size + 1) (2 + (Wr.numL W.toNat).length) v3 ([84, 71] ++ Wr.numL W.toNat) _ ⟨by omega⟩ ⟨by omega⟩ HW3.out HZ3.out ?_).mono ?_); (have := HL1.out; omega); rintro e w4 ⟨v4, rfl, hw4, hs4⟩; have HW4 := Hk.mk hw4; have HS4 := Hk.mk (HS3.out.trans hs4); have HZ4 : Hk (w1.heap.size + 1 ≤ w4.heap.size) := ⟨Nat.le_trans HZ3.out hs4.size⟩; obtain ⟨-, -, d2⟩ := HGX.out _ HS4.out.below; have HY4 : Hk (By w4 w.heap.size a n xs) := ⟨HY.out.below ((HB1.out.trans ((Below.refl w1.heap.size w1).alloc (Nat.le_refl _) (.cells #[.slice none 0 0, .int .u64 0, .int .i64 0, .bool false] 51) |>.mono (Nat.le_trans (by simp) HB1.out.size))).trans (HS4.out.below.mono HB1.out.size)) (by simp)⟩; clear hw4 hs4 HW3 HS3 HZ3 d1) | (go_at_call 21; (with_reducible refine (coadd_any w1.heap.size (w1.heap.size + 1) (2 + (Wr.numL W.toNat).length + (Wr.numL H.toNat).length) v4 ([84, 71] ++ Wr.numL W.toNat ++ Wr.numL H.toNat) a n c w.heap.size xs _ HW4.out HZ4.out HY4.out HAN.out ?_).mono ?_); (have := HL1.out; have := HL2.out; omega); rintro e w5 ⟨v5, rfl, hw5, hs5⟩; have HW5 : Hk (WrB w5 w1.heap.size (w1.heap.size + 1) v5 (Mp.mapB W H xs).length (Mp.mapB W H xs)) := ⟨by rw [HML.out, HLX.out]; exact hw5⟩; have HS5 := Hk.mk (HS4.out.trans hs5); have HZ5 : Hk (w1.heap.size + 1 ≤ w5.heap.size) := ⟨Nat.le_trans HZ4.out hs5.size⟩; clear hw5 hs5 HW4 HS4 HZ4 d2 HY4; have k1 : w5.cell? ⟨w1.heap.size, 1, none⟩ = some (.int .u64 0) := (HS5.out.rest 1 (by omega)).trans (by go_simp); have k2 : w5.cell? ⟨w1.heap.size, 2, none⟩ = some (.int .i64 0) := (HS5.out.rest 2 (by omega)).trans (by go_simp); have k3 : w5.cell? ⟨w1.heap.size, 3, none⟩ = some (.bool false) := (HS5.out.rest 3 (by omega)).trans (by go_simp); have f1 : w5.frozen? ⟨w1.heap.size, 1, none⟩ = false := (HS5.out.fz 1).trans (by go_simp); have f2 : w5.frozen? ⟨w1.heap.size, 2, none⟩ = false := (HS5.out.fz 2).trans (by go_simp); have f3 : w5.frozen? ⟨w1.heap.size, 3, none⟩ = false := (HS5.out.fz 3).trans (by go_simp)) | (go_at_call 23; (with_reducible refine (cohash_new 0 w1.heap.size (w1.heap.size + 1) (Mp.mapB W H xs).length v5 (Mp.mapB W H xs) _ HW5.out HZ5.out ?_ k1 k2 k3 f1 f2 f3).mono ?_); (rw [HML.out]; have := HL1.out; have := HL2.out; have := HLX.out; omega); rintro e w6 ⟨v6, rfl, hw6, hb6, -⟩; have HW6 := Hk.mk hw6; have HB6 := Hk.mk hb6; clear hw6 hb6 HW5 k1 k2 k3 f1 f2 f3) | (go_at_call 24; (with_reducible refine (cobytes_any w1.heap.size (w1.heap.size + 1) _ v6 _ _ HW6.out).mono ?_); rintro e w' ⟨rfl, rfl⟩))
  go_ret2
  refine ⟨v6, rfl, ?_, ?_⟩
  · have h1 := HW6.out.own
    have e1 : (Mp.mapL W H xs).length = (Mp.mapB W H xs).length + 8 := by unfold Mp.mapL; rw [List.length_append, Mp.eight_len]
    rw [e1]
    exact h1.weak (by omega)
  · exact (HBW.out.trans (HB1.out.mono (by simp))).trans (((Below.refl w1.heap.size w1).alloc (Nat.le_refl _) (.cells #[.slice none 0 0, .int .u64 0, .int .i64 0, .bool false] 51)).trans (HS5.out.below.trans HB6.out) |>.mono (by omega))
end Go.Proofs.Ytmkehmeoglpkeaa
