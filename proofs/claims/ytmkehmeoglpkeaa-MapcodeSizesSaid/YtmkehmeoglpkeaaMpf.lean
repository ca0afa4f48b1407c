/- Layer 7: a map read. -/
import Derived.Test.YtmkehmeoglpkeaaMpe
import Derived.Deep.RegionWith
import Derived.Laws.MakeOwn
import Derived.Laws.OwnMore
namespace Go.Proofs.Ytmkehmeoglpkeaa
open Go.RowKit
set_option linter.unusedVariables false
/-- The tiles read so far. -/
def tileS (xs : List Int) : Nat → Nat → Int → List Int × Nat × Int
  | 0, at_, e => ([], at_, e)
  | k + 1, at_, e => ((tileS xs k at_ e).1 ++ [(byteS xs 0 5 (tileS xs k at_ e).2.1 (tileS xs k at_ e).2.2).1], (byteS xs 0 5 (tileS xs k at_ e).2.1 (tileS xs k at_ e).2.2).2)
theorem tileS_len (xs : List Int) (k at_ : Nat) (e : Int) : (tileS xs k at_ e).1.length = k := by
  induction k with
  | zero => rfl
  | succ k ih => simp [tileS, ih]
/-- What a map's bytes are read as. -/
def mapS (xs : List Int) : Int × Int × List Int × Int :=
  let s := signS xs [84, 71] 0 0
  let w := rdV false xs 1 128 s.1 s.2
  let h := rdV false xs 1 128 w.2.1 w.2.2
  let t := tileS xs (w.1 * h.1).toNat h.2.1 h.2.2
  let g := hashS xs t.2.1 t.2.2
  let e := endS xs.length g.1 g.2
  if e ≠ 0 then (0, 0, [], e) else (w.1, h.1, t.1, 0)
theorem rdV_side {xs : List Int} {at_ : Nat} {e : Int} {W : Int} {at' : Nat} {e' : Int} (h : rdV false xs 1 128 at_ e = (W, at', e')) : 0 ≤ W ∧ W ≤ 128 := by
  unfold rdV stpC at h
  (repeat' split at h) <;> (injection h with h1 h2) <;> omega
theorem byteS_byt {xs : List Int} (hx : ∀ b ∈ xs, Fn.Byt b) (lo hi : Int) (at_ : Nat) (e : Int) : Fn.Byt (byteS xs lo hi at_ e).1 := by
  have h0 : Fn.Byt 0 := by unfold Fn.Byt; omega
  unfold byteS
  (repeat' split) <;> first | exact h0 | exact hx _ (getD_mem (by omega))
theorem tileS_byt {xs : List Int} (hx : ∀ b ∈ xs, Fn.Byt b) (k at_ : Nat) (e : Int) : ∀ b ∈ (tileS xs k at_ e).1, Fn.Byt b := by
  induction k with
  | zero => intro b hb; simp [tileS] at hb
  | succ k ih =>
    intro b hb
    simp only [tileS, List.mem_append, List.mem_singleton] at hb
    rcases hb with h | rfl
    · exact ih b h
    · exact byteS_byt hx _ _ _ _
/-- N noughts. -/
def Z8 (N : Nat) : Array Value := madeCells #[.int .u8 0] N
theorem own_Z8 (w : World) (N base : Nat) (hb : base ≤ w.heap.size) (hN : N ≤ 1099511627776) : OwnB (w.alloc (.cells (Z8 N) 5)) base (.slice (some ⟨w.heap.size, 0, none⟩) N N) N (List.replicate N 0) := by
  refine ⟨by simp, fun b h => by rw [List.eq_of_mem_replicate h]; unfold Fn.Byt; omega, ?_⟩
  have h1 := World.ownsRow_lit (e := 5) (size := 1) w (Z8 N) N hb (by unfold maxLen; omega) (by unfold Z8; rw [size_madeCells, Nat.mul_one])
  have h2 : (Z8 N).toList = (List.replicate N (0 : Int)).map (Value.int .u8) := by unfold Z8; rw [toList_madeCells_one]; simp
  rw [← h2]; exact h1
theorem make_u8 (N : Nat) (hN : N ≤ 1099511627776) : ∀ w, (Instr.makeSlice 24 (.int .i64 (N : Int)) (.int .i64 (N : Int))).run Try.prog w = .ok (.slice (some ⟨w.heap.size, 0, none⟩) N N) (w.alloc (.cells (Z8 N) 5)) := fun w => by
  obtain ⟨i0, hi, hz0, hz1, hz2⟩ := info_parts info_u8
  have h1 := run_make (P := Try.prog) w 24 5 i0 (.int .u8 0) Try.underlying24 hi hz0 .i64 .i64 (N : Int) (N : Int) (by omega) (by omega) (by rw [hz2]; omega) (by omega)
  rw [h1, hz1]
  simp [Z8, Value.cells]
/-- The summing cells of a reader that has not summed yet. -/
structure S6 (w : World) (R : Nat) : Prop where
  k3 : w.cell? ⟨R, 3, none⟩ = some (.int .u64 0)
  k4 : w.cell? ⟨R, 4, none⟩ = some (.int .i64 0)
  k5 : w.cell? ⟨R, 5, none⟩ = some (.bool false)
  f3 : w.frozen? ⟨R, 3, none⟩ = false
  f4 : w.frozen? ⟨R, 4, none⟩ = false
  f5 : w.frozen? ⟨R, 5, none⟩ = false
theorem S6.rw_ {R : Nat} {w w' : World} (h : S6 w R) (k : RW R w w') : S6 w' R := ⟨(k.rest 3 (by omega)).trans h.k3, (k.rest 4 (by omega)).trans h.k4, (k.rest 5 (by omega)).trans h.k5, (k.fz 3).trans h.f3, (k.fz 4).trans h.f4, (k.fz 5).trans h.f5⟩
theorem S6.fr {R : Nat} {M : Nat → Prop} {w w' : World} (h : S6 w R) (k : Fr M w w') (hM : ¬ M R) : S6 w' R :=
  have hl := World.block_lt_of_cell? _ _ h.k3
  ⟨(k.cell hl hM).trans h.k3, (k.cell hl hM).trans h.k4, (k.cell hl hM).trans h.k5, (k.frozen hl hM).trans h.f3, (k.frozen hl hM).trans h.f4, (k.frozen hl hM).trans h.f5⟩
theorem ownB_at {w : World} {base g n c k : Nat} {xs : List Int} (h : OwnB w base (.slice (some ⟨g, 0, none⟩) n c) n xs) (hk : k < n) : ∃ v, w.cell? ⟨g, k, none⟩ = some v ∧ w.frozen? ⟨g, k, none⟩ = false ∧ g < w.heap.size := by
  have h1 := h.2.2.cellAt k (by omega)
  have h2 : k < (xs.map (Value.int .u8)).length := by simp [h.1]; omega
  rw [List.getElem?_eq_getElem h2] at h1
  exact ⟨_, h1, h.2.2.frozenAt k, World.block_lt_of_cell? _ _ h1⟩
theorem tile_set {ts : List Int} {k N : Nat} (h : ts.length = k) (hk : k < N) (z : Int) : (ts ++ List.replicate (N - k) 0).set k z = (ts ++ [z]) ++ List.replicate (N - (k + 1)) 0 := by
  subst h
  rw [List.set_append_right _ _ (Nat.le_refl _), Nat.sub_self, show N - ts.length = (N - (ts.length + 1)) + 1 by omega, List.replicate_succ, List.set_cons_zero, List.append_assoc]
  rfl
def MapParse (xs : List Int) (w : World) (o : Ending) (w' : World) : Prop :=
  Below w.heap.size w w' ∧ ∃ (W H : Int) (ts : List Int) (e : Int) (a2 : Option Addr) (N c2 : Nat), mapS xs = (W, H, ts, e) ∧ o = .returned (.tuple #[.agg #[.int .i64 W, .int .i64 H, .slice a2 N c2], .int .i64 e]) ∧ OwnB w' w.heap.size (.slice a2 N c2) N ts
set_option maxRecDepth 100000 in
set_option maxHeartbeats 3200000 in
theorem mparse_any (a : Option Addr) (n c : Nat) (xs : List Int) (w : World) (h : By w w.heap.size a n xs) (hnc : n ≤ c) (hcm : c ≤ 9223372036854775807) (hnm : n ≤ 1099511627776) (han : a = none → c = 0) :
    Calls Try.prog 17 #[.slice a n c] w (MapParse xs w) := by
  have HXB := Hk.mk h.byt
  have HLN := Hk.mk h.len
  obtain ⟨at1, e1, hs1⟩ : ∃ at1 e1, signS xs [84, 71] 0 0 = (at1, e1) := ⟨_, _, rfl⟩
  have HS1 := Hk.mk hs1
  obtain ⟨W, at2, e2, hw1⟩ : ∃ W at2 e2, rdV false xs 1 128 at1 e1 = (W, at2, e2) := ⟨_, _, _, rfl⟩
  have HW1 := Hk.mk hw1
  obtain ⟨w1', w2'⟩ := rdV_side hw1
  obtain ⟨H, at3, e3, hh1⟩ : ∃ H at3 e3, rdV false xs 1 128 at2 e2 = (H, at3, e3) := ⟨_, _, _, rfl⟩
  have HH1 := Hk.mk hh1
  obtain ⟨h1', h2'⟩ := rdV_side hh1
  have hm0 : 0 ≤ W * H := Int.mul_nonneg w1' h1'
  have hm1 : W * H ≤ 128 * 128 := Int.mul_le_mul w2' h2' h1' (by omega)
  obtain ⟨N, hN⟩ : ∃ N : Nat, W * H = N := ⟨(W * H).toNat, by omega⟩
  have hN1 : N ≤ 16384 := by omega
  have hmk := make_u8 N (by omega)
  have HNN : Hk ((W * H).toNat = N) := ⟨by omega⟩
  have HRX : Hk (RdB (((w.alloc (.cells #[.int .i64 0, .int .i64 0, .slice none 0 0] 26)).alloc (.cells #[.slice a n c, .int .i64 0, .int .i64 0, .int .u64 0, .int .i64 0, .bool false] 71)).alloc (.cells #[.int .u8 84, .int .u8 71] 5)) w.heap.size (w.heap.size + 1) a n c xs 0 0) :=
    ⟨⟨by go_simp, by go_simp, by go_simp, by go_simp, by go_simp, h.below ((((Below.refl _ _).alloc (Nat.le_refl _) (.cells #[.int .i64 0, .int .i64 0, .slice none 0 0] 26)).alloc (by simp) (.cells #[.slice a n c, .int .i64 0, .int .i64 0, .int .u64 0, .int .i64 0, .bool false] 71)).alloc (by simp; omega) (.cells #[.int .u8 84, .int .u8 71] 5)) (Nat.le_refl _), by omega, hnc, hcm, hnm, han, by omega⟩⟩
  have HSX : Hk (S6 (((w.alloc (.cells #[.int .i64 0, .int .i64 0, .slice none 0 0] 26)).alloc (.cells #[.slice a n c, .int .i64 0, .int .i64 0, .int .u64 0, .int .i64 0, .bool false] 71)).alloc (.cells #[.int .u8 84, .int .u8 71] 5)) (w.heap.size + 1)) := ⟨⟨by go_simp, by go_simp, by go_simp, by go_simp, by go_simp, by go_simp⟩⟩
  have HTX : Hk (By (((w.alloc (.cells #[.int .i64 0, .int .i64 0, .slice none 0 0] 26)).alloc (.cells #[.slice a n c, .int .i64 0, .int .i64 0, .int .u64 0, .int .i64 0, .bool false] 71)).alloc (.cells #[.int .u8 84, .int .u8 71] 5)) (w.heap.size + 3) (some ⟨w.heap.size + 2, 0, none⟩) 2 [84, 71]) := ⟨by simpa [Nat.add_assoc] using two_byt ((w.alloc (.cells #[.int .i64 0, .int .i64 0, .slice none 0 0] 26)).alloc (.cells #[.slice a n c, .int .i64 0, .int .i64 0, .int .u64 0, .int .i64 0, .bool false] 71)) 84 71 5 (0, 0) b84 b71⟩
  have HBX : Hk (Below (w.heap.size + 1) (w.alloc (.cells #[.int .i64 0, .int .i64 0, .slice none 0 0] 26)) (((w.alloc (.cells #[.int .i64 0, .int .i64 0, .slice none 0 0] 26)).alloc (.cells #[.slice a n c, .int .i64 0, .int .i64 0, .int .u64 0, .int .i64 0, .bool false] 71)).alloc (.cells #[.int .u8 84, .int .u8 71] 5))) := ⟨((Below.refl _ _).alloc (by simp) (.cells #[.slice a n c, .int .i64 0, .int .i64 0, .int .u64 0, .int .i64 0, .bool false] 71)).alloc (by simp) (.cells #[.int .u8 84, .int .u8 71] 5)⟩
  have HWB : Hk (Below w.heap.size w (w.alloc (.cells #[.int .i64 0, .int .i64 0, .slice none 0 0] 26))) := ⟨(Below.refl _ _).alloc (Nat.le_refl _) (.cells #[.int .i64 0, .int .i64 0, .slice none 0 0] 26)⟩
  have HSZX : Hk ((((w.alloc (.cells #[.int .i64 0, .int .i64 0, .slice none 0 0] 26)).alloc (.cells #[.slice a n c, .int .i64 0, .int .i64 0, .int .u64 0, .int .i64 0, .bool false] 71)).alloc (.cells #[.int .u8 84, .int .u8 71] 5)).heap.size = w.heap.size + 3) := ⟨by simp⟩
  clear h hs1 han hw1 hh1 hm0 hm1
  go_enter Try.func17, Try.ntmps17
  go_wp2_with (first | (go_at_call 28; (with_reducible refine (coopenM a n c _).mono ?_); rintro e w1 ⟨rfl, rfl⟩) | (go_at_call 29; (with_reducible refine (cosign_any [84, 71] 2 2 (w.heap.size + 3) (some ⟨w.heap.size + 2, 0, none⟩) w.heap.size (w.heap.size + 1) a n c xs 0 0 _ HRX.out HTX.out ?_ ?_ (by omega)).mono ?_); (simp); (intro b off e0; injection e0 with e0; injection e0 with e2; omega); rintro o w2 ⟨at1', e1', rfl, hr, hrd, hrw⟩; obtain ⟨rfl, rfl⟩ : at1 = at1' ∧ e1 = e1' := (by have h9 := HS1.out.symm.trans hr; simpa using h9); have HR2 := Hk.mk hrd; have HS2 := Hk.mk (HSX.out.rw_ hrw); have HZ2 : Hk (w.heap.size + 3 ≤ w2.heap.size) := ⟨by have h1 := hrw.fr.size; have h2 := HSZX.out; omega⟩; have HB2 := Hk.mk (HBX.out.trans (hrw.fr.below (B := w.heap.size + 1) (by simp) (fun j hj h => by omega))); clear hr hrd hrw) | (go_at_call 30; (with_reducible refine (cornumW 1 128 w.heap.size (w.heap.size + 1) a n c xs at1 e1 _ HR2.out).mono ?_); rintro o w3 ⟨z3, at3', e3', rfl, hr, hrd, hrw⟩; obtain ⟨rfl, rfl, rfl⟩ : W = z3 ∧ at2 = at3' ∧ e2 = e3' := (by have h9 := HW1.out.symm.trans hr; simpa using h9); have HR3 := Hk.mk hrd; have HS3 := Hk.mk (HS2.out.rw_ hrw); have HZ3 : Hk (w2.heap.size ≤ w3.heap.size) := ⟨hrw.fr.size⟩; have HB3 := Hk.mk (HB2.out.trans (hrw.fr.below (B := w.heap.size + 1) (by have := HB2.out.size; simpa using this) (fun j hj h => by omega))); clear hr hrd hrw HR2) | (go_at_call 30; (with_reducible refine (cornumW 1 128 w.heap.size (w.heap.size + 1) a n c xs at2 e2 _ HR3.out).mono ?_); rintro o w4 ⟨z4, at4', e4', rfl, hr, hrd, hrw⟩; obtain ⟨rfl, rfl, rfl⟩ : H = z4 ∧ at3 = at4' ∧ e3 = e4' := (by have h9 := HH1.out.symm.trans hr; simpa using h9); have HR4 := Hk.mk hrd; have HS4 := Hk.mk (HS3.out.rw_ hrw); have HZ4 : Hk (w.heap.size + 3 ≤ w4.heap.size) := ⟨by have h1 := HZ2.out; have h2 := hrw.fr.size; have h3 := HZ3.out; omega⟩; have HB4 := Hk.mk (HB3.out.trans (hrw.fr.below (B := w.heap.size + 1) (by have := HB3.out.size; simpa using this) (fun j hj h => by omega))); clear hr hrd hrw HR3))
  have hz4 : w.heap.size + 3 ≤ w4.heap.size := HZ4.out
  have HF0 : Hk (Fr (fun _ => False) w4 ((w4.alloc (.cells (Z8 N) 5)).alloc (.cells #[.int .i64 W, .int .i64 H, .slice (some ⟨w4.heap.size, 0, none⟩) N N] 26))) := ⟨((Fr.refl _ w4).alloc _).alloc _⟩
  have HRl : Hk (RdB ((w4.alloc (.cells (Z8 N) 5)).alloc (.cells #[.int .i64 W, .int .i64 H, .slice (some ⟨w4.heap.size, 0, none⟩) N N] 26)) w.heap.size (w.heap.size + 1) a n c xs at3 e3) := ⟨HR4.out.fr HF0.out (fun _ _ x => x)⟩
  have HSl : Hk (S6 ((w4.alloc (.cells (Z8 N) 5)).alloc (.cells #[.int .i64 W, .int .i64 H, .slice (some ⟨w4.heap.size, 0, none⟩) N N] 26)) (w.heap.size + 1)) := ⟨HS4.out.fr HF0.out (fun x => x)⟩
  have HOl : Hk (OwnB ((w4.alloc (.cells (Z8 N) 5)).alloc (.cells #[.int .i64 W, .int .i64 H, .slice (some ⟨w4.heap.size, 0, none⟩) N N] 26)) (w.heap.size + 2) (.slice (some ⟨w4.heap.size, 0, none⟩) N N) N (List.replicate N 0)) := ⟨(own_Z8 w4 N (w.heap.size + 2) (by omega) (by omega)).below ((Below.refl _ _).alloc (Nat.le_refl _) _)⟩
  have HBl : Hk (Below (w.heap.size + 1) (w.alloc (.cells #[.int .i64 0, .int .i64 0, .slice none 0 0] 26)) ((w4.alloc (.cells (Z8 N) 5)).alloc (.cells #[.int .i64 W, .int .i64 H, .slice (some ⟨w4.heap.size, 0, none⟩) N N] 26))) := ⟨(HB4.out.alloc (by omega) _).alloc (by simp; omega) _⟩
  have HGl : Hk (∀ X, Fr (fun j => j = w.heap.size + 1 ∨ j = w4.heap.size) ((w4.alloc (.cells (Z8 N) 5)).alloc (.cells #[.int .i64 W, .int .i64 H, .slice (some ⟨w4.heap.size, 0, none⟩) N N] 26)) X → X.cell? ⟨w4.heap.size + 1, 0, none⟩ = some (.int .i64 W) ∧ X.cell? ⟨w4.heap.size + 1, 1, none⟩ = some (.int .i64 H) ∧ X.cell? ⟨w4.heap.size + 1, 2, none⟩ = some (.slice (some ⟨w4.heap.size, 0, none⟩) N N)) :=
    ⟨fun X hX => ⟨(hX.cell (o := 0) (by simp) (by omega)).trans (by go_simp), (hX.cell (o := 1) (by simp) (by omega)).trans (by go_simp), (hX.cell (o := 2) (by simp) (by omega)).trans (by go_simp)⟩⟩
  have HZl : Hk (w4.heap.size + 2 = (((w4.alloc (.cells (Z8 N) 5)).alloc (.cells #[.int .i64 W, .int .i64 H, .slice (some ⟨w4.heap.size, 0, none⟩) N N] 26))).heap.size) := ⟨by simp⟩
  clear HF0 HR4 HS4 HB4 HZ4 HRX HSX HTX HBX HSZX hmk
  generalize ((w4.alloc (.cells (Z8 N) 5)).alloc (.cells #[.int .i64 W, .int .i64 H, .slice (some ⟨w4.heap.size, 0, none⟩) N N] 26)) = w5 at *
  go_loopw [29] (fun i wr => ∃ (k : Nat) (ts : List Int) (at' : Nat) (e' : Int), i = .int .i64 k ∧ k ≤ N ∧ Hk (tileS xs k at3 e3 = (ts, at', e')) ∧ Hk (RdB wr w.heap.size (w.heap.size + 1) a n c xs at' e') ∧ Hk (S6 wr (w.heap.size + 1)) ∧ Hk (OwnB wr (w.heap.size + 2) (.slice (some ⟨w4.heap.size, 0, none⟩) N N) N (ts ++ List.replicate (N - k) 0)) ∧ Hk (Fr (fun j => j = w.heap.size + 1 ∨ j = w4.heap.size) w5 wr)) (fun i _ => N - (intOf i).toNat)
  case atStart => exact ⟨0, [], at3, e3, rfl, by omega, ⟨rfl⟩, HRl, HSl, ⟨by simpa using HOl.out⟩, ⟨Fr.refl _ _⟩⟩
  case round =>
    clear HRl HSl HOl
    obtain ⟨k, ts, at', e', rfl, hk, HT, HR, HS, HO, HF⟩ := hrel
    obtain ⟨g0, g1, g2⟩ := HGl.out _ HF.out
    by_cases hlt : k < N
    · have i1 : (0 : Int) ≤ (k : Int) := by omega
      have i2 : (k : Int) < (N : Int) := by omega
      have HTL : Hk (ts.length = k) := ⟨by have h1 := tileS_len xs k at3 e3; rw [HT.out] at h1; exact h1⟩
      go_wp2
      go_region_with (go_at_call 31; go_loud ((with_reducible refine (cobyte_any 0 5 w.heap.size (w.heap.size + 1) a n c xs at' e' _ ?_).mono ?_); (exact HR.out.drewN 1); rintro o w6 ⟨z6, at6, e6, rfl, hr, hrd, hrw⟩; have HRR := Hk.mk hr; have HR6 := Hk.mk hrd; have HW6 : Hk (RW (w.heap.size + 1) wr w6) := Hk.mk (((RW.refl _ wr).drewN 1).trans hrw); clear hr hrd hrw; have HO6 : Hk (OwnB w6 (w.heap.size + 2) (.slice (some ⟨w4.heap.size, 0, none⟩) N N) N (ts ++ List.replicate (N - k) 0)) := ⟨Fr.own HO.out HW6.out.fr (fun j hj h => by have h1 := (HO.out.lt j hj).1; omega)⟩; obtain ⟨v9, q0, q1, q2⟩ := ownB_at HO6.out hlt; obtain ⟨-, -, g2'⟩ := HGl.out _ (HF.out.andThen HW6.out.fr (fun j hj h => .inl h))))
      all_goals
        go_wp2
        go_roundw
        case rel => exact ⟨k + 1, ts ++ [z6], at6, e6, by go_num, by omega, ⟨by simp only [tileS, HT.out, HRR.out]⟩, ⟨HR6.out.fr ((Fr.refl (fun j => j = w4.heap.size) w6).setCell (p := ⟨w4.heap.size, k, none⟩) (fun _ => rfl) _) (fun j hj h => by omega)⟩, ⟨(HS.out.rw_ HW6.out).fr ((Fr.refl (fun j => j = w4.heap.size) w6).setCell (p := ⟨w4.heap.size, k, none⟩) (fun _ => rfl) _) (by omega)⟩, ⟨by have h1 := HO6.out.set_ k (y := z6) (by have h2 := byteS_byt HXB.out 0 5 at' e'; rw [HRR.out] at h2; exact h2); rw [tile_set HTL.out hlt] at h1; exact h1⟩, ⟨(HF.out.andThen HW6.out.fr (fun j hj h => .inl h)).setCell (p := ⟨w4.heap.size, k, none⟩) (fun _ => .inr rfl) _⟩⟩
        case measure => simp [intOf]; omega
    · have hkN : k = N := by omega
      subst hkN
      obtain ⟨at7, e7, hh7⟩ : ∃ at7 e7, hashS xs at' e' = (at7, e7) := ⟨_, _, rfl⟩
      have HH7 := Hk.mk hh7
      obtain ⟨e8, he8⟩ : ∃ e8, endS n at7 e7 = e8 := ⟨_, rfl⟩
      have HE8 := Hk.mk he8
      have HOk : Hk (OwnB wr (w.heap.size + 2) (.slice (some ⟨w4.heap.size, 0, none⟩) k k) k ts) := ⟨by have h1 := HO.out; simpa using h1⟩
      have HMS : Hk (mapS xs = if e8 ≠ 0 then (0, 0, [], e8) else (W, H, ts, 0)) := ⟨by unfold mapS; simp only [HS1.out, HW1.out, HH1.out, HNN.out, HT.out, hh7, HLN.out, he8]⟩
      clear hh7 he8 HO
      have hcl : ∀ X, Below (w.heap.size + 1) (w.alloc (.cells #[.int .i64 0, .int .i64 0, .slice none 0 0] 26)) X → X.cell? ⟨w.heap.size, 0, none⟩ = some (.int .i64 0) ∧ X.cell? ⟨w.heap.size, 1, none⟩ = some (.int .i64 0) ∧ X.cell? ⟨w.heap.size, 2, none⟩ = some (.slice none 0 0) ∧ X.frozen? ⟨w.heap.size, 0, none⟩ = false ∧ X.frozen? ⟨w.heap.size, 1, none⟩ = false ∧ X.frozen? ⟨w.heap.size, 2, none⟩ = false := fun X hX =>
        ⟨(hX.cell (p := ⟨w.heap.size, 0, none⟩) (by simp)).trans (by go_simp), (hX.cell (p := ⟨w.heap.size, 1, none⟩) (by simp)).trans (by go_simp), (hX.cell (p := ⟨w.heap.size, 2, none⟩) (by simp)).trans (by go_simp), (hX.frozen (p := ⟨w.heap.size, 0, none⟩) (by simp)).trans (by go_simp), (hX.frozen (p := ⟨w.heap.size, 1, none⟩) (by simp)).trans (by go_simp), (hX.frozen (p := ⟨w.heap.size, 2, none⟩) (by simp)).trans (by go_simp)⟩
      have HCL := Hk.mk hcl
      clear hcl g0 g1 g2
      by_cases q8 : e8 = 0
      · subst q8
        go_wp2_with (first | (go_at_call 32; (with_reducible refine (cohashR_new 0 w.heap.size (w.heap.size + 1) a n c xs at' e' _ HR.out HS.out.k3 HS.out.k4 HS.out.k5 HS.out.f3 HS.out.f4 HS.out.f5).mono ?_); rintro o w7 ⟨at7', e7', rfl, hr, hrd, hrf⟩; obtain ⟨rfl, rfl⟩ : at7 = at7' ∧ e7 = e7' := (by have h9 := HH7.out.symm.trans hr; simpa using h9); have HR7 := Hk.mk hrd; have HF7 := Hk.mk hrf; clear hr hrd hrf) | (go_at_call 33; (with_reducible refine (coend_any w.heap.size (w.heap.size + 1) a n c xs at7 e7 _ HR7.out).mono ?_); rw [HE8.out]; rintro o w8 ⟨rfl, hrd, hrw⟩; have HR8 := Hk.mk hrd; have HF8 := Hk.mk (HF7.out.trans hrw.fr); clear hrd hrw) | (go_at_call 34; (with_reducible refine (coerrorM w.heap.size (w.heap.size + 1) a n c xs at7 0 _ HR8.out).mono ?_); rintro o w' ⟨rfl, rfl⟩; have HBB8 : Hk (Below (w.heap.size + 1) (w.alloc (.cells #[.int .i64 0, .int .i64 0, .slice none 0 0] 26)) w8) := ⟨HBl.out.trans ((HF.out.andThen HF8.out (fun j hj h => .inl h)).below (by have := HZl.out; omega) (fun j hj h => by omega))⟩; obtain ⟨b0, b1, b2, f0, f1, f2⟩ := HCL.out _ HBB8.out; obtain ⟨g0, g1, g2⟩ := HGl.out _ (HF.out.andThen HF8.out (fun j hj h => .inl h))))
        refine bodyPost_ret (v := .tuple #[.agg #[.int .i64 W, .int .i64 H, .slice (some ⟨w4.heap.size, 0, none⟩) k k], .int .i64 0]) (by simp [results, Try.results17, go_sem, b0, b1, b2]) rfl ⟨?_, W, H, ts, 0, _, k, k, ?_, rfl, ?_⟩
        · exact HWB.out.trans ((((HBB8.out.mono (show w.heap.size ≤ w.heap.size + 1 by omega)).setCell (p := ⟨w.heap.size, 0, none⟩) (Nat.le_refl _) _).setCell (p := ⟨w.heap.size, 1, none⟩) (Nat.le_refl _) _).setCell (p := ⟨w.heap.size, 2, none⟩) (Nat.le_refl _) _)
        · rw [HMS.out]; simp
        · refine OwnB.weak (base := w.heap.size + 2) ?_ (by omega)
          exact Fr.own (M := fun j => j = w.heap.size ∨ j = w.heap.size + 1) HOk.out ((((HF8.out.mono (N := fun j => j = w.heap.size ∨ j = w.heap.size + 1) (fun j hj h => .inr h)).setCell (p := ⟨w.heap.size, 0, none⟩) (fun _ => .inl rfl) _).setCell (p := ⟨w.heap.size, 1, none⟩) (fun _ => .inl rfl) _).setCell (p := ⟨w.heap.size, 2, none⟩) (fun _ => .inl rfl) _) (fun j hj h => by have h1 := (HOk.out.lt j hj).1; omega)
      · have b8 : (e8 != 0) = true := by simp; omega
        have HQ8 := Hk.mk q8
        clear q8
        go_wp2_with (first | (go_at_call 32; (with_reducible refine (cohashR_new 0 w.heap.size (w.heap.size + 1) a n c xs at' e' _ HR.out HS.out.k3 HS.out.k4 HS.out.k5 HS.out.f3 HS.out.f4 HS.out.f5).mono ?_); rintro o w7 ⟨at7', e7', rfl, hr, hrd, hrf⟩; obtain ⟨rfl, rfl⟩ : at7 = at7' ∧ e7 = e7' := (by have h9 := HH7.out.symm.trans hr; simpa using h9); have HR7 := Hk.mk hrd; have HF7 := Hk.mk hrf; clear hr hrd hrf) | (go_at_call 33; (with_reducible refine (coend_any w.heap.size (w.heap.size + 1) a n c xs at7 e7 _ HR7.out).mono ?_); rw [HE8.out]; rintro o w8 ⟨rfl, hrd, hrw⟩; have HR8 := Hk.mk hrd; have HF8 := Hk.mk (HF7.out.trans hrw.fr); clear hrd hrw) | (go_at_call 34; (with_reducible refine (coerrorM w.heap.size (w.heap.size + 1) a n c xs at7 e8 _ HR8.out).mono ?_); rintro o w' ⟨rfl, rfl⟩; have HBB8 : Hk (Below (w.heap.size + 1) (w.alloc (.cells #[.int .i64 0, .int .i64 0, .slice none 0 0] 26)) w8) := ⟨HBl.out.trans ((HF.out.andThen HF8.out (fun j hj h => .inl h)).below (by have := HZl.out; omega) (fun j hj h => by omega))⟩; obtain ⟨b0, b1, b2, f0, f1, f2⟩ := HCL.out _ HBB8.out))
        refine bodyPost_ret (v := .tuple #[.agg #[.int .i64 0, .int .i64 0, .slice none 0 0], .int .i64 e8]) (by simp [results, Try.results17, go_sem, b0, b1, b2]) rfl ⟨?_, 0, 0, [], e8, none, 0, 0, ?_, rfl, OwnB.nil _ _⟩
        · exact HWB.out.trans ((((HBB8.out.mono (show w.heap.size ≤ w.heap.size + 1 by omega)).setCell (p := ⟨w.heap.size, 0, none⟩) (Nat.le_refl _) _).setCell (p := ⟨w.heap.size, 1, none⟩) (Nat.le_refl _) _).setCell (p := ⟨w.heap.size, 2, none⟩) (Nat.le_refl _) _)
        · rw [HMS.out, if_pos HQ8.out]
end Go.Proofs.Ytmkehmeoglpkeaa
