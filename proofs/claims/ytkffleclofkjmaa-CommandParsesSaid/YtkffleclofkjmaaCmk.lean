/- Package command: Parse. -/
import Derived.Test.YtkffleclofkjmaaCmj
import Derived.StillTailTactics
import Derived.LoopN
namespace Go.Proofs.Ytkffleclofkjmaa
open Go.RowKit
set_option linter.unusedVariables false
theorem read_any (q : Int) (cb base D R : Nat) (a0 : Option Addr) (n0 c0 : Nat) (xs : List Int) (at_ : Nat) (e : Int) (p s k n : Int) (a : Option Addr) (m c : Nat) (u : List Int) (t wd h x y : Int) (w : World) (hq0 : 0 ≤ q) (hq5 : q ≤ 5) (h2 : q = 2 → a = none ∧ m = 0 ∧ c = 0 ∧ u = []) (hD : D ≤ cb) (hcr : ¬ cb = R) (hcb : cb < base) (hR : R < base) (hbase : base ≤ w.heap.size) (HC : Hk (CmB w cb p s k n a m c t wd h x y)) (HO : Hk (OwnI w base (.slice a m c) m u)) (HR : Hk (RdB w D R a0 n0 c0 xs at_ e)) :
    Calls Try.prog 46 #[.int .i64 q, .pointer (some ⟨R, 0, none⟩), .pointer (some ⟨cb, 0, none⟩)] w (ReadR (rdP xs q ⟨n, u, t, wd, h, x, y⟩ at_ e) cb p s k base D R a0 n0 c0 xs w) := by
  have hc : q = 0 ∨ q = 1 ∨ q = 2 ∨ q = 3 ∨ q = 4 ∨ q = 5 := by omega
  rcases hc with rfl | rfl | rfl | rfl | rfl | rfl
  · exact read0 cb base D R a0 n0 c0 xs at_ e p s k n a m c u t wd h x y w hD hcr hcb hR hbase HC HO HR
  · exact read1 cb base D R a0 n0 c0 xs at_ e p s k n a m c u t wd h x y w hD hcr hcb hR hbase HC HO HR
  · obtain ⟨rfl, rfl, rfl, rfl⟩ := h2 rfl
    exact read2 cb base D R a0 n0 c0 xs at_ e p s k n t wd h x y w hD hcr hcb hR hbase HC HO HR
  · exact read3 cb base D R a0 n0 c0 xs at_ e p s k n a m c u t wd h x y w hD hcr hcb hR hbase HC HO HR
  · exact read4 cb base D R a0 n0 c0 xs at_ e p s k n a m c u t wd h x y w hD hcr hcb hR hbase HC HO HR
  · exact read5 cb base D R a0 n0 c0 xs at_ e p s k n a m c u t wd h x y w hD hcr hcb hR hbase HC HO HR
def rdL (xs : List Int) : List Int → CF → Nat → Int → CF × Nat × Int
  | [], f, at_, e => (f, at_, e)
  | q :: l, f, at_, e => rdL xs l (rdP xs q f at_ e).1 (rdP xs q f at_ e).2.1 (rdP xs q f at_ e).2.2
def zeroF : CF := ⟨0, [], 0, 0, 0, 0, 0⟩
/-- What bytes are read as: kind, player, number, the rest, how many bytes, the error. -/
def parC (xs : List Int) : Int × Int × Int × CF × Nat × Int :=
  ((rdV false xs 1 7 0 0).1, (rdV false xs 1 8 (rdV false xs 1 7 0 0).2.1 (rdV false xs 1 7 0 0).2.2).1,
   (rdV false xs 0 1099511627776 (rdV false xs 1 8 (rdV false xs 1 7 0 0).2.1 (rdV false xs 1 7 0 0).2.2).2.1 (rdV false xs 1 8 (rdV false xs 1 7 0 0).2.1 (rdV false xs 1 7 0 0).2.2).2.2).1,
   rdL xs (partsL (rdV false xs 1 7 0 0).1) zeroF (rdV false xs 0 1099511627776 (rdV false xs 1 8 (rdV false xs 1 7 0 0).2.1 (rdV false xs 1 7 0 0).2.2).2.1 (rdV false xs 1 8 (rdV false xs 1 7 0 0).2.1 (rdV false xs 1 7 0 0).2.2).2.2).2.1
     (rdV false xs 0 1099511627776 (rdV false xs 1 8 (rdV false xs 1 7 0 0).2.1 (rdV false xs 1 7 0 0).2.2).2.1 (rdV false xs 1 8 (rdV false xs 1 7 0 0).2.1 (rdV false xs 1 7 0 0).2.2).2.2).2.2)
theorem partsL_two (k : Int) (j : Nat) (hj : j < (partsL k).length) (h : (partsL k).getD j 0 = 2) : j = 0 := by
  have h2 := (partsL_bd k).1
  have : j = 0 ∨ j = 1 := by omega
  rcases this with rfl | rfl
  · rfl
  · unfold partsL at h
    (repeat' split at h) <;> simp at h
theorem coopen_any (a : Option Addr) (n c : Nat) (w : World) : Calls Try.prog 44 #[.slice a n c] w fun e w' => e = .returned (.pointer (some ⟨w.heap.size, 0, none⟩)) ∧ w' = w.alloc (.cells #[.slice a n c, .int .i64 0, .int .i64 0, .int .u64 0, .int .i64 0, .bool false] 87) := by
  go_enter Try.func44, Try.ntmps44
  go_wp2
  go_ret
  exact ⟨rfl, rfl⟩
theorem coerror_any (D R : Nat) (a : Option Addr) (n c : Nat) (xs : List Int) (at_ : Nat) (e : Int) (w : World) (H : RdB w D R a n c xs at_ e) : Calls Try.prog 47 #[.pointer (some ⟨R, 0, none⟩)] w fun o w' => o = .returned (.int .i64 e) ∧ w = w' := by
  have c2 := H.c2
  clear H
  go_enter Try.func47, Try.ntmps47
  go_wp2
  go_ret
  exact ⟨rfl, rfl⟩
theorem cosize_any (D R : Nat) (a : Option Addr) (n c : Nat) (xs : List Int) (at_ : Nat) (e : Int) (w : World) (H : RdB w D R a n c xs at_ e) : Calls Try.prog 48 #[.pointer (some ⟨R, 0, none⟩)] w fun o w' => o = .returned (.int .i64 at_) ∧ w' = w := by
  have c1 := H.c1
  clear H
  go_enter Try.func48, Try.ntmps48
  go_wp2
  go_ret
  exact ⟨rfl, rfl⟩
theorem rdV_err {sg : Bool} {xs : List Int} {lo hi : Int} {at_ : Nat} {e : Int} {z : Int} {at' : Nat} {e' : Int} (h : rdV sg xs lo hi at_ e = (z, at', e')) (hz : z < lo) : e' ≠ 0 := by
  unfold rdV stpC at h
  (repeat' split at h) <;> (injection h with h1 h2; injection h2 with h2 h3; omega)
theorem rdV_stay {sg : Bool} {xs : List Int} {lo hi : Int} {at_ : Nat} {e : Int} {z : Int} {at' : Nat} {e' : Int} (h : rdV sg xs lo hi at_ e = (z, at', e')) (he : e ≠ 0) : e' = e := by
  unfold rdV stpC at h
  rw [if_pos he] at h
  injection h with h1 h2; injection h2 with h2 h3; omega
/-- What Parse answers. -/
def ParseR (r : Int × Int × Int × CF × Nat × Int) (w : World) (o : Ending) (w' : World) : Prop := Below w.heap.size w w' ∧
  ((∃ e, e ≠ 0 ∧ r.2.2.2.2.2 = e ∧ o = .returned (.tuple #[.agg #[.int .i64 0, .int .i64 0, .int .i64 0, .int .i64 0, .slice none 0 0, .int .i64 0, .int .i64 0, .int .i64 0, .int .i64 0, .int .i64 0], .int .i64 0, .int .i64 e])) ∨
   (∃ p s k n a m c u t wd h x y at', r = (k, p, s, ⟨n, u, t, wd, h, x, y⟩, at', 0) ∧ OwnI w' w.heap.size (.slice a m c) m u ∧ m ≤ c ∧ o = .returned (.tuple #[.agg #[.int .i64 p, .int .i64 s, .int .i64 k, .int .i64 n, .slice a m c, .int .i64 t, .int .i64 wd, .int .i64 h, .int .i64 x, .int .i64 y], .int .i64 (at' : Nat), .int .i64 0])))
set_option maxRecDepth 100000 in
set_option maxHeartbeats 3200000 in
theorem parse_any (a0 : Option Addr) (n0 c0 : Nat) (xs : List Int) (w : World) (hby : By w w.heap.size a0 n0 xs) (hnc : n0 ≤ c0) (hcm : c0 ≤ 9223372036854775807) (hnm : n0 ≤ 1099511627776) (han : a0 = none → c0 = 0) :
    Calls Try.prog 24 #[.slice a0 n0 c0] w (ParseR (parC xs) w) := by
  have HBW : Hk (Below w.heap.size w ((w.alloc (.cells #[.int .i64 0, .int .i64 0, .int .i64 0, .int .i64 0, .slice none 0 0, .int .i64 0, .int .i64 0, .int .i64 0, .int .i64 0, .int .i64 0] 28)).alloc (.cells #[.slice a0 n0 c0, .int .i64 0, .int .i64 0, .int .u64 0, .int .i64 0, .bool false] 87))) := ⟨((Below.refl _ _).alloc (Nat.le_refl _) _).alloc (by simp) _⟩
  have HR0 : Hk (RdB ((w.alloc (.cells #[.int .i64 0, .int .i64 0, .int .i64 0, .int .i64 0, .slice none 0 0, .int .i64 0, .int .i64 0, .int .i64 0, .int .i64 0, .int .i64 0] 28)).alloc (.cells #[.slice a0 n0 c0, .int .i64 0, .int .i64 0, .int .u64 0, .int .i64 0, .bool false] 87)) w.heap.size (w.heap.size + 1) a0 n0 c0 xs 0 0) := ⟨⟨by go_simp, by go_simp, by go_simp, by go_simp, by go_simp, hby.below HBW.out (Nat.le_refl _), by omega, hnc, hcm, hnm, han, by omega⟩⟩
  have HC0 : Hk (CmB ((w.alloc (.cells #[.int .i64 0, .int .i64 0, .int .i64 0, .int .i64 0, .slice none 0 0, .int .i64 0, .int .i64 0, .int .i64 0, .int .i64 0, .int .i64 0] 28)).alloc (.cells #[.slice a0 n0 c0, .int .i64 0, .int .i64 0, .int .u64 0, .int .i64 0, .bool false] 87)) w.heap.size 0 0 0 0 none 0 0 0 0 0 0 0) := ⟨⟨by go_simp, by go_simp, by go_simp, by go_simp, by go_simp, by go_simp, by go_simp, by go_simp, by go_simp, by go_simp, fun j => by go_simp⟩⟩
  clear hby han
  have hkz := rdV_bd (sg := false) (xs := xs) (lo := 1) (hi := 7) (at_ := 0) (e := 0) (z := (rdV false xs 1 7 0 0).1) (at' := (rdV false xs 1 7 0 0).2.1) (e' := (rdV false xs 1 7 0 0).2.2) rfl
  by_cases hz0 : (rdV false xs 1 7 0 0).1 = 0
  · have HK := Hk.mk hz0
    clear hkz hz0
    go_enter Try.func24, Try.ntmps24
    go_wp2_with (first | (go_at_call 44; (with_reducible refine (coopen_any a0 n0 c0 _).mono ?_); rintro e w' ⟨rfl, rfl⟩) | (go_at_call 45; (with_reducible refine (cornum_any 0 1099511627776 w.heap.size (w.heap.size + 1) a0 n0 c0 xs at2 e2 _ HRS2.out).mono ?_); rintro o w3 ⟨z3, at3, e3, rfl, hr, hrb, hfr, hsz⟩; have HX3 := Hk.mk hr; have HRB3 := Hk.mk hrb; have HFR3 := Hk.mk hfr; have HSZ3 := Hk.mk hsz; have HCB3 := Hk.mk (HCS2.out.fr hfr (show ¬ w.heap.size = (w.heap.size + 1) by omega)); (try clear b0 b1 b2 b3 b4 b5 b6 b7 b8 b9 g); obtain ⟨b0, b1, b2, b3, b4, b5, b6, b7, b8, b9, bf⟩ := HCB3.out; have g := bf 1; clear bf hr hrb hfr hsz; have HRS3 : Hk (RdB (w3.setCell ⟨w.heap.size, 1, none⟩ (.int .i64 z3)) w.heap.size (w.heap.size + 1) a0 n0 c0 xs at3 e3) := ⟨HRB3.out.fr ((Fr.refl (fun j => j = w.heap.size) w3).setCell (p := ⟨w.heap.size, 1, none⟩) (fun _ => rfl) _) (fun j hj e => by omega)⟩; have HCS3 : Hk (CmB (w3.setCell ⟨w.heap.size, 1, none⟩ (.int .i64 z3)) w.heap.size z2 z3 z1 0 none 0 0 0 0 0 0 0) := ⟨⟨by go_simp, by go_simp, by go_simp, by go_simp, by go_simp, by go_simp, by go_simp, by go_simp, by go_simp, by go_simp, fun j => by have := HCB3.out.fz j; go_simp⟩⟩) | (go_at_call 45; (with_reducible refine (cornum_any 1 8 w.heap.size (w.heap.size + 1) a0 n0 c0 xs at1 e1 _ HRS1.out).mono ?_); rintro o w2 ⟨z2, at2, e2, rfl, hr, hrb, hfr, hsz⟩; have HX2 := Hk.mk hr; have HRB2 := Hk.mk hrb; have HFR2 := Hk.mk hfr; have HSZ2 := Hk.mk hsz; have HCB2 := Hk.mk (HCS1.out.fr hfr (show ¬ w.heap.size = (w.heap.size + 1) by omega)); (try clear b0 b1 b2 b3 b4 b5 b6 b7 b8 b9 g); obtain ⟨b0, b1, b2, b3, b4, b5, b6, b7, b8, b9, bf⟩ := HCB2.out; have g := bf 0; clear bf hr hrb hfr hsz; have HRS2 : Hk (RdB (w2.setCell ⟨w.heap.size, 0, none⟩ (.int .i64 z2)) w.heap.size (w.heap.size + 1) a0 n0 c0 xs at2 e2) := ⟨HRB2.out.fr ((Fr.refl (fun j => j = w.heap.size) w2).setCell (p := ⟨w.heap.size, 0, none⟩) (fun _ => rfl) _) (fun j hj e => by omega)⟩; have HCS2 : Hk (CmB (w2.setCell ⟨w.heap.size, 0, none⟩ (.int .i64 z2)) w.heap.size z2 0 z1 0 none 0 0 0 0 0 0 0) := ⟨⟨by go_simp, by go_simp, by go_simp, by go_simp, by go_simp, by go_simp, by go_simp, by go_simp, by go_simp, by go_simp, fun j => by have := HCB2.out.fz j; go_simp⟩⟩) | (go_at_call 45; (with_reducible refine (cornum_any 1 7 w.heap.size (w.heap.size + 1) a0 n0 c0 xs 0 0 _ HR0.out).mono ?_); rintro o w1 ⟨z1, at1, e1, rfl, hr, hrb, hfr, hsz⟩; have HX1 := Hk.mk hr; have HRB1 := Hk.mk hrb; have HFR1 := Hk.mk hfr; have HSZ1 := Hk.mk hsz; have HCB1 := Hk.mk (HC0.out.fr hfr (show ¬ w.heap.size = (w.heap.size + 1) by omega)); (try clear b0 b1 b2 b3 b4 b5 b6 b7 b8 b9 g); obtain ⟨b0, b1, b2, b3, b4, b5, b6, b7, b8, b9, bf⟩ := HCB1.out; have g := bf 2; clear bf hr hrb hfr hsz; have HRS1 : Hk (RdB (w1.setCell ⟨w.heap.size, 2, none⟩ (.int .i64 z1)) w.heap.size (w.heap.size + 1) a0 n0 c0 xs at1 e1) := ⟨HRB1.out.fr ((Fr.refl (fun j => j = w.heap.size) w1).setCell (p := ⟨w.heap.size, 2, none⟩) (fun _ => rfl) _) (fun j hj e => by omega)⟩; have HCS1 : Hk (CmB (w1.setCell ⟨w.heap.size, 2, none⟩ (.int .i64 z1)) w.heap.size 0 0 z1 0 none 0 0 0 0 0 0 0) := ⟨⟨by go_simp, by go_simp, by go_simp, by go_simp, by go_simp, by go_simp, by go_simp, by go_simp, by go_simp, by go_simp, fun j => by have := HCB1.out.fz j; go_simp⟩⟩) | (go_at_call 30; (with_reducible refine (parts_no z1 _ ?_).mono ?_); (have h0 := HK.out; rw [HX1.out] at h0; simp at h0; omega); rintro e w' ⟨rfl, rfl⟩))
    have he1 : e1 ≠ 0 := rdV_err HX1.out (by have h0 := HK.out; rw [HX1.out] at h0; simp at h0; omega)
    have he2 : e2 = e1 := rdV_stay HX2.out he1
    have he3 : e3 = e1 := (rdV_stay HX3.out (by omega)).trans he2
    have HE : Hk (e3 ≠ 0) := ⟨by omega⟩
    have hb : (e3 != 0) = true := by simp; omega
    have hb' : (e3 == 0) = false := by simp; omega
    have HPR : Hk ((parC xs).2.2.2.2.2 = e3) := ⟨by
      unfold parC
      rw [HX1.out]; dsimp only
      rw [HX2.out]; dsimp only
      rw [HX3.out]; dsimp only
      rw [partsL_none (by have h0 := HK.out; rw [HX1.out] at h0; simp at h0; omega)]; rfl⟩
    clear he1 he2 he3 b0 b1 b2 b3 b4 b5 b6 b7 b8 b9 g
    have hS3 : Hk (Fr (fun j => w.heap.size ≤ j) w (w3.setCell ⟨w.heap.size, 1, none⟩ (.int .i64 z3))) := ⟨(((((((Fr.of_below HBW.out).andThen HFR1.out (fun j _ e => by omega)).setCell (p := ⟨w.heap.size, 2, none⟩) (fun _ => Nat.le_refl _) (.int .i64 z1)).andThen HFR2.out (fun j _ e => by omega)).setCell (p := ⟨w.heap.size, 0, none⟩) (fun _ => Nat.le_refl _) (.int .i64 z2)).andThen HFR3.out (fun j _ e => by omega)).setCell (p := ⟨w.heap.size, 1, none⟩) (fun _ => Nat.le_refl _) _)⟩
    clear HCS1 HCS2 HRS1 HRS2 HRB1 HRB2 HRB3 HFR1 HFR2 HFR3 HCB1 HCB2 HCB3
    generalize w3.setCell ⟨w.heap.size, 1, none⟩ (.int .i64 z3) = wr at *
    obtain ⟨b0, b1, b2, b3, b4, b5, b6, b7, b8, b9, bf⟩ := HCS3.out
    have g0 := bf 0; have g1 := bf 1; have g2 := bf 2; have g3 := bf 3; have g4 := bf 4; have g5 := bf 5; have g6 := bf 6; have g7 := bf 7; have g8 := bf 8; have g9 := bf 9
    clear bf
    refine wp_loop_rounds 1 ?_
    rw [rounds_succ]
    go_wp2_with (go_at_call 47; (with_reducible refine (coerror_any w.heap.size (w.heap.size + 1) a0 n0 c0 xs at3 e3 _ HRS3.out).mono ?_); rintro o w' ⟨rfl, rfl⟩)
    refine bodyPost_ret (v := .tuple #[.agg #[.int .i64 0, .int .i64 0, .int .i64 0, .int .i64 0, .slice none 0 0, .int .i64 0, .int .i64 0, .int .i64 0, .int .i64 0, .int .i64 0], .int .i64 0, .int .i64 e3]) (by simp [results, Try.results24, go_sem, b0, b1, b2, b3, b4, b5, b6, b7, b8, b9]) rfl ⟨?_, .inl ⟨e3, HE.out, HPR.out, rfl⟩⟩
    refine Fr.below (M := fun j => w.heap.size ≤ j) ?_ (Nat.le_refl _) (fun j hj h => h)
    refine Fr.setCell ?_ (by intro _; exact Nat.le_refl _) _; refine Fr.setCell ?_ (by intro _; exact Nat.le_refl _) _; refine Fr.setCell ?_ (by intro _; exact Nat.le_refl _) _; refine Fr.setCell ?_ (by intro _; exact Nat.le_refl _) _; refine Fr.setCell ?_ (by intro _; exact Nat.le_refl _) _; refine Fr.setCell ?_ (by intro _; exact Nat.le_refl _) _; refine Fr.setCell ?_ (by intro _; exact Nat.le_refl _) _; refine Fr.setCell ?_ (by intro _; exact Nat.le_refl _) _; refine Fr.setCell ?_ (by intro _; exact Nat.le_refl _) _; refine Fr.setCell ?_ (by intro _; exact Nat.le_refl _) _; exact hS3.out
  · have hkr : 1 ≤ (rdV false xs 1 7 0 0).1 ∧ (rdV false xs 1 7 0 0).1 ≤ 7 := by omega
    have HK := Hk.mk hkr
    clear hkz hz0 hkr
    go_enter Try.func24, Try.ntmps24
    go_wp2_with (first | (go_at_call 44; (with_reducible refine (coopen_any a0 n0 c0 _).mono ?_); rintro e w' ⟨rfl, rfl⟩) | (go_at_call 45; (with_reducible refine (cornum_any 0 1099511627776 w.heap.size (w.heap.size + 1) a0 n0 c0 xs at2 e2 _ HRS2.out).mono ?_); rintro o w3 ⟨z3, at3, e3, rfl, hr, hrb, hfr, hsz⟩; have HX3 := Hk.mk hr; have HRB3 := Hk.mk hrb; have HFR3 := Hk.mk hfr; have HSZ3 := Hk.mk hsz; have HCB3 := Hk.mk (HCS2.out.fr hfr (show ¬ w.heap.size = (w.heap.size + 1) by omega)); (try clear b0 b1 b2 b3 b4 b5 b6 b7 b8 b9 g); obtain ⟨b0, b1, b2, b3, b4, b5, b6, b7, b8, b9, bf⟩ := HCB3.out; have g := bf 1; clear bf hr hrb hfr hsz; have HRS3 : Hk (RdB (w3.setCell ⟨w.heap.size, 1, none⟩ (.int .i64 z3)) w.heap.size (w.heap.size + 1) a0 n0 c0 xs at3 e3) := ⟨HRB3.out.fr ((Fr.refl (fun j => j = w.heap.size) w3).setCell (p := ⟨w.heap.size, 1, none⟩) (fun _ => rfl) _) (fun j hj e => by omega)⟩; have HCS3 : Hk (CmB (w3.setCell ⟨w.heap.size, 1, none⟩ (.int .i64 z3)) w.heap.size z2 z3 z1 0 none 0 0 0 0 0 0 0) := ⟨⟨by go_simp, by go_simp, by go_simp, by go_simp, by go_simp, by go_simp, by go_simp, by go_simp, by go_simp, by go_simp, fun j => by have := HCB3.out.fz j; go_simp⟩⟩) | (go_at_call 45; (with_reducible refine (cornum_any 1 8 w.heap.size (w.heap.size + 1) a0 n0 c0 xs at1 e1 _ HRS1.out).mono ?_); rintro o w2 ⟨z2, at2, e2, rfl, hr, hrb, hfr, hsz⟩; have HX2 := Hk.mk hr; have HRB2 := Hk.mk hrb; have HFR2 := Hk.mk hfr; have HSZ2 := Hk.mk hsz; have HCB2 := Hk.mk (HCS1.out.fr hfr (show ¬ w.heap.size = (w.heap.size + 1) by omega)); (try clear b0 b1 b2 b3 b4 b5 b6 b7 b8 b9 g); obtain ⟨b0, b1, b2, b3, b4, b5, b6, b7, b8, b9, bf⟩ := HCB2.out; have g := bf 0; clear bf hr hrb hfr hsz; have HRS2 : Hk (RdB (w2.setCell ⟨w.heap.size, 0, none⟩ (.int .i64 z2)) w.heap.size (w.heap.size + 1) a0 n0 c0 xs at2 e2) := ⟨HRB2.out.fr ((Fr.refl (fun j => j = w.heap.size) w2).setCell (p := ⟨w.heap.size, 0, none⟩) (fun _ => rfl) _) (fun j hj e => by omega)⟩; have HCS2 : Hk (CmB (w2.setCell ⟨w.heap.size, 0, none⟩ (.int .i64 z2)) w.heap.size z2 0 z1 0 none 0 0 0 0 0 0 0) := ⟨⟨by go_simp, by go_simp, by go_simp, by go_simp, by go_simp, by go_simp, by go_simp, by go_simp, by go_simp, by go_simp, fun j => by have := HCB2.out.fz j; go_simp⟩⟩) | (go_at_call 45; (with_reducible refine (cornum_any 1 7 w.heap.size (w.heap.size + 1) a0 n0 c0 xs 0 0 _ HR0.out).mono ?_); rintro o w1 ⟨z1, at1, e1, rfl, hr, hrb, hfr, hsz⟩; have HX1 := Hk.mk hr; have HRB1 := Hk.mk hrb; have HFR1 := Hk.mk hfr; have HSZ1 := Hk.mk hsz; have HCB1 := Hk.mk (HC0.out.fr hfr (show ¬ w.heap.size = (w.heap.size + 1) by omega)); (try clear b0 b1 b2 b3 b4 b5 b6 b7 b8 b9 g); obtain ⟨b0, b1, b2, b3, b4, b5, b6, b7, b8, b9, bf⟩ := HCB1.out; have g := bf 2; clear bf hr hrb hfr hsz; have HRS1 : Hk (RdB (w1.setCell ⟨w.heap.size, 2, none⟩ (.int .i64 z1)) w.heap.size (w.heap.size + 1) a0 n0 c0 xs at1 e1) := ⟨HRB1.out.fr ((Fr.refl (fun j => j = w.heap.size) w1).setCell (p := ⟨w.heap.size, 2, none⟩) (fun _ => rfl) _) (fun j hj e => by omega)⟩; have HCS1 : Hk (CmB (w1.setCell ⟨w.heap.size, 2, none⟩ (.int .i64 z1)) w.heap.size 0 0 z1 0 none 0 0 0 0 0 0 0) := ⟨⟨by go_simp, by go_simp, by go_simp, by go_simp, by go_simp, by go_simp, by go_simp, by go_simp, by go_simp, by go_simp, fun j => by have := HCB1.out.fz j; go_simp⟩⟩) | (go_at_call 30; (with_reducible refine (parts_any z1 _ ?_ ?_).mono ?_); (have h0 := HK.out; rw [HX1.out] at h0; exact h0.1); (have h0 := HK.out; rw [HX1.out] at h0; exact h0.2); rintro e w4 ⟨b, nn, L, rfl, hL, hlen, hnq, hb4, hbb, hlt, -⟩; have HLQ := Hk.mk hnq; have HL := Hk.mk hL; have HB4 := Hk.mk hb4; have HBB := Hk.mk hbb; have hn2 : nn ≤ 2 := (by have := (partsL_bd z1).1; rw [hL, hlen] at this; exact this); clear hL hlen hnq hb4 hbb))
    clear b0 b1 b2 b3 b4 b5 b6 b7 b8 b9 g
    have hS3 : Hk (Fr (fun j => w.heap.size ≤ j) w (w3.setCell ⟨w.heap.size, 1, none⟩ (.int .i64 z3))) := ⟨(((((((Fr.of_below HBW.out).andThen HFR1.out (fun j _ e => by omega)).setCell (p := ⟨w.heap.size, 2, none⟩) (fun _ => Nat.le_refl _) (.int .i64 z1)).andThen HFR2.out (fun j _ e => by omega)).setCell (p := ⟨w.heap.size, 0, none⟩) (fun _ => Nat.le_refl _) (.int .i64 z2)).andThen HFR3.out (fun j _ e => by omega)).setCell (p := ⟨w.heap.size, 1, none⟩) (fun _ => Nat.le_refl _) _)⟩
    have hsz3 : Hk ((w3.setCell ⟨w.heap.size, 1, none⟩ (.int .i64 z3)).heap.size = w.heap.size + 2) := ⟨by have h1 := HSZ1.out; have h2 := HSZ2.out; have h3 := HSZ3.out; simp at h1 h2 h3 ⊢; omega⟩
    clear HRS1 HRS2 HRB1 HRB2 HRB3 HFR1 HFR2 HFR3 HCB1 HCB2 HCB3 HCS1 HCS2 HSZ1 HSZ2 HSZ3 HBW HR0 HC0
    generalize w3.setCell ⟨w.heap.size, 1, none⟩ (.int .i64 z3) = W3 at *
    have hbe : b = w.heap.size + 2 := by rw [HBB.out, hsz3.out]
    subst hbe
    have HRS4 : Hk (RdB w4 w.heap.size (w.heap.size + 1) a0 n0 c0 xs at3 e3) := ⟨HRS3.out.fr (Fr.of_below HB4.out) (fun j hj h => by have := hsz3.out; omega)⟩
    have HCS4 : Hk (CmB w4 w.heap.size z2 z3 z1 0 none 0 0 0 0 0 0 0) := ⟨HCS3.out.below HB4.out (by have := hsz3.out; omega)⟩
    have hS4 : Hk (Fr (fun j => w.heap.size ≤ j) w w4) := ⟨hS3.out.andThen (Fr.of_below HB4.out) (fun j hj h => by have := hsz3.out; omega)⟩
    have HLB : Hk (L.length = nn ∧ ∀ q ∈ L, 0 ≤ q ∧ q ≤ 5) := ⟨⟨HLQ.out.len, by rw [← HL.out]; exact (partsL_bd z1).2⟩⟩
    obtain ⟨FF, hFF⟩ : ∃ FF, rdL xs L zeroF at3 e3 = FF := ⟨_, rfl⟩
    have HPR : Hk (parC xs = (z1, z2, z3, FF)) := ⟨by
      unfold parC
      rw [HX1.out]; dsimp only
      rw [HX2.out]; dsimp only
      rw [HX3.out]; dsimp only
      rw [HL.out, hFF]⟩
    have HFF := Hk.mk hFF
    clear hFF HX1 HX2 HX3 HRS3 HCS3 hS3 HB4 HBB HK hsz3
    go_loopw [24] (fun i wr => ∃ (j : Nat) (n : Int) (a : Option Addr) (m c : Nat) (u : List Int) (t wd h x y : Int) (at' : Nat) (e' : Int), i = .int .i64 j ∧ j ≤ nn ∧ Hk (CmB wr w.heap.size z2 z3 z1 n a m c t wd h x y) ∧ Hk (OwnI wr (w.heap.size + 2) (.slice a m c) m u) ∧ Hk (RdB wr w.heap.size (w.heap.size + 1) a0 n0 c0 xs at' e') ∧ Hk (Fr (fun j => j = (w.heap.size + 1) ∨ j = w.heap.size) w4 wr) ∧ Hk (j = 0 → a = none ∧ m = 0 ∧ c = 0 ∧ u = []) ∧ Hk (rdL xs (L.drop j) ⟨n, u, t, wd, h, x, y⟩ at' e' = FF)) (fun i _ => nn - (intOf i).toNat)
    case atStart => exact ⟨0, 0, none, 0, 0, [], 0, 0, 0, 0, 0, at3, e3, rfl, by omega, HCS4, ⟨OwnI.nil _ _⟩, HRS4, ⟨Fr.refl _ _⟩, ⟨fun _ => ⟨rfl, rfl, rfl, rfl⟩⟩, ⟨by simpa [zeroF] using HFF.out⟩⟩
    case round =>
      clear HCS4 HRS4 HFF
      obtain ⟨j, n, a, m, c, u, t, wd, h, x, y, at', e', rfl, hj, HC, HO, HR, HF, H0, HFF⟩ := hrel
      have hws : w.heap.size + 2 < wr.heap.size := by have := HF.out.size; omega
      by_cases hlt2 : j < nn
      · have i1 : (0 : Int) ≤ (j : Int) := by omega
        have i2 : (j : Int) < (nn : Int) := by omega
        obtain ⟨b', off', eb, hbl, hc⟩ := HLQ.out.rd (by omega)
        injection eb with eb
        injection eb with eb1 eb2
        subst eb1 eb2
        have hq := (HF.out.cell (o := 0 + j) hlt (by omega)).trans (hc j hlt2)
        simp only [Nat.zero_add] at hq
        clear hc
        have hr := HFF.out
        rw [drop_getD (by rw [HLB.out.1]; exact hlt2), rdL] at hr
        obtain ⟨q0, q5⟩ := HLB.out.2 _ (getD_mem (xs := L) (k := j) (by rw [HLB.out.1]; exact hlt2))
        have h2 : Hk (L.getD j 0 = 2 → a = none ∧ m = 0 ∧ c = 0 ∧ u = []) := ⟨fun h2 => H0.out (partsL_two z1 j (by rw [HL.out, HLB.out.1]; exact hlt2) (by rw [HL.out]; exact h2))⟩
        generalize L.getD j 0 = q at *
        have HRR := Hk.mk hr
        clear hr
        go_wp2_with (go_at_call 46; (with_reducible refine (read_any q w.heap.size (w.heap.size + 2) w.heap.size (w.heap.size + 1) a0 n0 c0 xs at' e' z2 z3 z1 n a m c u t wd h x y _ q0 q5 h2.out (Nat.le_refl _) (by omega) (by omega) (by omega) (by omega) HC HO HR).mono ?_); rintro o w5 ⟨n', a', m', c', u', t', wd', h', x', y', at5, e5, rfl, hr5, hc5, ho5, hrb5, hf5⟩; have HR5 := Hk.mk hr5; have HC5 := Hk.mk hc5; have HO5 := Hk.mk ho5; have HRB5 := Hk.mk hrb5; have HF5 := Hk.mk hf5; clear hr5 hc5 ho5 hrb5 hf5)
        go_roundw
        case rel => exact ⟨j + 1, n', a', m', c', u', t', wd', h', x', y', at5, e5, by go_num, by omega, HC5, HO5, HRB5, ⟨HF.out.trans HF5.out⟩, ⟨fun h => absurd h (by omega)⟩, ⟨by have h1 := HRR.out; rw [HR5.out] at h1; exact h1⟩⟩
        case measure => simp [intOf]; omega
      · have hjn : j = nn := by omega
        subst hjn
        have hFF := HFF.out
        rw [List.drop_of_length_le (by rw [HLB.out.1]; omega), rdL] at hFF
        subst hFF
        obtain ⟨b0, b1, b2, b3, b4, b5, b6, b7, b8, b9, bf⟩ := HC.out
        have g0 := bf 0; have g1 := bf 1; have g2 := bf 2; have g3 := bf 3; have g4 := bf 4; have g5 := bf 5; have g6 := bf 6; have g7 := bf 7; have g8 := bf 8; have g9 := bf 9
        clear bf
        have hSr : Hk (Fr (fun j => w.heap.size ≤ j) w wr) := ⟨hS4.out.andThen HF.out (fun j hj h => by omega)⟩
        have hcw : w.heap.size < wr.heap.size := by omega
        by_cases he : e' = 0
        · subst he
          go_wp2_with (go_at_call 47; (with_reducible refine (coerror_any w.heap.size (w.heap.size + 1) a0 n0 c0 xs at' 0 _ HR.out).mono ?_); rintro o w' ⟨rfl, rfl⟩)
          have hdr : Fr (fun _ => False) wr wr.drew := (Fr.refl _ wr).drew
          have HRq := Hk.mk (HR.out.fr hdr (fun _ _ x => x))
          have HCq := Hk.mk (HC.out.fr hdr (fun x => x))
          have HOq := Hk.mk (Fr.owni HO.out hdr (fun _ _ x => x))
          have HSq := Hk.mk (hSr.out.drew)
          have hcq : w.heap.size < wr.drew.heap.size := hcw
          have OL : Hk (m ≤ c) := ⟨by obtain ⟨_, _, e1, h1, _⟩ := HO.out.nq; injection e1 with e1 e2 e3; omega⟩
          obtain ⟨d0, d1, d2, d3, d4, d5, d6, d7, d8, d9, df⟩ := HCq.out
          have q0 : ({ wr with drawn := wr.drawn + 1 } : World).cell? ⟨w.heap.size, 0, none⟩ = _ := d0; have q1 : ({ wr with drawn := wr.drawn + 1 } : World).cell? ⟨w.heap.size, 1, none⟩ = _ := d1; have q2 : ({ wr with drawn := wr.drawn + 1 } : World).cell? ⟨w.heap.size, 2, none⟩ = _ := d2; have q3 : ({ wr with drawn := wr.drawn + 1 } : World).cell? ⟨w.heap.size, 3, none⟩ = _ := d3; have q4 : ({ wr with drawn := wr.drawn + 1 } : World).cell? ⟨w.heap.size, 4, none⟩ = _ := d4; have q5 : ({ wr with drawn := wr.drawn + 1 } : World).cell? ⟨w.heap.size, 5, none⟩ = _ := d5; have q6 : ({ wr with drawn := wr.drawn + 1 } : World).cell? ⟨w.heap.size, 6, none⟩ = _ := d6; have q7 : ({ wr with drawn := wr.drawn + 1 } : World).cell? ⟨w.heap.size, 7, none⟩ = _ := d7; have q8 : ({ wr with drawn := wr.drawn + 1 } : World).cell? ⟨w.heap.size, 8, none⟩ = _ := d8; have q9 : ({ wr with drawn := wr.drawn + 1 } : World).cell? ⟨w.heap.size, 9, none⟩ = _ := d9
          have r0 := df 0; have r1 := df 1; have r2 := df 2; have r3 := df 3; have r4 := df 4; have r5 := df 5; have r6 := df 6; have r7 := df 7; have r8 := df 8; have r9 := df 9
          clear hdr df b0 g0 b1 g1 b2 g2 b3 g3 b4 g4 b5 g5 b6 g6 b7 g7 b8 g8 b9 g9
          go_still_tail 3, (by kernel_rfl)
          repeat still_step
          still_call (cosize_any w.heap.size (w.heap.size + 1) a0 n0 c0 xs at' 0 _ HRq.out)
          repeat still_step
          refine wpStill_nil ?_
          change wpList _ _ _ _ _ wr.drew
          clear q0 q1 q2 q3 q4 q5 q6 q7 q8 q9
          clear HC HO HR HF hSr
          generalize wr.drew = wq at *
          go_wp2
          refine bodyPost_ret (v := .tuple #[.agg #[.int .i64 z2, .int .i64 z3, .int .i64 z1, .int .i64 n, .slice a m c, .int .i64 t, .int .i64 wd, .int .i64 h, .int .i64 x, .int .i64 y], .int .i64 (at' : Nat), .int .i64 0]) (by simp [results, Try.results24, go_sem, d0, d1, d2, d3, d4, d5, d6, d7, d8, d9]) rfl ⟨?_, .inr ⟨z2, z3, z1, n, a, m, c, u, t, wd, h, x, y, at', HPR.out, OwnI.weak (Fr.owni (M := fun j => j = w.heap.size) HOq.out ?_ ?_) (by omega), OL.out, rfl⟩⟩
          · refine Fr.below (M := fun j => w.heap.size ≤ j) ?_ (Nat.le_refl _) (fun j hj h => h)
            refine Fr.setCell ?_ (by intro _; exact Nat.le_refl _) _; refine Fr.setCell ?_ (by intro _; exact Nat.le_refl _) _; refine Fr.setCell ?_ (by intro _; exact Nat.le_refl _) _; refine Fr.setCell ?_ (by intro _; exact Nat.le_refl _) _; refine Fr.setCell ?_ (by intro _; exact Nat.le_refl _) _; refine Fr.setCell ?_ (by intro _; exact Nat.le_refl _) _; refine Fr.setCell ?_ (by intro _; exact Nat.le_refl _) _; refine Fr.setCell ?_ (by intro _; exact Nat.le_refl _) _; refine Fr.setCell ?_ (by intro _; exact Nat.le_refl _) _; refine Fr.setCell ?_ (by intro _; exact Nat.le_refl _) _; exact HSq.out
          · refine Fr.setCell ?_ (by intro _; exact rfl) _; refine Fr.setCell ?_ (by intro _; exact rfl) _; refine Fr.setCell ?_ (by intro _; exact rfl) _; refine Fr.setCell ?_ (by intro _; exact rfl) _; refine Fr.setCell ?_ (by intro _; exact rfl) _; refine Fr.setCell ?_ (by intro _; exact rfl) _; refine Fr.setCell ?_ (by intro _; exact rfl) _; refine Fr.setCell ?_ (by intro _; exact rfl) _; refine Fr.setCell ?_ (by intro _; exact rfl) _; refine Fr.setCell ?_ (by intro _; exact rfl) _; exact Fr.refl _ _
          · intro q hq h
            have := (HOq.out.lt q hq).1
            omega
        · have hb : (e' != 0) = true := by simp; omega
          have hb' : (e' == 0) = false := by simp; omega
          have HE := Hk.mk he
          have HPR : Hk ((parC xs).2.2.2.2.2 = e') := ⟨by rw [HPR.out]⟩
          clear he
          go_wp2_with (go_at_call 47; (with_reducible refine (coerror_any w.heap.size (w.heap.size + 1) a0 n0 c0 xs at' e' _ HR.out).mono ?_); rintro o w' ⟨rfl, rfl⟩)
          refine bodyPost_ret (v := .tuple #[.agg #[.int .i64 0, .int .i64 0, .int .i64 0, .int .i64 0, .slice none 0 0, .int .i64 0, .int .i64 0, .int .i64 0, .int .i64 0, .int .i64 0], .int .i64 0, .int .i64 e']) (by simp [results, Try.results24, go_sem, b0, b1, b2, b3, b4, b5, b6, b7, b8, b9]) rfl ⟨?_, .inl ⟨e', HE.out, HPR.out, rfl⟩⟩
          refine Fr.below (M := fun j => w.heap.size ≤ j) ?_ (Nat.le_refl _) (fun j hj h => h)
          refine Fr.setCell ?_ (by intro _; exact Nat.le_refl _) _; refine Fr.setCell ?_ (by intro _; exact Nat.le_refl _) _; refine Fr.setCell ?_ (by intro _; exact Nat.le_refl _) _; refine Fr.setCell ?_ (by intro _; exact Nat.le_refl _) _; refine Fr.setCell ?_ (by intro _; exact Nat.le_refl _) _; refine Fr.setCell ?_ (by intro _; exact Nat.le_refl _) _; refine Fr.setCell ?_ (by intro _; exact Nat.le_refl _) _; refine Fr.setCell ?_ (by intro _; exact Nat.le_refl _) _; refine Fr.setCell ?_ (by intro _; exact Nat.le_refl _) _; refine Fr.setCell ?_ (by intro _; exact Nat.le_refl _) _; exact hSr.out
end Go.Proofs.Ytkffleclofkjmaa
