import Derived.StillTailTactics
import Derived.LoopN
import Derived.Test.YtejilcnldllhpaaUf
import Derived.Test.YtejilcnldllhpaaUa
import Derived.Deep.DeepCutAuto
import Derived.Deep.RegionHeld3
import Derived.Test.YtejilcnldllhpaaUe
/- Package command: Parse. -/
namespace Go.Proofs.Ytejilcnldllhpaa
open Go.RowKit
set_option linter.unusedVariables false
theorem read_any (q : Int) (cb base D R : Nat) (a0 : Option Addr) (n0 c0 : Nat) (xs : List Int) (at_ : Nat) (e : Int) (p s k n : Int) (a : Option Addr) (m c : Nat) (u : List Int) (t wd h x y : Int) (w : World) (hq0 : 0 ≤ q) (hq5 : q ≤ 5) (h2 : q = 2 → a = none ∧ m = 0 ∧ c = 0 ∧ u = []) (hD : D ≤ cb) (hcr : ¬ cb = R) (hcb : cb < base) (hR : R < base) (hbase : base ≤ w.heap.size) (HC : Hk (CmB w cb p s k n a m c t wd h x y)) (HO : Hk (OwnI w base (.slice a m c) m u)) (HR : Hk (RdB w D R a0 n0 c0 xs at_ e)) :
    Calls Try.prog 76 #[.int .i64 q, .pointer (some ⟨R, 0, none⟩), .pointer (some ⟨cb, 0, none⟩)] w (ReadR (rdP xs q ⟨n, u, t, wd, h, x, y⟩ at_ e) cb p s k base D R a0 n0 c0 xs w) := by
  have hc : q = 0 ∨ q = 1 ∨ q = 2 ∨ q = 3 ∨ q = 4 ∨ q = 5 := by omega
  rcases hc with rfl | rfl | rfl | rfl | rfl | rfl
  · exact read0 cb base D R a0 n0 c0 xs at_ e p s k n a m c u t wd h x y w hD hcr hcb hR hbase HC HO HR
  · exact read1 cb base D R a0 n0 c0 xs at_ e p s k n a m c u t wd h x y w hD hcr hcb hR hbase HC HO HR
  · obtain ⟨rfl, rfl, rfl, rfl⟩ := h2 rfl
    exact read2 cb base D R a0 n0 c0 xs at_ e p s k n t wd h x y w hD hcr hcb hR hbase HC HO HR
  · exact read3 cb base D R a0 n0 c0 xs at_ e p s k n a m c u t wd h x y w hD hcr hcb hR hbase HC HO HR
  · exact read4 cb base D R a0 n0 c0 xs at_ e p s k n a m c u t wd h x y w hD hcr hcb hR hbase HC HO HR
  · exact read5 cb base D R a0 n0 c0 xs at_ e p s k n a m c u t wd h x y w hD hcr hcb hR hbase HC HO HR
def rdL (xs : List Int) : List Int → CF → Nat → Int → CF × Nat × Int
  | [], f, at_, e => (f, at_, e)
  | q :: l, f, at_, e => rdL xs l (rdP xs q f at_ e).1 (rdP xs q f at_ e).2.1 (rdP xs q f at_ e).2.2
def zeroF : CF := ⟨0, [], 0, 0, 0, 0, 0⟩
/-- What bytes are read as: kind, player, number, the rest, how many bytes, the error. -/
def parC (xs : List Int) : Int × Int × Int × CF × Nat × Int :=
  ((rdV false xs 1 7 0 0).1, (rdV false xs 1 8 (rdV false xs 1 7 0 0).2.1 (rdV false xs 1 7 0 0).2.2).1,
   (rdV false xs 0 1099511627776 (rdV false xs 1 8 (rdV false xs 1 7 0 0).2.1 (rdV false xs 1 7 0 0).2.2).2.1 (rdV false xs 1 8 (rdV false xs 1 7 0 0).2.1 (rdV false xs 1 7 0 0).2.2).2.2).1,
   rdL xs (partsL (rdV false xs 1 7 0 0).1) zeroF (rdV false xs 0 1099511627776 (rdV false xs 1 8 (rdV false xs 1 7 0 0).2.1 (rdV false xs 1 7 0 0).2.2).2.1 (rdV false xs 1 8 (rdV false xs 1 7 0 0).2.1 (rdV false xs 1 7 0 0).2.2).2.2).2.1
     (rdV false xs 0 1099511627776 (rdV false xs 1 8 (rdV false xs 1 7 0 0).2.1 (rdV false xs 1 7 0 0).2.2).2.1 (rdV false xs 1 8 (rdV false xs 1 7 0 0).2.1 (rdV false xs 1 7 0 0).2.2).2.2).2.2)
theorem partsL_two (k : Int) (j : Nat) (hj : j < (partsL k).length) (h : (partsL k).getD j 0 = 2) : j = 0 := by
  have h2 := (partsL_bd k).1
  have : j = 0 ∨ j = 1 := by omega
  rcases this with rfl | rfl
  · rfl
  · unfold partsL at h
    (repeat' split at h) <;> simp at h
theorem coopen_any (a : Option Addr) (n c : Nat) (w : World) : Calls Try.prog 74 #[.slice a n c] w fun e w' => e = .returned (.pointer (some ⟨w.heap.size, 0, none⟩)) ∧ w' = w.alloc (.cells #[.slice a n c, .int .i64 0, .int .i64 0, .int .u64 0, .int .i64 0, .bool false] 155) := by
  go_enter Try.func74, Try.ntmps74
  go_wp2
  go_ret
  exact ⟨rfl, rfl⟩
theorem coerror_any (D R : Nat) (a : Option Addr) (n c : Nat) (xs : List Int) (at_ : Nat) (e : Int) (w : World) (H : RdB w D R a n c xs at_ e) : Calls Try.prog 77 #[.pointer (some ⟨R, 0, none⟩)] w fun o w' => o = .returned (.int .i64 e) ∧ w = w' := by
  have c2 := H.c2
  clear H
  go_enter Try.func77, Try.ntmps77
  go_wp2
  go_ret
  exact ⟨rfl, rfl⟩
theorem cosize_any (D R : Nat) (a : Option Addr) (n c : Nat) (xs : List Int) (at_ : Nat) (e : Int) (w : World) (H : RdB w D R a n c xs at_ e) : Calls Try.prog 78 #[.pointer (some ⟨R, 0, none⟩)] w fun o w' => o = .returned (.int .i64 at_) ∧ w' = w := by
  have c1 := H.c1
  clear H
  go_enter Try.func78, Try.ntmps78
  go_wp2
  go_ret
  exact ⟨rfl, rfl⟩
theorem rdV_err {sg : Bool} {xs : List Int} {lo hi : Int} {at_ : Nat} {e : Int} {z : Int} {at' : Nat} {e' : Int} (h : rdV sg xs lo hi at_ e = (z, at', e')) (hz : z < lo) : e' ≠ 0 := by
  unfold rdV stpC at h
  (repeat' split at h) <;> (injection h with h1 h2; injection h2 with h2 h3; omega)
theorem rdV_stay {sg : Bool} {xs : List Int} {lo hi : Int} {at_ : Nat} {e : Int} {z : Int} {at' : Nat} {e' : Int} (h : rdV sg xs lo hi at_ e = (z, at', e')) (he : e ≠ 0) : e' = e := by
  unfold rdV stpC at h
  rw [if_pos he] at h
  injection h with h1 h2; injection h2 with h2 h3; omega
/-- What Parse answers. -/
def ParseR (r : Int × Int × Int × CF × Nat × Int) (w : World) (o : Ending) (w' : World) : Prop := Below w.heap.size w w' ∧
  ((∃ e, e ≠ 0 ∧ r.2.2.2.2.2 = e ∧ o = .returned (.tuple #[.agg #[.int .i64 0, .int .i64 0, .int .i64 0, .int .i64 0, .slice none 0 0, .int .i64 0, .int .i64 0, .int .i64 0, .int .i64 0, .int .i64 0], .int .i64 0, .int .i64 e])) ∨
   (∃ p s k n a m c u t wd h x y at', r = (k, p, s, ⟨n, u, t, wd, h, x, y⟩, at', 0) ∧ OwnI w' w.heap.size (.slice a m c) m u ∧ m ≤ c ∧ o = .returned (.tuple #[.agg #[.int .i64 p, .int .i64 s, .int .i64 k, .int .i64 n, .slice a m c, .int .i64 t, .int .i64 wd, .int .i64 h, .int .i64 x, .int .i64 y], .int .i64 (at' : Nat), .int .i64 0])))
set_option maxRecDepth 100000 in
set_option maxHeartbeats 3200000 in
theorem parse_any (a0 : Option Addr) (n0 c0 : Nat) (xs : List Int) (w : World) (hby : By w w.heap.size a0 n0 xs) (hnc : n0 ≤ c0) (hcm : c0 ≤ 9223372036854775807) (hnm : n0 ≤ 1099511627776) (han : a0 = none → c0 = 0) :
    Calls Try.prog 25 #[.slice a0 n0 c0] w (ParseR (parC xs) w) := by
  have HBW : Hk (Below w.heap.size w ((w.alloc (.cells #[.int .i64 0, .int .i64 0, .int .i64 0, .int .i64 0, .slice none 0 0, .int .i64 0, .int .i64 0, .int .i64 0, .int .i64 0, .int .i64 0] 28)).alloc (.cells #[.slice a0 n0 c0, .int .i64 0, .int .i64 0, .int .u64 0, .int .i64 0, .bool false] 155))) := ⟨((Below.refl _ _).alloc (Nat.le_refl _) _).alloc (by simp) _⟩
  have HR0 : Hk (RdB ((w.alloc (.cells #[.int .i64 0, .int .i64 0, .int .i64 0, .int .i64 0, .slice none 0 0, .int .i64 0, .int .i64 0, .int .i64 0, .int .i64 0, .int .i64 0] 28)).alloc (.cells #[.slice a0 n0 c0, .int .i64 0, .int .i64 0, .int .u64 0, .int .i64 0, .bool false] 155)) w.heap.size (w.heap.size + 1) a0 n0 c0 xs 0 0) := ⟨⟨by go_simp, by go_simp, by go_simp, by go_simp, by go_simp, hby.below HBW.out (Nat.le_refl _), by omega, hnc, hcm, hnm, han, by omega⟩⟩
  have HC0 : Hk (CmB ((w.alloc (.cells #[.int .i64 0, .int .i64 0, .int .i64 0, .int .i64 0, .slice none 0 0, .int .i64 0, .int .i64 0, .int .i64 0, .int .i64 0, .int .i64 0] 28)).alloc (.cells #[.slice a0 n0 c0, .int .i64 0, .int .i64 0, .int .u64 0, .int .i64 0, .bool false] 155)) w.heap.size 0 0 0 0 none 0 0 0 0 0 0 0) := ⟨⟨by go_simp, by go_simp, by go_simp, by go_simp, by go_simp, by go_simp, by go_simp, by go_simp, by go_simp, by go_simp, fun j => by go_simp⟩⟩
  clear hby han
  have hkz := rdV_bd (sg := false) (xs := xs) (lo := 1) (hi := 7) (at_ := 0) (e := 0) (z := (rdV false xs 1 7 0 0).1) (at' := (rdV false xs 1 7 0 0).2.1) (e' := (rdV false xs 1 7 0 0).2.2) rfl
  by_cases hz0 : (rdV false xs 1 7 0 0).1 = 0
  · have HK := Hk.mk hz0
    clear hkz hz0
    go_enter Try.func25, Try.ntmps25
    go_wp2_with (first | (go_at_call 74; (with_reducible refine (coopen_any a0 n0 c0 _).mono ?_); rintro e w' ⟨rfl, rfl⟩) | (go_at_call 75; (with_reducible refine (cornum_any 0 1099511627776 w.heap.size (w.heap.size + 1) a0 n0 c0 xs at2 e2 _ HRS2.out).mono ?_); rintro o w3 ⟨z3, at3, e3, rfl, hr, hrb, hfr, hsz⟩; have HX3 := Hk.mk hr; have HRB3 := Hk.mk hrb; have HFR3 := Hk.mk hfr; have HSZ3 := Hk.mk hsz; have HCB3 := Hk.mk (HCS2.out.fr hfr (show ¬ w.heap.size = (w.heap.size + 1) by omega)); (try clear b0 b1 b2 b3 b4 b5 b6 b7 b8 b9 g); obtain ⟨b0, b1, b2, b3, b4, b5, b6, b7, b8, b9, bf⟩ := HCB3.out; have g := bf 1; clear bf hr hrb hfr hsz; have HRS3 : Hk (RdB (w3.setCell ⟨w.heap.size, 1, none⟩ (.int .i64 z3)) w.heap.size (w.heap.size + 1) a0 n0 c0 xs at3 e3) := ⟨HRB3.out.fr ((Fr.refl (fun j => j = w.heap.size) w3).setCell (p := ⟨w.heap.size, 1, none⟩) (fun _ => rfl) _) (fun j hj e => by omega)⟩; have HCS3 : Hk (CmB (w3.setCell ⟨w.heap.size, 1, none⟩ (.int .i64 z3)) w.heap.size z2 z3 z1 0 none 0 0 0 0 0 0 0) := ⟨⟨by go_simp, by go_simp, by go_simp, by go_simp, by go_simp, by go_simp, by go_simp, by go_simp, by go_simp, by go_simp, fun j => by have := HCB3.out.fz j; go_simp⟩⟩) | (go_at_call 75; (with_reducible refine (cornum_any 1 8 w.heap.size (w.heap.size + 1) a0 n0 c0 xs at1 e1 _ HRS1.out).mono ?_); rintro o w2 ⟨z2, at2, e2, rfl, hr, hrb, hfr, hsz⟩; have HX2 := Hk.mk hr; have HRB2 := Hk.mk hrb; have HFR2 := Hk.mk hfr; have HSZ2 := Hk.mk hsz; have HCB2 := Hk.mk (HCS1.out.fr hfr (show ¬ w.heap.size = (w.heap.size + 1) by omega)); (try clear b0 b1 b2 b3 b4 b5 b6 b7 b8 b9 g); obtain ⟨b0, b1, b2, b3, b4, b5, b6, b7, b8, b9, bf⟩ := HCB2.out; have g := bf 0; clear bf hr hrb hfr hsz; have HRS2 : Hk (RdB (w2.setCell ⟨w.heap.size, 0, none⟩ (.int .i64 z2)) w.heap.size (w.heap.size + 1) a0 n0 c0 xs at2 e2) := ⟨HRB2.out.fr ((Fr.refl (fun j => j = w.heap.size) w2).setCell (p := ⟨w.heap.size, 0, none⟩) (fun _ => rfl) _) (fun j hj e => by omega)⟩; have HCS2 : Hk (CmB (w2.setCell ⟨w.heap.size, 0, none⟩ (.int .i64 z2)) w.heap.size z2 0 z1 0 none 0 0 0 0 0 0 0) := ⟨⟨by go_simp, by go_simp, by go_simp, by go_simp, by go_simp, by go_simp, by go_simp, by go_simp, by go_simp, by go_simp, fun j => by have := HCB2.out.fz j; go_simp⟩⟩) | (go_at_call 75; (with_reducible refine (cornum_any 1 7 w.heap.size (w.heap.size + 1) a0 n0 c0 xs 0 0 _ HR0.out).mono ?_); rintro o w1 ⟨z1, at1, e1, rfl, hr, hrb, hfr, hsz⟩; have HX1 := Hk.mk hr; have HRB1 := Hk.mk hrb; have HFR1 := Hk.mk hfr; have HSZ1 := Hk.mk hsz; have HCB1 := Hk.mk (HC0.out.fr hfr (show ¬ w.heap.size = (w.heap.size + 1) by omega)); (try clear b0 b1 b2 b3 b4 b5 b6 b7 b8 b9 g); obtain ⟨b0, b1, b2, b3, b4, b5, b6, b7, b8, b9, bf⟩ := HCB1.out; have g := bf 2; clear bf hr hrb hfr hsz; have HRS1 : Hk (RdB (w1.setCell ⟨w.heap.size, 2, none⟩ (.int .i64 z1)) w.heap.size (w.heap.size + 1) a0 n0 c0 xs at1 e1) := ⟨HRB1.out.fr ((Fr.refl (fun j => j = w.heap.size) w1).setCell (p := ⟨w.heap.size, 2, none⟩) (fun _ => rfl) _) (fun j hj e => by omega)⟩; have HCS1 : Hk (CmB (w1.setCell ⟨w.heap.size, 2, none⟩ (.int .i64 z1)) w.heap.size 0 0 z1 0 none 0 0 0 0 0 0 0) := ⟨⟨by go_simp, by go_simp, by go_simp, by go_simp, by go_simp, by go_simp, by go_simp, by go_simp, by go_simp, by go_simp, fun j => by have := HCB1.out.fz j; go_simp⟩⟩) | (go_at_call 60; (with_reducible refine (parts_no z1 _ ?_).mono ?_); (have h0 := HK.out; rw [HX1.out] at h0; simp at h0; omega); rintro e w' ⟨rfl, rfl⟩))
    have he1 : e1 ≠ 0 := rdV_err HX1.out (by have h0 := HK.out; rw [HX1.out] at h0; simp at h0; omega)
    have he2 : e2 = e1 := rdV_stay HX2.out he1
    have he3 : e3 = e1 := (rdV_stay HX3.out (by omega)).trans he2
    have HE : Hk (e3 ≠ 0) := ⟨by omega⟩
    have hb : (e3 != 0) = true := by simp; omega
    have hb' : (e3 == 0) = false := by simp; omega
    have HPR : Hk ((parC xs).2.2.2.2.2 = e3) := ⟨by
      unfold parC
      rw [HX1.out]; dsimp only
      rw [HX2.out]; dsimp only
      rw [HX3.out]; dsimp only
      rw [partsL_none (by have h0 := HK.out; rw [HX1.out] at h0; simp at h0; omega)]; rfl⟩
    clear he1 he2 he3 b0 b1 b2 b3 b4 b5 b6 b7 b8 b9 g
    have hS3 : Hk (Fr (fun j => w.heap.size ≤ j) w (w3.setCell ⟨w.heap.size, 1, none⟩ (.int .i64 z3))) := ⟨(((((((Fr.of_below HBW.out).andThen HFR1.out (fun j _ e => by omega)).setCell (p := ⟨w.heap.size, 2, none⟩) (fun _ => Nat.le_refl _) (.int .i64 z1)).andThen HFR2.out (fun j _ e => by omega)).setCell (p := ⟨w.heap.size, 0, none⟩) (fun _ => Nat.le_refl _) (.int .i64 z2)).andThen HFR3.out (fun j _ e => by omega)).setCell (p := ⟨w.heap.size, 1, none⟩) (fun _ => Nat.le_refl _) _)⟩
    clear HCS1 HCS2 HRS1 HRS2 HRB1 HRB2 HRB3 HFR1 HFR2 HFR3 HCB1 HCB2 HCB3
    generalize w3.setCell ⟨w.heap.size, 1, none⟩ (.int .i64 z3) = wr at *
    obtain ⟨b0, b1, b2, b3, b4, b5, b6, b7, b8, b9, bf⟩ := HCS3.out
    have g0 := bf 0; have g1 := bf 1; have g2 := bf 2; have g3 := bf 3; have g4 := bf 4; have g5 := bf 5; have g6 := bf 6; have g7 := bf 7; have g8 := bf 8; have g9 := bf 9
    clear bf
    refine wp_loop_rounds 1 ?_
    rw [rounds_succ]
    go_wp2_with (go_at_call 77; (with_reducible refine (coerror_any w.heap.size (w.heap.size + 1) a0 n0 c0 xs at3 e3 _ HRS3.out).mono ?_); rintro o w' ⟨rfl, rfl⟩)
    refine bodyPost_ret (v := .tuple #[.agg #[.int .i64 0, .int .i64 0, .int .i64 0, .int .i64 0, .slice none 0 0, .int .i64 0, .int .i64 0, .int .i64 0, .int .i64 0, .int .i64 0], .int .i64 0, .int .i64 e3]) (by simp [results, Try.results25, go_sem, b0, b1, b2, b3, b4, b5, b6, b7, b8, b9]) rfl ⟨?_, .inl ⟨e3, HE.out, HPR.out, rfl⟩⟩
    refine Fr.below (M := fun j => w.heap.size ≤ j) ?_ (Nat.le_refl _) (fun j hj h => h)
    refine Fr.setCell ?_ (by intro _; exact Nat.le_refl _) _; refine Fr.setCell ?_ (by intro _; exact Nat.le_refl _) _; refine Fr.setCell ?_ (by intro _; exact Nat.le_refl _) _; refine Fr.setCell ?_ (by intro _; exact Nat.le_refl _) _; refine Fr.setCell ?_ (by intro _; exact Nat.le_refl _) _; refine Fr.setCell ?_ (by intro _; exact Nat.le_refl _) _; refine Fr.setCell ?_ (by intro _; exact Nat.le_refl _) _; refine Fr.setCell ?_ (by intro _; exact Nat.le_refl _) _; refine Fr.setCell ?_ (by intro _; exact Nat.le_refl _) _; refine Fr.setCell ?_ (by intro _; exact Nat.le_refl _) _; exact hS3.out
  · have hkr : 1 ≤ (rdV false xs 1 7 0 0).1 ∧ (rdV false xs 1 7 0 0).1 ≤ 7 := by omega
    have HK := Hk.mk hkr
    clear hkz hz0 hkr
    go_enter Try.func25, Try.ntmps25
    go_wp2_with (first | (go_at_call 74; (with_reducible refine (coopen_any a0 n0 c0 _).mono ?_); rintro e w' ⟨rfl, rfl⟩) | (go_at_call 75; (with_reducible refine (cornum_any 0 1099511627776 w.heap.size (w.heap.size + 1) a0 n0 c0 xs at2 e2 _ HRS2.out).mono ?_); rintro o w3 ⟨z3, at3, e3, rfl, hr, hrb, hfr, hsz⟩; have HX3 := Hk.mk hr; have HRB3 := Hk.mk hrb; have HFR3 := Hk.mk hfr; have HSZ3 := Hk.mk hsz; have HCB3 := Hk.mk (HCS2.out.fr hfr (show ¬ w.heap.size = (w.heap.size + 1) by omega)); (try clear b0 b1 b2 b3 b4 b5 b6 b7 b8 b9 g); obtain ⟨b0, b1, b2, b3, b4, b5, b6, b7, b8, b9, bf⟩ := HCB3.out; have g := bf 1; clear bf hr hrb hfr hsz; have HRS3 : Hk (RdB (w3.setCell ⟨w.heap.size, 1, none⟩ (.int .i64 z3)) w.heap.size (w.heap.size + 1) a0 n0 c0 xs at3 e3) := ⟨HRB3.out.fr ((Fr.refl (fun j => j = w.heap.size) w3).setCell (p := ⟨w.heap.size, 1, none⟩) (fun _ => rfl) _) (fun j hj e => by omega)⟩; have HCS3 : Hk (CmB (w3.setCell ⟨w.heap.size, 1, none⟩ (.int .i64 z3)) w.heap.size z2 z3 z1 0 none 0 0 0 0 0 0 0) := ⟨⟨by go_simp, by go_simp, by go_simp, by go_simp, by go_simp, by go_simp, by go_simp, by go_simp, by go_simp, by go_simp, fun j => by have := HCB3.out.fz j; go_simp⟩⟩) | (go_at_call 75; (with_reducible refine (cornum_any 1 8 w.heap.size (w.heap.size + 1) a0 n0 c0 xs at1 e1 _ HRS1.out).mono ?_); rintro o w2 ⟨z2, at2, e2, rfl, hr, hrb, hfr, hsz⟩; have HX2 := Hk.mk hr; have HRB2 := Hk.mk hrb; have HFR2 := Hk.mk hfr; have HSZ2 := Hk.mk hsz; have HCB2 := Hk.mk (HCS1.out.fr hfr (show ¬ w.heap.size = (w.heap.size + 1) by omega)); (try clear b0 b1 b2 b3 b4 b5 b6 b7 b8 b9 g); obtain ⟨b0, b1, b2, b3, b4, b5, b6, b7, b8, b9, bf⟩ := HCB2.out; have g := bf 0; clear bf hr hrb hfr hsz; have HRS2 : Hk (RdB (w2.setCell ⟨w.heap.size, 0, none⟩ (.int .i64 z2)) w.heap.size (w.heap.size + 1) a0 n0 c0 xs at2 e2) := ⟨HRB2.out.fr ((Fr.refl (fun j => j = w.heap.size) w2).setCell (p := ⟨w.heap.size, 0, none⟩) (fun _ => rfl) _) (fun j hj e => by omega)⟩; have HCS2 : Hk (CmB (w2.setCell ⟨w.heap.size, 0, none⟩ (.int .i64 z2)) w.heap.size z2 0 z1 0 none 0 0 0 0 0 0 0) := ⟨⟨by go_simp, by go_simp, by go_simp, by go_simp, by go_simp, by go_simp, by go_simp, by go_simp, by go_simp, by go_simp, fun j => by have := HCB2.out.fz j; go_simp⟩⟩) | (go_at_call 75; (with_reducible refine (cornum_any 1 7 w.heap.size (w.heap.size + 1) a0 n0 c0 xs 0 0 _ HR0.out).mono ?_); rintro o w1 ⟨z1, at1, e1, rfl, hr, hrb, hfr, hsz⟩; have HX1 := Hk.mk hr; have HRB1 := Hk.mk hrb; have HFR1 := Hk.mk hfr; have HSZ1 := Hk.mk hsz; have HCB1 := Hk.mk (HC0.out.fr hfr (show ¬ w.heap.size = (w.heap.size + 1) by omega)); (try clear b0 b1 b2 b3 b4 b5 b6 b7 b8 b9 g); obtain ⟨b0, b1, b2, b3, b4, b5, b6, b7, b8, b9, bf⟩ := HCB1.out; have g := bf 2; clear bf hr hrb hfr hsz; have HRS1 : Hk (RdB (w1.setCell ⟨w.heap.size, 2, none⟩ (.int .i64 z1)) w.heap.size (w.heap.size + 1) a0 n0 c0 xs at1 e1) := ⟨HRB1.out.fr ((Fr.refl (fun j => j = w.heap.size) w1).setCell (p := ⟨w.heap.size, 2, none⟩) (fun _ => rfl) _) (fun j hj e => by omega)⟩; have HCS1 : Hk (CmB (w1.setCell ⟨w.heap.size, 2, none⟩ (.int .i64 z1)) w.heap.size 0 0 z1 0 none 0 0 0 0 0 0 0) := ⟨⟨by go_simp, by go_simp, by go_simp, by go_simp, by go_simp, by go_simp, by go_simp, by go_simp, by go_simp, by go_simp, fun j => by have := HCB1.out.fz j; go_simp⟩⟩) | (go_at_call 60; (with_reducible refine (parts_any z1 _ ?_ ?_).mono ?_); (have h0 := HK.out; rw [HX1.out] at h0; exact h0.1); (have h0 := HK.out; rw [HX1.out] at h0; exact h0.2); rintro e w4 ⟨b, nn, L, rfl, hL, hlen, hnq, hb4, hbb, hlt, -⟩; have HLQ := Hk.mk hnq; have HL := Hk.mk hL; have HB4 := Hk.mk hb4; have HBB := Hk.mk hbb; have hn2 : nn ≤ 2 := (by have := (partsL_bd z1).1; rw [hL, hlen] at this; exact this); clear hL hlen hnq hb4 hbb))
    clear b0 b1 b2 b3 b4 b5 b6 b7 b8 b9 g
    have hS3 : Hk (Fr (fun j => w.heap.size ≤ j) w (w3.setCell ⟨w.heap.size, 1, none⟩ (.int .i64 z3))) := ⟨(((((((Fr.of_below HBW.out).andThen HFR1.out (fun j _ e => by omega)).setCell (p := ⟨w.heap.size, 2, none⟩) (fun _ => Nat.le_refl _) (.int .i64 z1)).andThen HFR2.out (fun j _ e => by omega)).setCell (p := ⟨w.heap.size, 0, none⟩) (fun _ => Nat.le_refl _) (.int .i64 z2)).andThen HFR3.out (fun j _ e => by omega)).setCell (p := ⟨w.heap.size, 1, none⟩) (fun _ => Nat.le_refl _) _)⟩
    have hsz3 : Hk ((w3.setCell ⟨w.heap.size, 1, none⟩ (.int .i64 z3)).heap.size = w.heap.size + 2) := ⟨by have h1 := HSZ1.out; have h2 := HSZ2.out; have h3 := HSZ3.out; simp at h1 h2 h3 ⊢; omega⟩
    clear HRS1 HRS2 HRB1 HRB2 HRB3 HFR1 HFR2 HFR3 HCB1 HCB2 HCB3 HCS1 HCS2 HSZ1 HSZ2 HSZ3 HBW HR0 HC0
    generalize w3.setCell ⟨w.heap.size, 1, none⟩ (.int .i64 z3) = W3 at *
    have hbe : b = w.heap.size + 2 := by rw [HBB.out, hsz3.out]
    subst hbe
    have HRS4 : Hk (RdB w4 w.heap.size (w.heap.size + 1) a0 n0 c0 xs at3 e3) := ⟨HRS3.out.fr (Fr.of_below HB4.out) (fun j hj h => by have := hsz3.out; omega)⟩
    have HCS4 : Hk (CmB w4 w.heap.size z2 z3 z1 0 none 0 0 0 0 0 0 0) := ⟨HCS3.out.below HB4.out (by have := hsz3.out; omega)⟩
    have hS4 : Hk (Fr (fun j => w.heap.size ≤ j) w w4) := ⟨hS3.out.andThen (Fr.of_below HB4.out) (fun j hj h => by have := hsz3.out; omega)⟩
    have HLB : Hk (L.length = nn ∧ ∀ q ∈ L, 0 ≤ q ∧ q ≤ 5) := ⟨⟨HLQ.out.len, by rw [← HL.out]; exact (partsL_bd z1).2⟩⟩
    obtain ⟨FF, hFF⟩ : ∃ FF, rdL xs L zeroF at3 e3 = FF := ⟨_, rfl⟩
    have HPR : Hk (parC xs = (z1, z2, z3, FF)) := ⟨by
      unfold parC
      rw [HX1.out]; dsimp only
      rw [HX2.out]; dsimp only
      rw [HX3.out]; dsimp only
      rw [HL.out, hFF]⟩
    have HFF := Hk.mk hFF
    clear hFF HX1 HX2 HX3 HRS3 HCS3 hS3 HB4 HBB HK hsz3
    go_loopw [24] (fun i wr => ∃ (j : Nat) (n : Int) (a : Option Addr) (m c : Nat) (u : List Int) (t wd h x y : Int) (at' : Nat) (e' : Int), i = .int .i64 j ∧ j ≤ nn ∧ Hk (CmB wr w.heap.size z2 z3 z1 n a m c t wd h x y) ∧ Hk (OwnI wr (w.heap.size + 2) (.slice a m c) m u) ∧ Hk (RdB wr w.heap.size (w.heap.size + 1) a0 n0 c0 xs at' e') ∧ Hk (Fr (fun j => j = (w.heap.size + 1) ∨ j = w.heap.size) w4 wr) ∧ Hk (j = 0 → a = none ∧ m = 0 ∧ c = 0 ∧ u = []) ∧ Hk (rdL xs (L.drop j) ⟨n, u, t, wd, h, x, y⟩ at' e' = FF)) (fun i _ => nn - (intOf i).toNat)
    case atStart => exact ⟨0, 0, none, 0, 0, [], 0, 0, 0, 0, 0, at3, e3, rfl, by omega, HCS4, ⟨OwnI.nil _ _⟩, HRS4, ⟨Fr.refl _ _⟩, ⟨fun _ => ⟨rfl, rfl, rfl, rfl⟩⟩, ⟨by simpa [zeroF] using HFF.out⟩⟩
    case round =>
      clear HCS4 HRS4 HFF
      obtain ⟨j, n, a, m, c, u, t, wd, h, x, y, at', e', rfl, hj, HC, HO, HR, HF, H0, HFF⟩ := hrel
      have hws : w.heap.size + 2 < wr.heap.size := by have := HF.out.size; omega
      by_cases hlt2 : j < nn
      · have i1 : (0 : Int) ≤ (j : Int) := by omega
        have i2 : (j : Int) < (nn : Int) := by omega
        obtain ⟨b', off', eb, hbl, hc⟩ := HLQ.out.rd (by omega)
        injection eb with eb
        injection eb with eb1 eb2
        subst eb1 eb2
        have hq := (HF.out.cell (o := 0 + j) hlt (by omega)).trans (hc j hlt2)
        simp only [Nat.zero_add] at hq
        clear hc
        have hr := HFF.out
        rw [drop_getD (by rw [HLB.out.1]; exact hlt2), rdL] at hr
        obtain ⟨q0, q5⟩ := HLB.out.2 _ (getD_mem (xs := L) (k := j) (by rw [HLB.out.1]; exact hlt2))
        have h2 : Hk (L.getD j 0 = 2 → a = none ∧ m = 0 ∧ c = 0 ∧ u = []) := ⟨fun h2 => H0.out (partsL_two z1 j (by rw [HL.out, HLB.out.1]; exact hlt2) (by rw [HL.out]; exact h2))⟩
        generalize L.getD j 0 = q at *
        have HRR := Hk.mk hr
        clear hr
        go_wp2_with (go_at_call 76; (with_reducible refine (read_any q w.heap.size (w.heap.size + 2) w.heap.size (w.heap.size + 1) a0 n0 c0 xs at' e' z2 z3 z1 n a m c u t wd h x y _ q0 q5 h2.out (Nat.le_refl _) (by omega) (by omega) (by omega) (by omega) HC HO HR).mono ?_); rintro o w5 ⟨n', a', m', c', u', t', wd', h', x', y', at5, e5, rfl, hr5, hc5, ho5, hrb5, hf5⟩; have HR5 := Hk.mk hr5; have HC5 := Hk.mk hc5; have HO5 := Hk.mk ho5; have HRB5 := Hk.mk hrb5; have HF5 := Hk.mk hf5; clear hr5 hc5 ho5 hrb5 hf5)
        go_roundw
        case rel => exact ⟨j + 1, n', a', m', c', u', t', wd', h', x', y', at5, e5, by go_num, by omega, HC5, HO5, HRB5, ⟨HF.out.trans HF5.out⟩, ⟨fun h => absurd h (by omega)⟩, ⟨by have h1 := HRR.out; rw [HR5.out] at h1; exact h1⟩⟩
        case measure => simp [intOf]; omega
      · have hjn : j = nn := by omega
        subst hjn
        have hFF := HFF.out
        rw [List.drop_of_length_le (by rw [HLB.out.1]; omega), rdL] at hFF
        subst hFF
        obtain ⟨b0, b1, b2, b3, b4, b5, b6, b7, b8, b9, bf⟩ := HC.out
        have g0 := bf 0; have g1 := bf 1; have g2 := bf 2; have g3 := bf 3; have g4 := bf 4; have g5 := bf 5; have g6 := bf 6; have g7 := bf 7; have g8 := bf 8; have g9 := bf 9
        clear bf
        have hSr : Hk (Fr (fun j => w.heap.size ≤ j) w wr) := ⟨hS4.out.andThen HF.out (fun j hj h => by omega)⟩
        have hcw : w.heap.size < wr.heap.size := by omega
        by_cases he : e' = 0
        · subst he
          go_wp2_with (go_at_call 77; (with_reducible refine (coerror_any w.heap.size (w.heap.size + 1) a0 n0 c0 xs at' 0 _ HR.out).mono ?_); rintro o w' ⟨rfl, rfl⟩)
          have hdr : Fr (fun _ => False) wr wr.drew := (Fr.refl _ wr).drew
          have HRq := Hk.mk (HR.out.fr hdr (fun _ _ x => x))
          have HCq := Hk.mk (HC.out.fr hdr (fun x => x))
          have HOq := Hk.mk (Fr.owni HO.out hdr (fun _ _ x => x))
          have HSq := Hk.mk (hSr.out.drew)
          have hcq : w.heap.size < wr.drew.heap.size := hcw
          have OL : Hk (m ≤ c) := ⟨by obtain ⟨_, _, e1, h1, _⟩ := HO.out.nq; injection e1 with e1 e2 e3; omega⟩
          obtain ⟨d0, d1, d2, d3, d4, d5, d6, d7, d8, d9, df⟩ := HCq.out
          have q0 : ({ wr with drawn := wr.drawn + 1 } : World).cell? ⟨w.heap.size, 0, none⟩ = _ := d0; have q1 : ({ wr with drawn := wr.drawn + 1 } : World).cell? ⟨w.heap.size, 1, none⟩ = _ := d1; have q2 : ({ wr with drawn := wr.drawn + 1 } : World).cell? ⟨w.heap.size, 2, none⟩ = _ := d2; have q3 : ({ wr with drawn := wr.drawn + 1 } : World).cell? ⟨w.heap.size, 3, none⟩ = _ := d3; have q4 : ({ wr with drawn := wr.drawn + 1 } : World).cell? ⟨w.heap.size, 4, none⟩ = _ := d4; have q5 : ({ wr with drawn := wr.drawn + 1 } : World).cell? ⟨w.heap.size, 5, none⟩ = _ := d5; have q6 : ({ wr with drawn := wr.drawn + 1 } : World).cell? ⟨w.heap.size, 6, none⟩ = _ := d6; have q7 : ({ wr with drawn := wr.drawn + 1 } : World).cell? ⟨w.heap.size, 7, none⟩ = _ := d7; have q8 : ({ wr with drawn := wr.drawn + 1 } : World).cell? ⟨w.heap.size, 8, none⟩ = _ := d8; have q9 : ({ wr with drawn := wr.drawn + 1 } : World).cell? ⟨w.heap.size, 9, none⟩ = _ := d9
          have r0 := df 0; have r1 := df 1; have r2 := df 2; have r3 := df 3; have r4 := df 4; have r5 := df 5; have r6 := df 6; have r7 := df 7; have r8 := df 8; have r9 := df 9
          clear hdr df b0 g0 b1 g1 b2 g2 b3 g3 b4 g4 b5 g5 b6 g6 b7 g7 b8 g8 b9 g9
          go_still_tail 3, (by kernel_rfl)
          repeat still_step
          still_call (cosize_any w.heap.size (w.heap.size + 1) a0 n0 c0 xs at' 0 _ HRq.out)
          repeat still_step
          refine wpStill_nil ?_
          change wpList _ _ _ _ _ wr.drew
          clear q0 q1 q2 q3 q4 q5 q6 q7 q8 q9
          clear HC HO HR HF hSr
          generalize wr.drew = wq at *
          go_wp2
          refine bodyPost_ret (v := .tuple #[.agg #[.int .i64 z2, .int .i64 z3, .int .i64 z1, .int .i64 n, .slice a m c, .int .i64 t, .int .i64 wd, .int .i64 h, .int .i64 x, .int .i64 y], .int .i64 (at' : Nat), .int .i64 0]) (by simp [results, Try.results25, go_sem, d0, d1, d2, d3, d4, d5, d6, d7, d8, d9]) rfl ⟨?_, .inr ⟨z2, z3, z1, n, a, m, c, u, t, wd, h, x, y, at', HPR.out, OwnI.weak (Fr.owni (M := fun j => j = w.heap.size) HOq.out ?_ ?_) (by omega), OL.out, rfl⟩⟩
          · refine Fr.below (M := fun j => w.heap.size ≤ j) ?_ (Nat.le_refl _) (fun j hj h => h)
            refine Fr.setCell ?_ (by intro _; exact Nat.le_refl _) _; refine Fr.setCell ?_ (by intro _; exact Nat.le_refl _) _; refine Fr.setCell ?_ (by intro _; exact Nat.le_refl _) _; refine Fr.setCell ?_ (by intro _; exact Nat.le_refl _) _; refine Fr.setCell ?_ (by intro _; exact Nat.le_refl _) _; refine Fr.setCell ?_ (by intro _; exact Nat.le_refl _) _; refine Fr.setCell ?_ (by intro _; exact Nat.le_refl _) _; refine Fr.setCell ?_ (by intro _; exact Nat.le_refl _) _; refine Fr.setCell ?_ (by intro _; exact Nat.le_refl _) _; refine Fr.setCell ?_ (by intro _; exact Nat.le_refl _) _; exact HSq.out
          · refine Fr.setCell ?_ (by intro _; exact rfl) _; refine Fr.setCell ?_ (by intro _; exact rfl) _; refine Fr.setCell ?_ (by intro _; exact rfl) _; refine Fr.setCell ?_ (by intro _; exact rfl) _; refine Fr.setCell ?_ (by intro _; exact rfl) _; refine Fr.setCell ?_ (by intro _; exact rfl) _; refine Fr.setCell ?_ (by intro _; exact rfl) _; refine Fr.setCell ?_ (by intro _; exact rfl) _; refine Fr.setCell ?_ (by intro _; exact rfl) _; refine Fr.setCell ?_ (by intro _; exact rfl) _; exact Fr.refl _ _
          · intro q hq h
            have := (HOq.out.lt q hq).1
            omega
        · have hb : (e' != 0) = true := by simp; omega
          have hb' : (e' == 0) = false := by simp; omega
          have HE := Hk.mk he
          have HPR : Hk ((parC xs).2.2.2.2.2 = e') := ⟨by rw [HPR.out]⟩
          clear he
          go_wp2_with (go_at_call 77; (with_reducible refine (coerror_any w.heap.size (w.heap.size + 1) a0 n0 c0 xs at' e' _ HR.out).mono ?_); rintro o w' ⟨rfl, rfl⟩)
          refine bodyPost_ret (v := .tuple #[.agg #[.int .i64 0, .int .i64 0, .int .i64 0, .int .i64 0, .slice none 0 0, .int .i64 0, .int .i64 0, .int .i64 0, .int .i64 0, .int .i64 0], .int .i64 0, .int .i64 e']) (by simp [results, Try.results25, go_sem, b0, b1, b2, b3, b4, b5, b6, b7, b8, b9]) rfl ⟨?_, .inl ⟨e', HE.out, HPR.out, rfl⟩⟩
          refine Fr.below (M := fun j => w.heap.size ≤ j) ?_ (Nat.le_refl _) (fun j hj h => h)
          refine Fr.setCell ?_ (by intro _; exact Nat.le_refl _) _; refine Fr.setCell ?_ (by intro _; exact Nat.le_refl _) _; refine Fr.setCell ?_ (by intro _; exact Nat.le_refl _) _; refine Fr.setCell ?_ (by intro _; exact Nat.le_refl _) _; refine Fr.setCell ?_ (by intro _; exact Nat.le_refl _) _; refine Fr.setCell ?_ (by intro _; exact Nat.le_refl _) _; refine Fr.setCell ?_ (by intro _; exact Nat.le_refl _) _; refine Fr.setCell ?_ (by intro _; exact Nat.le_refl _) _; refine Fr.setCell ?_ (by intro _; exact Nat.le_refl _) _; refine Fr.setCell ?_ (by intro _; exact Nat.le_refl _) _; exact hSr.out
end Go.Proofs.Ytejilcnldllhpaa
/- What was written is read again: commands. -/
namespace Go.Proofs.Ytejilcnldllhpaa
set_option linter.unusedVariables false
theorem rdV_num {xs rest : List Int} {lo hi z : Int} {at_ : Nat} (h0 : 0 ≤ z) (h1 : lo ≤ z) (h2 : z ≤ hi) (hz : z ≤ 1099511627776) (hd : xs.drop at_ = Wr.numL z.toNat ++ rest) :
    rdV false xs lo hi at_ 0 = (z, at_ + (Wr.numL z.toNat).length, 0) := by
  unfold rdV
  rw [hd, Wr.getS_num (by omega)]
  unfold stpC
  have e : ((z.toNat : Nat) : Int) = z := by omega
  simp [e]
  omega
theorem rdV_int {xs rest : List Int} {lo hi z : Int} {at_ : Nat} (h1 : lo ≤ z) (h2 : z ≤ hi) (hz : -1099511627776 ≤ z ∧ z ≤ 1099511627776) (hd : xs.drop at_ = Wr.numL (Wr.zig z) ++ rest) :
    rdV true xs lo hi at_ 0 = (z, at_ + (Wr.numL (Wr.zig z)).length, 0) := by
  unfold rdV
  rw [hd, Wr.getS_num (by unfold Wr.zig; split <;> omega)]
  unfold stpC
  have e := Wr.unzig_zig z
  simp [e]
  omega
theorem drop_more {xs a rest : List Int} {at_ : Nat} (hd : xs.drop at_ = a ++ rest) : xs.drop (at_ + a.length) = rest := by
  rw [← List.drop_drop, hd, List.drop_left]
theorem rdU_num {xs : List Int} {u : List Int} : ∀ {last : Int} {rest : List Int} {at_ : Nat}, ascL last u = true → 0 ≤ last → xs.drop at_ = uL u ++ rest → rdU xs u.length last at_ 0 = (u, at_ + (uL u).length, 0) := by
  induction u with
  | nil => intro last rest at_ _ _ hd; simp [rdU, uL]
  | cons a u ih =>
    intro last rest at_ ha hl hd
    unfold ascL at ha
    simp at ha
    have hd' : xs.drop at_ = Wr.numL a.toNat ++ (uL u ++ rest) := by rw [hd]; simp [uL]
    have h1 := rdV_num (lo := last + 1) (hi := 1099511627776) (z := a) (by omega) (by omega) (by omega) (by omega) hd'
    have h2 := ih (last := a) (rest := rest) (at_ := at_ + (Wr.numL a.toNat).length) ha.2 (by omega) (drop_more hd')
    simp only [List.length_cons, rdU, h1, h2]
    simp [uL]; omega
def setF (q : Int) (f f0 : CF) : CF :=
  if q = 0 then { f0 with n := f.n } else if q = 1 then { f0 with n := f.n } else if q = 2 then { f0 with u := f.u } else if q = 3 then { f0 with t := f.t } else if q = 4 then { f0 with w := f.w, h := f.h } else { f0 with x := f.x, y := f.y }
theorem rdP_set {q : Int} {f f0 : CF} {xs rest : List Int} {at_ : Nat} (hv : vB q f = true) (h0 : q = 2 → f0.u = []) (hd : xs.drop at_ = wrB q f ++ rest) : rdP xs q f0 at_ 0 = (setF q f f0, at_ + (wrB q f).length, 0) := by
  unfold vB at hv
  unfold wrB at hd
  unfold rdP setF wrB
  by_cases q0 : q = 0
  · simp only [q0, ↓reduceIte] at *
    simp at hv
    rw [rdV_num (z := f.n) (by omega) (by omega) (by omega) (by omega) hd]
  by_cases q1 : q = 1
  · simp only [q1, ↓reduceIte] at *
    simp at hv hd ⊢
    rw [rdV_num (z := f.n) (by omega) (by omega) (by omega) (by omega) hd]
    simp
  by_cases q2 : q = 2
  · simp only [q2, ↓reduceIte] at *
    simp at hv hd ⊢
    unfold idsB at hv
    simp at hv
    have hd' : xs.drop at_ = Wr.numL (f.u.length : Int).toNat ++ (uL f.u ++ rest) := by simpa using hd
    have h1 := rdV_num (lo := 1) (hi := 64) (z := (f.u.length : Int)) (by omega) (by omega) (by omega) (by omega) hd'
    rw [h1]
    have h2 := rdU_num (u := f.u) (last := 0) (rest := rest) hv.2 (by omega) (drop_more hd')
    simp at h2 ⊢
    rw [h2]
    simp [h0]; omega
  by_cases q3 : q = 3
  · simp only [q3, ↓reduceIte] at *
    simp at hv hd ⊢
    rw [rdV_num (z := f.t) (by omega) (by omega) (by omega) (by omega) hd]
    simp
  by_cases q4 : q = 4
  · simp only [q4, ↓reduceIte] at *
    simp at hv hd ⊢
    have h1 := rdV_num (lo := 1) (hi := 4) (z := f.w) (by omega) (by omega) (by omega) (by omega) hd
    rw [h1]
    have h2 := rdV_num (lo := 1) (hi := 4) (z := f.h) (by omega) (by omega) (by omega) (by omega) (drop_more hd)
    rw [h2]
    simp; omega
  · simp only [q0, q1, q2, q3, q4, ↓reduceIte] at *
    simp at hv hd ⊢
    have h1 := rdV_int (lo := -1099511627776) (hi := 1099511627776) (z := f.x) (by omega) (by omega) (by omega) hd
    rw [h1]
    have h2 := rdV_int (lo := -1099511627776) (hi := 1099511627776) (z := f.y) (by omega) (by omega) (by omega) (drop_more hd)
    rw [h2]
    simp; omega
theorem par_back {p s k : Int} {f : CF} {ys : List Int} (h : okC p s k f = true) : parC (bytesC p s k f ++ ys) = (k, p, s, f, (bytesC p s k f).length, 0) := by
  obtain ⟨⟨hp1, hp2, hs1, hs2⟩, ⟨hk1, hk2⟩, hv⟩ := okC_parts h
  have hr := h
  rw [refC_eq] at hr
  generalize hxs : bytesC p s k f ++ ys = xs
  have d0 : xs.drop 0 = Wr.numL k.toNat ++ (Wr.numL p.toNat ++ (Wr.numL s.toNat ++ (((partsL k).flatMap fun q => wrB q f) ++ ys))) := by rw [← hxs]; simp [bytesC]
  have e1 := rdV_num (lo := 1) (hi := 7) (z := k) (by omega) (by omega) (by omega) (by omega) d0
  have d1 := drop_more d0
  have e2 := rdV_num (lo := 1) (hi := 8) (z := p) (by omega) (by omega) (by omega) (by omega) d1
  have d2 := drop_more d1
  have e3 := rdV_num (lo := 0) (hi := 1099511627776) (z := s) (by omega) (by omega) (by omega) (by omega) d2
  have d3 := drop_more d2
  unfold parC
  simp only [e1, e2, e3]
  have hl : (bytesC p s k f).length = 0 + (Wr.numL k.toNat).length + (Wr.numL p.toNat).length + (Wr.numL s.toNat).length + ((partsL k).flatMap fun q => wrB q f).length := by simp [bytesC]; omega
  rw [hl]
  generalize 0 + (Wr.numL k.toNat).length + (Wr.numL p.toNat).length + (Wr.numL s.toNat).length = A at *
  clear hl hxs d0 d1 d2 e1 e2 e3
  unfold refC at hr
  simp only [Bool.and_eq_true] at hr
  replace hr := hr.2
  have two : ∀ q1 q2, partsL k = [q1, q2] → (q1 ≠ 2 → q2 ≠ 2) → q2 ≠ 2 → rdL xs (partsL k) zeroF A 0 = (setF q2 f (setF q1 f zeroF), A + ((partsL k).flatMap fun q => wrB q f).length, 0) := by
    intro q1 q2 e _ h2
    rw [e] at d3 hv ⊢
    simp at d3 hv
    have f1 := rdP_set (f0 := zeroF) hv.1 (fun _ => rfl) d3
    have f2 := rdP_set (f0 := setF q1 f zeroF) hv.2 (fun e => absurd e h2) (drop_more d3)
    simp only [rdL, f1, f2]
    simp; omega
  have one : ∀ q1, partsL k = [q1] → rdL xs (partsL k) zeroF A 0 = (setF q1 f zeroF, A + ((partsL k).flatMap fun q => wrB q f).length, 0) := by
    intro q1 e
    rw [e] at d3 hv ⊢
    simp at d3 hv
    have f1 := rdP_set (f0 := zeroF) hv (fun _ => rfl) d3
    simp only [rdL, f1]
    simp
  have hc : k = 1 ∨ k = 2 ∨ k = 3 ∨ k = 4 ∨ k = 5 ∨ k = 6 ∨ k = 7 := by omega
  obtain ⟨n, u, t, w, h', x, y⟩ := f
  rcases hc with rfl | rfl | rfl | rfl | rfl | rfl | rfl
  · rw [two 0 5 rfl (by simp) (by simp)]; simp at hr ⊢; simp [setF, zeroF]; first | omega | grind
  · rw [two 2 3 rfl (by simp) (by simp)]; simp at hr ⊢; simp [setF, zeroF]; first | omega | grind
  · rw [one 2 rfl]; simp at hr ⊢; simp [setF, zeroF]; first | omega | grind
  · rw [two 3 4 rfl (by simp) (by simp)]; simp at hr ⊢; simp [setF, zeroF]; first | omega | grind
  · rw [one 1 rfl]; simp at hr ⊢; simp [setF, zeroF]; first | omega | grind
  · rw [two 2 1 rfl (by simp) (by simp)]; simp at hr ⊢; simp [setF, zeroF]; first | omega | grind
  · rw [two 1 3 rfl (by simp) (by simp)]; simp at hr ⊢; simp [setF, zeroF]; first | omega | grind
end Go.Proofs.Ytejilcnldllhpaa
/- Numbers as bytes: what is read as a number are just its bytes. -/
namespace Go.Proofs.Ytejilcnldllhpaa
namespace Wr
theorem getG_bytes (xs : List Int) (hx : ∀ b ∈ xs, Fn.Byt b) : ∀ (fuel i : Nat) (acc n k : Int), getG xs fuel i acc = (n, k, 0) → ∃ m : Nat, n = acc + (m : Int) * 2 ^ (7 * i) ∧ (i : Int) < k ∧ (xs.drop i).take (k.toNat - i) = numL m ∧ (0 < i → 0 < m) := by
  intro fuel
  induction fuel with
  | zero =>
    intro i acc n k h
    unfold getG at h
    injection h with h1 h2; injection h2 with h2 h3
    split at h3 <;> omega
  | succ fuel ih =>
    intro i acc n k h
    unfold getG at h
    by_cases hi : i < xs.length
    · rw [if_pos hi] at h
      have hd : xs.drop i = xs.getD i 0 :: xs.drop (i + 1) := by
        rw [List.drop_eq_getElem_cons hi]; simp [List.getD, List.getElem?_eq_getElem hi]
      have hb : Fn.Byt (xs.getD i 0) := hx _ (by
        have : xs.getD i 0 = xs[i] := by simp [List.getD, List.getElem?_eq_getElem hi]
        rw [this]; exact List.getElem_mem hi)
      unfold Fn.Byt at hb
      generalize xs.getD i 0 = x at *
      by_cases hl : x < 128
      · rw [if_pos hl] at h
        by_cases h0 : x = 0 ∧ 0 < i
        · rw [if_pos h0] at h
          injection h with h1 h2; injection h2 with h2 h3; omega
        · rw [if_neg h0] at h
          injection h with h1 h2
          injection h2 with h2 h3
          refine ⟨x.toNat, ?_, by omega, ?_, by omega⟩
          · rw [← h1, show (x.toNat : Int) = x % 128 by omega]
          · rw [hd, ← h2, show ((i : Int) + 1).toNat - i = 1 by omega, numL_low (by omega)]
            simp; omega
      · rw [if_neg hl] at h
        obtain ⟨m, hm1, hm2, hm3, hm4⟩ := ih (i + 1) _ n k h
        have hm0 := hm4 (by omega)
        refine ⟨(x % 128).toNat + 128 * m, ?_, by omega, ?_, by omega⟩
        · rw [hm1, show 7 * (i + 1) = 7 * i + 7 by omega, Int.pow_add]
          have e : (((x % 128).toNat + 128 * m : Nat) : Int) = x % 128 + 128 * m := by omega
          rw [e]
          grind
        · rw [hd, show k.toNat - i = (k.toNat - (i + 1)) + 1 by omega, List.take_succ_cons, hm3, numL_high (n := (x % 128).toNat + 128 * m) (by omega)]
          rw [show ((x % 128).toNat + 128 * m) / 128 = m by omega]
          congr 1
          omega
    · rw [if_neg hi] at h
      injection h with h1 h2; injection h2 with h2 h3
      split at h3 <;> omega
theorem getS_bytes {xs : List Int} (hx : ∀ b ∈ xs, Fn.Byt b) {n k : Int} (h : getS xs = (n, k, 0)) : xs.take k.toNat = numL n.toNat ∧ 0 ≤ n := by
  obtain ⟨m, h1, h2, h3, h4⟩ := getG_bytes xs hx 9 0 0 n k h
  simp at h1 h3
  subst h1
  exact ⟨by simpa using h3, by omega⟩
theorem zig_unzig {n : Int} (h : 0 ≤ n) : zig (unzig n) = n.toNat := by unfold zig unzig; (repeat' split) <;> omega
end Wr
end Go.Proofs.Ytejilcnldllhpaa
/- What was read as a command are just its bytes; what is cut off is no command. -/
namespace Go.Proofs.Ytejilcnldllhpaa
set_option linter.unusedVariables false
theorem stpC_ok {N K E lo hi : Int} {at_ : Nat} {e z : Int} {at' : Nat} (h : stpC N K E lo hi at_ e = (z, at', 0)) : e = 0 ∧ E = 0 ∧ z = N ∧ lo ≤ z ∧ z ≤ hi ∧ at' = at_ + K.toNat := by
  unfold stpC at h
  (repeat' split at h) <;> (injection h with h1 h2; injection h2 with h2 h3)
  · omega
  · omega
  · omega
  · rename_i g1 g2 g3
    exact ⟨by omega, by omega, h1.symm, by omega, by omega, h2.symm⟩
theorem take_add {xs a : List Int} {at_ m : Nat} (h : (xs.drop at_).take m = a) : xs.take (at_ + m) = xs.take at_ ++ a := by
  rw [List.take_add, h]
theorem rdV_ok {xs : List Int} (hx : ∀ b ∈ xs, Fn.Byt b) {lo hi z : Int} {at_ at' : Nat} {e : Int} (h : rdV false xs lo hi at_ e = (z, at', 0)) : e = 0 ∧ lo ≤ z ∧ z ≤ hi ∧ 0 ≤ z ∧ xs.take at' = xs.take at_ ++ Wr.numL z.toNat := by
  unfold rdV at h
  obtain ⟨G, hG⟩ : ∃ G, Wr.getS (xs.drop at_) = G := ⟨_, rfl⟩
  obtain ⟨N, K, E⟩ := G
  rw [hG] at h
  obtain ⟨h1, h2, h3, h4, h5, h6⟩ := stpC_ok h
  simp at h2 h3 h6
  subst h2 h3 h6
  have hb := Wr.getS_bytes (fun b hb => hx b (List.mem_of_mem_drop hb)) hG
  exact ⟨h1, h4, h5, hb.2, take_add hb.1⟩
theorem rdV_oki {xs : List Int} (hx : ∀ b ∈ xs, Fn.Byt b) {lo hi z : Int} {at_ at' : Nat} {e : Int} (h : rdV true xs lo hi at_ e = (z, at', 0)) : e = 0 ∧ lo ≤ z ∧ z ≤ hi ∧ xs.take at' = xs.take at_ ++ Wr.numL (Wr.zig z) := by
  unfold rdV at h
  obtain ⟨G, hG⟩ : ∃ G, Wr.getS (xs.drop at_) = G := ⟨_, rfl⟩
  obtain ⟨N, K, E⟩ := G
  rw [hG] at h
  obtain ⟨h1, h2, h3, h4, h5, h6⟩ := stpC_ok h
  simp at h2 h3 h6
  subst h2 h6
  have hb := Wr.getS_bytes (fun b hb => hx b (List.mem_of_mem_drop hb)) hG
  refine ⟨h1, h4, h5, ?_⟩
  rw [h3, Wr.zig_unzig hb.2]
  exact take_add hb.1
theorem rdU_ok {xs : List Int} (hx : ∀ b ∈ xs, Fn.Byt b) : ∀ (k : Nat) {last : Int} {l : List Int} {at_ at' : Nat} {e : Int}, rdU xs k last at_ e = (l, at', 0) → e = 0 ∧ l.length = k ∧ ascL last l = true ∧ xs.take at' = xs.take at_ ++ uL l := by
  intro k
  induction k with
  | zero =>
    intro last l at_ at' e h
    simp [rdU] at h
    obtain ⟨rfl, rfl, rfl⟩ := h
    simp [ascL, uL]
  | succ k ih =>
    intro last l at_ at' e h
    obtain ⟨G, hG⟩ : ∃ G, rdV false xs (last + 1) 1099511627776 at_ e = G := ⟨_, rfl⟩
    obtain ⟨z, a1, e1⟩ := G
    simp only [rdU, hG] at h
    obtain ⟨G2, hG2⟩ : ∃ G, rdU xs k z a1 e1 = G := ⟨_, rfl⟩
    obtain ⟨l2, a2, e2⟩ := G2
    rw [hG2] at h
    injection h with h1 h2
    injection h2 with h2 h3
    simp at h1 h2 h3
    subst h1 h2 h3
    obtain ⟨rfl, b2, b3, b4⟩ := ih hG2
    obtain ⟨c1, c2, c3, c4, c5⟩ := rdV_ok hx hG
    refine ⟨c1, by simp [b2], by simp [ascL, b3]; omega, ?_⟩
    rw [b4, c5]
    simp [uL]
theorem rdP_ok {xs : List Int} (hx : ∀ b ∈ xs, Fn.Byt b) {q : Int} {f f' : CF} {at_ at' : Nat} {e : Int} (h0 : q = 2 → f.u = []) (h : rdP xs q f at_ e = (f', at', 0)) : e = 0 ∧ vB q f' = true ∧ xs.take at' = xs.take at_ ++ wrB q f' ∧ f' = setF q f' f := by
  unfold rdP at h
  unfold vB wrB setF
  by_cases q0 : q = 0
  · simp only [q0, ↓reduceIte] at *
    obtain ⟨⟨z, a1, e1⟩, hG⟩ : ∃ G, rdV false xs 0 3 at_ e = G := ⟨_, rfl⟩
    rw [hG] at h
    simp at h
    obtain ⟨rfl, rfl, rfl⟩ := h
    obtain ⟨c1, c2, c3, c4, c5⟩ := rdV_ok hx hG
    exact ⟨c1, by simp; omega, c5, rfl⟩
  by_cases q1 : q = 1
  · simp only [q1, ↓reduceIte] at *
    obtain ⟨⟨z, a1, e1⟩, hG⟩ : ∃ G, rdV false xs 1 1099511627776 at_ e = G := ⟨_, rfl⟩
    simp [hG] at h
    obtain ⟨rfl, rfl, rfl⟩ := h
    obtain ⟨c1, c2, c3, c4, c5⟩ := rdV_ok hx hG
    exact ⟨c1, by simp; omega, by simpa using c5, by simp⟩
  by_cases q2 : q = 2
  · simp only [q2, ↓reduceIte] at *
    obtain ⟨⟨z, a1, e1⟩, hG⟩ : ∃ G, rdV false xs 1 64 at_ e = G := ⟨_, rfl⟩
    obtain ⟨⟨l, a2, e2⟩, hU⟩ : ∃ G, rdU xs z.toNat 0 a1 e1 = G := ⟨_, rfl⟩
    simp [hG, hU, h0] at h
    obtain ⟨rfl, rfl, rfl⟩ := h
    obtain ⟨rfl, d2, d3, d4⟩ := rdU_ok hx _ hU
    obtain ⟨c1, c2, c3, c4, c5⟩ := rdV_ok hx hG
    refine ⟨c1, by simp [idsB, d3]; omega, ?_, by simp⟩
    rw [d4, c5, ← d2]
    simp
  by_cases q3 : q = 3
  · simp only [q3, ↓reduceIte] at *
    obtain ⟨⟨z, a1, e1⟩, hG⟩ : ∃ G, rdV false xs 0 16383 at_ e = G := ⟨_, rfl⟩
    simp [hG] at h
    obtain ⟨rfl, rfl, rfl⟩ := h
    obtain ⟨c1, c2, c3, c4, c5⟩ := rdV_ok hx hG
    exact ⟨c1, by simp; omega, by simpa using c5, by simp⟩
  by_cases q4 : q = 4
  · simp only [q4, ↓reduceIte] at *
    obtain ⟨⟨z, a1, e1⟩, hG⟩ : ∃ G, rdV false xs 1 4 at_ e = G := ⟨_, rfl⟩
    obtain ⟨⟨z2, a2, e2⟩, hG2⟩ : ∃ G, rdV false xs 1 4 a1 e1 = G := ⟨_, rfl⟩
    simp [hG, hG2] at h
    obtain ⟨rfl, rfl, rfl⟩ := h
    obtain ⟨rfl, d2, d3, d4, d5⟩ := rdV_ok hx hG2
    obtain ⟨c1, c2, c3, c4, c5⟩ := rdV_ok hx hG
    refine ⟨c1, by simp; omega, ?_, by simp⟩
    rw [d5, c5]; simp
  · simp only [q0, q1, q2, q3, q4, ↓reduceIte] at *
    obtain ⟨⟨z, a1, e1⟩, hG⟩ : ∃ G, rdV true xs (-1099511627776) 1099511627776 at_ e = G := ⟨_, rfl⟩
    obtain ⟨⟨z2, a2, e2⟩, hG2⟩ : ∃ G, rdV true xs (-1099511627776) 1099511627776 a1 e1 = G := ⟨_, rfl⟩
    simp [hG, hG2] at h
    obtain ⟨rfl, rfl, rfl⟩ := h
    obtain ⟨rfl, d2, d3, d4⟩ := rdV_oki hx hG2
    obtain ⟨c1, c2, c3, c4⟩ := rdV_oki hx hG
    refine ⟨c1, by simp; omega, ?_, by simp⟩
    rw [d4, c4]; simp
theorem par_ok {xs : List Int} (hx : ∀ b ∈ xs, Fn.Byt b) {p s k : Int} {f : CF} {at' : Nat} (h : parC xs = (k, p, s, f, at', 0)) : okC p s k f = true ∧ bytesC p s k f = xs.take at' := by
  unfold parC at h
  obtain ⟨⟨k1, a1, e1⟩, hK⟩ : ∃ G, rdV false xs 1 7 0 0 = G := ⟨_, rfl⟩
  obtain ⟨⟨p1, a2, e2⟩, hP⟩ : ∃ G, rdV false xs 1 8 a1 e1 = G := ⟨_, rfl⟩
  obtain ⟨⟨s1, a3, e3⟩, hS⟩ : ∃ G, rdV false xs 0 1099511627776 a2 e2 = G := ⟨_, rfl⟩
  simp only [hK, hP, hS] at h
  obtain ⟨⟨f1, a4, e4⟩, hL⟩ : ∃ G, rdL xs (partsL k1) zeroF a3 e3 = G := ⟨_, rfl⟩
  rw [hL] at h
  simp at h
  obtain ⟨rfl, rfl, rfl, rfl, rfl, rfl⟩ := h
  have one : ∀ q1, partsL k1 = [q1] → e3 = 0 ∧ vB q1 f1 = true ∧ xs.take a4 = xs.take a3 ++ wrB q1 f1 ∧ f1 = setF q1 f1 zeroF := by
    intro q1 e
    rw [e] at hL
    simp only [rdL] at hL
    obtain ⟨⟨g1, b1, c1⟩, hQ⟩ : ∃ G, rdP xs q1 zeroF a3 e3 = G := ⟨_, rfl⟩
    rw [hQ] at hL
    simp at hL
    obtain ⟨rfl, rfl, rfl⟩ := hL
    exact rdP_ok hx (fun _ => rfl) hQ
  have two : ∀ q1 q2, partsL k1 = [q1, q2] → q2 ≠ 2 → ∃ g1, e3 = 0 ∧ vB q1 g1 = true ∧ vB q2 f1 = true ∧ xs.take a4 = xs.take a3 ++ wrB q1 g1 ++ wrB q2 f1 ∧ g1 = setF q1 g1 zeroF ∧ f1 = setF q2 f1 g1 := by
    intro q1 q2 e hq
    rw [e] at hL
    simp only [rdL] at hL
    obtain ⟨⟨g1, b1, c1⟩, hQ⟩ : ∃ G, rdP xs q1 zeroF a3 e3 = G := ⟨_, rfl⟩
    rw [hQ] at hL
    obtain ⟨⟨g2, b2, c2⟩, hQ2⟩ : ∃ G, rdP xs q2 g1 b1 c1 = G := ⟨_, rfl⟩
    simp [hQ2] at hL
    obtain ⟨rfl, rfl, rfl⟩ := hL
    obtain ⟨rfl, y2, y3, y4⟩ := rdP_ok hx (fun e => absurd e hq) hQ2
    obtain ⟨z1, z2, z3, z4⟩ := rdP_ok hx (fun _ => rfl) hQ
    exact ⟨g1, z1, z2, y2, by rw [y3, z3], z4, y4⟩
  have none_ : partsL k1 = [] → e3 = 0 := by
    intro e
    rw [e] at hL
    simp [rdL] at hL
    exact hL.2.2
  have he3 : e3 = 0 := by
    by_cases hk : k1 < 1 ∨ 7 < k1
    · exact none_ (partsL_none hk)
    · have hc : k1 = 1 ∨ k1 = 2 ∨ k1 = 3 ∨ k1 = 4 ∨ k1 = 5 ∨ k1 = 6 ∨ k1 = 7 := by omega
      rcases hc with rfl | rfl | rfl | rfl | rfl | rfl | rfl
      · exact (two 0 5 rfl (by simp)).choose_spec.1
      · exact (two 2 3 rfl (by simp)).choose_spec.1
      · exact (one 2 rfl).1
      · exact (two 3 4 rfl (by simp)).choose_spec.1
      · exact (one 1 rfl).1
      · exact (two 2 1 rfl (by simp)).choose_spec.1
      · exact (two 1 3 rfl (by simp)).choose_spec.1
  subst he3
  obtain ⟨rfl, s1a, s1b, s1c, hs4⟩ := rdV_ok hx hS
  obtain ⟨rfl, p1a, p1b, p1c, hp4⟩ := rdV_ok hx hP
  obtain ⟨-, k1a, k1b, k1c, hk4⟩ := rdV_ok hx hK
  have hB : baseB p1 s1 = true := by unfold baseB; simp; omega
  have hT : xs.take a3 = Wr.numL k1.toNat ++ Wr.numL p1.toNat ++ Wr.numL s1.toNat := by rw [hs4, hp4, hk4]; simp
  rw [refC_eq]
  unfold bytesC refC
  rw [hB, ← hT]
  have hc : k1 = 1 ∨ k1 = 2 ∨ k1 = 3 ∨ k1 = 4 ∨ k1 = 5 ∨ k1 = 6 ∨ k1 = 7 := by omega
  clear hL hK hP hS none_ hx hs4 hp4 hk4 hT
  obtain ⟨n, u, t, w, h', x, y⟩ := f1
  rcases hc with rfl | rfl | rfl | rfl | rfl | rfl | rfl
  · obtain ⟨⟨n', u', t', w', h'', x', y'⟩, -, v1, v2, hb, e1, e2⟩ := two 0 5 rfl (by simp)
    simp [setF, zeroF] at e1 e2
    simp [partsL, hb, wrB] at *
    simp [vB] at *
    grind
  · obtain ⟨⟨n', u', t', w', h'', x', y'⟩, -, v1, v2, hb, e1, e2⟩ := two 2 3 rfl (by simp)
    simp [setF, zeroF] at e1 e2
    simp [partsL, hb, wrB] at *
    simp [vB] at *
    grind
  · obtain ⟨-, v1, hb, e1⟩ := one 2 rfl
    simp [setF, zeroF] at e1
    simp [partsL, hb, wrB] at *
    simp [vB] at *
    grind
  · obtain ⟨⟨n', u', t', w', h'', x', y'⟩, -, v1, v2, hb, e1, e2⟩ := two 3 4 rfl (by simp)
    simp [setF, zeroF] at e1 e2
    simp [partsL, hb, wrB] at *
    simp [vB] at *
    grind
  · obtain ⟨-, v1, hb, e1⟩ := one 1 rfl
    simp [setF, zeroF] at e1
    simp [partsL, hb, wrB] at *
    simp [vB] at *
    grind
  · obtain ⟨⟨n', u', t', w', h'', x', y'⟩, -, v1, v2, hb, e1, e2⟩ := two 2 1 rfl (by simp)
    simp [setF, zeroF] at e1 e2
    simp [partsL, hb, wrB] at *
    simp [vB] at *
    grind
  · obtain ⟨⟨n', u', t', w', h'', x', y'⟩, -, v1, v2, hb, e1, e2⟩ := two 1 3 rfl (by simp)
    simp [setF, zeroF] at e1 e2
    simp [partsL, hb, wrB] at *
    simp [vB] at *
    grind
theorem drop_cut (ys : List Int) (j at_ : Nat) : (ys.take j).drop at_ = (ys.drop at_).take (j - at_) := List.drop_take ..
theorem getS_11 {n : Nat} (h : n < 9223372036854775808) {i : Nat} (hi : i < (Wr.numL n).length) (rest : List Int) : Wr.getS ((Wr.numL n ++ rest).take i) = (0, 0, 11) := by
  rw [List.take_append_of_le_length (by omega)]
  exact Wr.getS_cut h hi
theorem rdV_cut {ys rest : List Int} {lo hi z : Int} {at_ j : Nat} (h0 : 0 ≤ z) (h1 : lo ≤ z) (h2 : z ≤ hi) (hz : z ≤ 1099511627776) (hd : ys.drop at_ = Wr.numL z.toNat ++ rest) (hj : at_ ≤ j) :
    (at_ + (Wr.numL z.toNat).length ≤ j ∧ rdV false (ys.take j) lo hi at_ 0 = (z, at_ + (Wr.numL z.toNat).length, 0)) ∨ rdV false (ys.take j) lo hi at_ 0 = (0, at_, 11) := by
  have hd2 := drop_cut ys j at_
  rw [hd] at hd2
  by_cases hc : at_ + (Wr.numL z.toNat).length ≤ j
  · refine .inl ⟨hc, ?_⟩
    rw [List.take_append] at hd2
    rw [List.take_of_length_le (l := Wr.numL z.toNat) (by omega)] at hd2
    exact rdV_num h0 h1 h2 hz hd2
  · refine .inr ?_
    unfold rdV
    rw [hd2, getS_11 (by omega) (by omega)]
    simp [stpC]
theorem rdV_cuti {ys rest : List Int} {lo hi z : Int} {at_ j : Nat} (h1 : lo ≤ z) (h2 : z ≤ hi) (hz : -1099511627776 ≤ z ∧ z ≤ 1099511627776) (hd : ys.drop at_ = Wr.numL (Wr.zig z) ++ rest) (hj : at_ ≤ j) :
    (at_ + (Wr.numL (Wr.zig z)).length ≤ j ∧ rdV true (ys.take j) lo hi at_ 0 = (z, at_ + (Wr.numL (Wr.zig z)).length, 0)) ∨ rdV true (ys.take j) lo hi at_ 0 = (0, at_, 11) := by
  have hd2 := drop_cut ys j at_
  rw [hd] at hd2
  by_cases hc : at_ + (Wr.numL (Wr.zig z)).length ≤ j
  · refine .inl ⟨hc, ?_⟩
    rw [List.take_append] at hd2
    rw [List.take_of_length_le (l := Wr.numL (Wr.zig z)) (by omega)] at hd2
    exact rdV_int h1 h2 hz hd2
  · refine .inr ?_
    unfold rdV
    rw [hd2, getS_11 (by unfold Wr.zig; split <;> omega) (by omega)]
    simp [stpC]
theorem rdV_11 (sg : Bool) (xs : List Int) (lo hi : Int) (at_ : Nat) : rdV sg xs lo hi at_ 11 = (0, at_, 11) := by unfold rdV stpC; simp
theorem rdU_11 (xs : List Int) (k : Nat) : ∀ (last : Int) (at_ : Nat), (rdU xs k last at_ 11).2.2 = 11 := by
  induction k with
  | zero => intro last at_; rfl
  | succ k ih => intro last at_; simp only [rdU, rdV_11]; exact ih 0 at_
theorem rdP_11 (xs : List Int) (q : Int) (f : CF) (at_ : Nat) : (rdP xs q f at_ 11).2.2 = 11 := by
  unfold rdP
  (repeat' split) <;> simp [rdV_11, rdU_11]
theorem rdL_11 (xs : List Int) (l : List Int) : ∀ (f : CF) (at_ : Nat), (rdL xs l f at_ 11).2.2 = 11 := by
  induction l with
  | nil => intro f at_; rfl
  | cons q l ih =>
    intro f at_
    simp only [rdL]
    rw [rdP_11]
    exact ih _ _
theorem rdU_cut {ys : List Int} {j : Nat} {u : List Int} : ∀ {last : Int} {rest : List Int} {at_ : Nat}, ascL last u = true → 0 ≤ last → ys.drop at_ = uL u ++ rest → at_ ≤ j →
    (at_ + (uL u).length ≤ j ∧ rdU (ys.take j) u.length last at_ 0 = (u, at_ + (uL u).length, 0)) ∨ (rdU (ys.take j) u.length last at_ 0).2.2 = 11 := by
  induction u with
  | nil => intro last rest at_ _ _ hd hj; exact .inl ⟨by simpa [uL] using hj, by simp [rdU, uL]⟩
  | cons a u ih =>
    intro last rest at_ ha hl hd hj
    unfold ascL at ha
    simp at ha
    have hd' : ys.drop at_ = Wr.numL a.toNat ++ (uL u ++ rest) := by rw [hd]; simp [uL]
    rcases rdV_cut (lo := last + 1) (hi := 1099511627776) (z := a) (j := j) (by omega) (by omega) (by omega) (by omega) hd' hj with ⟨h1, h2⟩ | h2
    · rcases ih (last := a) (rest := rest) (at_ := at_ + (Wr.numL a.toNat).length) ha.2 (by omega) (drop_more hd') h1 with ⟨h3, h4⟩ | h4
      · refine .inl ⟨by simp [uL] at *; omega, ?_⟩
        simp only [List.length_cons, rdU, h2, h4]
        simp [uL]; omega
      · refine .inr ?_
        simp only [List.length_cons, rdU, h2]
        exact h4
    · refine .inr ?_
      simp only [List.length_cons, rdU, h2]
      exact rdU_11 _ _ _ _
theorem rdP_cut {q : Int} {f f0 : CF} {ys rest : List Int} {at_ j : Nat} (hv : vB q f = true) (h0 : q = 2 → f0.u = []) (hd : ys.drop at_ = wrB q f ++ rest) (hj : at_ ≤ j) :
    (at_ + (wrB q f).length ≤ j ∧ rdP (ys.take j) q f0 at_ 0 = (setF q f f0, at_ + (wrB q f).length, 0)) ∨ (rdP (ys.take j) q f0 at_ 0).2.2 = 11 := by
  by_cases hc : at_ + (wrB q f).length ≤ j
  · refine .inl ⟨hc, rdP_set (rest := rest.take (j - at_ - (wrB q f).length)) hv h0 ?_⟩
    rw [drop_cut, hd, List.take_append, List.take_of_length_le (by omega)]
  · refine .inr ?_
    unfold vB at hv
    unfold wrB at hd hc
    unfold rdP
    by_cases q0 : q = 0
    · simp only [q0, ↓reduceIte] at *
      simp at hv
      rcases rdV_cut (lo := 0) (hi := 3) (z := f.n) (by omega) (by omega) (by omega) (by omega) hd hj with ⟨h1, h2⟩ | h2
      · omega
      · rw [h2]
    by_cases q1 : q = 1
    · simp only [q1, ↓reduceIte] at *
      simp at hv hd hc ⊢
      rcases rdV_cut (lo := 1) (hi := 1099511627776) (z := f.n) (by omega) (by omega) (by omega) (by omega) hd hj with ⟨h1, h2⟩ | h2
      · omega
      · rw [h2]
    by_cases q2 : q = 2
    · simp only [q2, ↓reduceIte] at *
      simp at hv hd hc ⊢
      unfold idsB at hv
      simp at hv
      have hd' : ys.drop at_ = Wr.numL (f.u.length : Int).toNat ++ (uL f.u ++ rest) := by simpa using hd
      rcases rdV_cut (lo := 1) (hi := 64) (z := (f.u.length : Int)) (by omega) (by omega) (by omega) (by omega) hd' hj with ⟨h1, h2⟩ | h2
      · rw [h2]
        rcases rdU_cut (u := f.u) (last := 0) (rest := rest) hv.2 (by omega) (drop_more hd') h1 with ⟨h3, h4⟩ | h4
        · simp at h3; omega
        · simpa using h4
      · rw [h2]
        exact rdU_11 _ _ _ _
    by_cases q3 : q = 3
    · simp only [q3, ↓reduceIte] at *
      simp at hv hd hc ⊢
      rcases rdV_cut (lo := 0) (hi := 16383) (z := f.t) (by omega) (by omega) (by omega) (by omega) hd hj with ⟨h1, h2⟩ | h2
      · omega
      · rw [h2]
    by_cases q4 : q = 4
    · simp only [q4, ↓reduceIte] at *
      simp at hv hd hc ⊢
      rcases rdV_cut (lo := 1) (hi := 4) (z := f.w) (by omega) (by omega) (by omega) (by omega) hd hj with ⟨h1, h2⟩ | h2
      · rw [h2]
        rcases rdV_cut (lo := 1) (hi := 4) (z := f.h) (by omega) (by omega) (by omega) (by omega) (drop_more hd) h1 with ⟨h3, h4⟩ | h4
        · omega
        · rw [h4]
      · rw [h2]; simp [rdV_11]
    · simp only [q0, q1, q2, q3, q4, ↓reduceIte] at *
      simp at hv hd hc ⊢
      rcases rdV_cuti (lo := -1099511627776) (hi := 1099511627776) (z := f.x) (by omega) (by omega) (by omega) hd hj with ⟨h1, h2⟩ | h2
      · rw [h2]
        rcases rdV_cuti (lo := -1099511627776) (hi := 1099511627776) (z := f.y) (by omega) (by omega) (by omega) (drop_more hd) h1 with ⟨h3, h4⟩ | h4
        · omega
        · rw [h4]
      · rw [h2]; simp [rdV_11]
theorem par_cut {p s k : Int} {f : CF} {j : Nat} (h : okC p s k f = true) (hj : j < (bytesC p s k f).length) : (parC ((bytesC p s k f).take j)).2.2.2.2.2 = 11 := by
  obtain ⟨⟨hp1, hp2, hs1, hs2⟩, ⟨hk1, hk2⟩, hv⟩ := okC_parts h
  generalize hys : bytesC p s k f = ys at *
  have d0 : ys.drop 0 = Wr.numL k.toNat ++ (Wr.numL p.toNat ++ (Wr.numL s.toNat ++ (((partsL k).flatMap fun q => wrB q f) ++ []))) := by rw [← hys]; simp [bytesC]
  have hl : ys.length = 0 + (Wr.numL k.toNat).length + (Wr.numL p.toNat).length + (Wr.numL s.toNat).length + ((partsL k).flatMap fun q => wrB q f).length := by rw [← hys]; simp [bytesC]; omega
  clear hys h
  unfold parC
  rcases rdV_cut (lo := 1) (hi := 7) (z := k) (by omega) (by omega) (by omega) (by omega) d0 (Nat.zero_le j) with ⟨h1, e1⟩ | e1
  case inr => simp only [e1, rdV_11]; exact rdL_11 _ _ _ _
  have d1 := drop_more d0
  rcases rdV_cut (lo := 1) (hi := 8) (z := p) (by omega) (by omega) (by omega) (by omega) d1 h1 with ⟨h2, e2⟩ | e2
  case inr => simp only [e1, e2, rdV_11]; exact rdL_11 _ _ _ _
  have d2 := drop_more d1
  rcases rdV_cut (lo := 0) (hi := 1099511627776) (z := s) (by omega) (by omega) (by omega) (by omega) d2 h2 with ⟨h3, e3⟩ | e3
  case inr => simp only [e1, e2, e3]; exact rdL_11 _ _ _ _
  have d3 := drop_more d2
  simp only [e1, e2, e3]
  generalize 0 + (Wr.numL k.toNat).length + (Wr.numL p.toNat).length + (Wr.numL s.toNat).length = A at *
  clear d0 d1 d2 e1 e2 e3 h1 h2
  have two : ∀ q1 q2, partsL k = [q1, q2] → q2 ≠ 2 → (rdL (ys.take j) (partsL k) zeroF A 0).2.2 = 11 := by
    intro q1 q2 e h2
    rw [e] at d3 hv hl ⊢
    simp at d3 hv hl
    simp only [rdL]
    rcases rdP_cut (f0 := zeroF) hv.1 (fun _ => rfl) d3 h3 with ⟨g1, g2⟩ | g2
    · rw [g2]
      rcases rdP_cut (f0 := setF q1 f zeroF) (rest := []) hv.2 (fun e => absurd e h2) (by simpa using drop_more d3) g1 with ⟨g3, g4⟩ | g4
      · omega
      · exact g4
    · rw [g2]; exact rdP_11 _ _ _ _
  have one : ∀ q1, partsL k = [q1] → (rdL (ys.take j) (partsL k) zeroF A 0).2.2 = 11 := by
    intro q1 e
    rw [e] at d3 hv hl ⊢
    simp at d3 hv hl
    simp only [rdL]
    rcases rdP_cut (f0 := zeroF) (rest := []) hv (fun _ => rfl) (by simpa using d3) h3 with ⟨g1, g2⟩ | g2
    · omega
    · exact g2
  have hc : k = 1 ∨ k = 2 ∨ k = 3 ∨ k = 4 ∨ k = 5 ∨ k = 6 ∨ k = 7 := by omega
  rcases hc with rfl | rfl | rfl | rfl | rfl | rfl | rfl
  · exact two 0 5 rfl (by simp)
  · exact two 2 3 rfl (by simp)
  · exact one 2 rfl
  · exact two 3 4 rfl (by simp)
  · exact one 1 rfl
  · exact two 2 1 rfl (by simp)
  · exact two 1 3 rfl (by simp)
end Go.Proofs.Ytejilcnldllhpaa
/- Layer 22: a command's bytes there and back. -/
namespace Go.Proofs.Ytejilcnldllhpaa
open Go.RowKit
set_option linter.unusedVariables false
/-- A command's bytes are read as it. -/
theorem parse_back (p s k n : Int) (m' : Nat) (u : List Int) (t wd h x y : Int) (a0 : Option Addr) (n0 c0 : Nat) (xs ys : List Int) (w : World) (E : Hk (okC p s k ⟨n, u, t, wd, h, x, y⟩ = true)) (hx : Hk (bytesC p s k ⟨n, u, t, wd, h, x, y⟩ ++ ys = xs)) (hm : Hk (u.length = m')) (hby : By w w.heap.size a0 n0 xs) (hnc : n0 ≤ c0) (hcm : c0 ≤ 9223372036854775807) (hnm : n0 ≤ 1099511627776) (han : a0 = none → c0 = 0) :
    Calls Try.prog 25 #[.slice a0 n0 c0] w fun o w' => Below w.heap.size w w' ∧ ∃ a2 c2, o = .returned (.tuple #[.agg #[.int .i64 p, .int .i64 s, .int .i64 k, .int .i64 n, .slice a2 m' c2, .int .i64 t, .int .i64 wd, .int .i64 h, .int .i64 x, .int .i64 y], .int .i64 ((bytesC p s k ⟨n, u, t, wd, h, x, y⟩).length : Nat), .int .i64 0]) ∧ OwnI w' w.heap.size (.slice a2 m' c2) m' u := by
  refine (parse_any a0 n0 c0 xs w hby hnc hcm hnm han).mono fun o w' hp => ?_
  have hb := par_back (ys := ys) E.out
  rw [hx.out] at hb
  rcases hp with ⟨hp1, ⟨e, he, hp2, _⟩ | ⟨p1, s1, k1, n1, a1, m1, c1, u1, t1, wd1, h1, x1, y1, at1, hp2, hp3, _, hp4⟩⟩
  · rw [hb] at hp2
    exact absurd hp2.symm he
  · rw [hb] at hp2
    simp only [Prod.mk.injEq, CF.mk.injEq] at hp2
    obtain ⟨rfl, rfl, rfl, ⟨rfl, rfl, rfl, rfl, rfl, rfl, rfl⟩, h2, -⟩ := hp2
    have hl : m1 = m' := by rw [← hp3.1, hm.out]
    subst hl
    refine ⟨hp1, a1, c1, ?_, hp3⟩
    rw [hp4, h2]
theorem okC_bd {p s k n : Int} {u : List Int} {t wd h x y : Int} (hk : okC p s k ⟨n, u, t, wd, h, x, y⟩ = true) : (0 ≤ n ∧ n ≤ 1099511627776) ∧ (0 ≤ t ∧ t ≤ 16383) ∧ (0 ≤ wd ∧ wd ≤ 4) ∧ (-1099511627776 ≤ x ∧ x ≤ 1099511627776) ∧ u.length ≤ 64 := by
  rw [refC_eq] at hk
  unfold refC at hk
  simp only [Bool.and_eq_true] at hk
  have h2 := hk.2
  (repeat' split at h2) <;> simp [vB, idsB] at h2 <;> first | (refine ⟨?_, ?_, ?_, ?_, ?_⟩ <;> first | omega | (simp_all; done)) | simp_all
theorem bytes_head {p s k : Int} {f : CF} (h : okC p s k f = true) : (bytesC p s k f).getD 0 0 = k ∧ 1 ≤ (bytesC p s k f).length ∧ (bytesC p s k f).length ≤ 2000 := by
  obtain ⟨⟨hp1, hp2, hs1, hs2⟩, ⟨hk1, hk2⟩, hv⟩ := okC_parts h
  have h1 := numL_nine' (z := p) (by omega)
  have h2 := numL_nine' (z := s) (by omega)
  have h3 := flat_len hv
  have h4 := (partsL_bd k).1
  unfold bytesC
  rw [Wr.numL_low (show k.toNat < 128 by omega)]
  refine ⟨by simp; omega, by simp, ?_⟩
  simp at *
  omega
theorem bytes22_as (p s k n : Int) (a : Option Addr) (m c : Nat) (u : List Int) (t wd h x y : Int) (bs : List Int) (L : Nat) (w : World) (hN : Nq w w.heap.size a m u) (hm : m ≤ 1099511627776) (E : Hk (okC p s k ⟨n, u, t, wd, h, x, y⟩ = true)) (hb : Hk (bytesC p s k ⟨n, u, t, wd, h, x, y⟩ = bs)) (hl : Hk (bs.length = L)) :
    Calls Try.prog 17 #[.agg #[.int .i64 p, .int .i64 s, .int .i64 k, .int .i64 n, .slice a m c, .int .i64 t, .int .i64 wd, .int .i64 h, .int .i64 x, .int .i64 y]] w fun e w' => ∃ v, e = .returned (.tuple #[v, .int .i64 0]) ∧ OwnB w' w.heap.size v L bs ∧ Below w.heap.size w w' := by
  have h1 := bytes22_yes p s k n a m c u t wd h x y w hN hm E
  rw [hb.out] at h1
  rw [← hl.out]
  exact h1
theorem parse_back_as (p s k n : Int) (m' : Nat) (u : List Int) (t wd h x y : Int) (a0 : Option Addr) (n0 c0 : Nat) (bs ys : List Int) (L : Nat) (w : World) (E : Hk (okC p s k ⟨n, u, t, wd, h, x, y⟩ = true)) (hb : Hk (bytesC p s k ⟨n, u, t, wd, h, x, y⟩ = bs)) (hl : Hk (bs.length = L)) (hm : Hk (u.length = m')) (hby : By w w.heap.size a0 n0 (bs ++ ys)) (hnc : n0 ≤ c0) (hcm : c0 ≤ 9223372036854775807) (hnm : n0 ≤ 1099511627776) (han : a0 = none → c0 = 0) :
    Calls Try.prog 25 #[.slice a0 n0 c0] w fun o w' => Below w.heap.size w w' ∧ ∃ a2 c2, o = .returned (.tuple #[.agg #[.int .i64 p, .int .i64 s, .int .i64 k, .int .i64 n, .slice a2 m' c2, .int .i64 t, .int .i64 wd, .int .i64 h, .int .i64 x, .int .i64 y], .int .i64 (L : Nat), .int .i64 0]) ∧ OwnI w' w.heap.size (.slice a2 m' c2) m' u := by
  have h1 := parse_back p s k n m' u t wd h x y a0 n0 c0 (bs ++ ys) ys w E ⟨by rw [hb.out]⟩ hm hby hnc hcm hnm han
  rw [hb.out, hl.out] at h1
  exact h1
theorem OwnB.cap23 {w : World} {base n c : Nat} {a : Option Addr} {xs : List Int} (h : OwnB w base (.slice a n c) n xs) : c ≤ 9223372036854775807 := by
  rcases h.2.2.2 with ⟨e, _⟩ | ⟨g, cap, cur, e, _, _, _, hm, _⟩
  · injection e with e1 e2 e3; omega
  · injection e with e1 e2 e3; unfold maxLen at hm; omega
theorem OwnB.an23 {w : World} {base n c : Nat} {a : Option Addr} {xs : List Int} (h : OwnB w base (.slice a n c) n xs) : a = none → c = 0 := by
  intro ha
  rcases h.2.2.2 with ⟨e, _⟩ | ⟨g, cap, cur, e, _⟩
  · injection e with e1 e2 e3
  · injection e with e1 e2 e3; rw [ha] at e1; cases e1
end Go.Proofs.Ytejilcnldllhpaa
/- Bytes appended in a region that draws its order. -/
namespace Go.Proofs.Ytejilcnldllhpaa
open Go.RowKit
set_option linter.unusedVariables false
theorem wp_append_by (w : World) {o : Oper} {a : Act} {K : Act → World → Prop} {Q : Exit → Act → World → Prop} (s x : Operand)
    (ho : o.op = .call { callee := .builtin .append, args := #[s, x], argTypes := #[29, 29] })
    (base : Nat) (v : Value) (n : Nat) (xs : List Int) (hs : a.eval s = v) (hown : OwnB w base v n xs)
    (B : Nat) (A : Option Addr) (m c : Nat) (ys : List Int) (hx : a.eval x = .slice A m c) (hby : By w B A m ys) (hc : A = none → c = 0) (hlen : n + m ≤ 1099511627776) (hbase : base ≤ w.heap.size)
    (h : ∀ v' w', OwnB w' base v' (n + m) (xs ++ ys) → w.grownBy w' v.ownBlock → K (a.put o.dst v') w') : o.wp Try.prog a w K Q := by
  obtain ⟨i0, hi, hz0, hz1, hz2⟩ := info_parts info_u8
  have hmem : ∀ b ∈ xs ++ ys, Fn.Byt b := fun b hb => by
    rcases List.mem_append.1 hb with h1 | h1
    · exact hown.2.1 b h1
    · exact hby.byt b h1
  cases A with
  | none =>
    obtain rfl : m = 0 := by
      rcases Nat.eq_zero_or_pos m with h0 | h0
      · exact h0
      · obtain ⟨_, _, e, _⟩ := hby.at_ h0; cases e
    obtain rfl : c = 0 := hc rfl
    obtain rfl : ys = [] := List.eq_nil_of_length_eq_zero hby.len
    have hrun := run_append_owned_none (P := Try.prog) (w := w) base 29 o.type 5 i0 1 Try.underlying29 hi v n _ hown.2.2
    unfold Oper.wp
    simp [execOp, ho, resolve, invoke, builtin, hs, hx, hrun, Result.andThen]
    exact h v w (by simpa using hown) (World.grownBy.refl _ _)
  | some ad =>
    refine wp_append_own w s x _ ho base 5 i0 (.int .u8 0) 1 1 Try.underlying29 hi hz0 hz1 hz2 rfl (by decide) v n (xs.map (Value.int .u8)) hs hown.2.2 ad m c (ys.map (Value.int .u8)) hx (by simp [hby.len]) ?_ ?_ (by unfold maxLen; omega) (by omega) hbase ?_
    · intro j u hj
      have hl := hby.len
      have hjl : j < ys.length := by
        rcases Nat.lt_or_ge j ys.length with h0 | h0
        · exact h0
        · rw [List.getElem?_eq_none (by simpa using h0)] at hj; cases hj
      obtain ⟨b, off, e, _, hcell⟩ := hby.at_ (by omega)
      obtain rfl : ad = ⟨b, off, none⟩ := by injection e
      have h1 := hcell j (by omega)
      have h2 : (⟨b, off, none⟩ : Addr).add j = ⟨b, off + j, none⟩ := by unfold Addr.add; split <;> simp_all
      rw [h2, h1, ← hj]
      simp [List.getD, List.getElem?_eq_getElem hjl]
    · intro u hu
      obtain ⟨z, _, rfl⟩ := List.mem_map.1 hu
      rfl
    · intro v' w' h2 h3 _
      exact h v' w' ⟨by simp [hown.1, hby.len], hmem, by simpa using h2⟩ h3
theorem step_append_by (w : World) {ops : Array Oper} {o : Oper} {a : Act} {K : Act → World → Prop} {Q : Exit → Act → World → Prop} {E : Prop} (hw : Region.wanted o (yielded ops a.tmps) = true) (s x : Operand)
    (ho : o.op = .call { callee := .builtin .append, args := #[s, x], argTypes := #[29, 29] })
    (base : Nat) (v : Value) (n : Nat) (xs : List Int) (hs : a.eval s = v) (hown : OwnB w base v n xs)
    (B : Nat) (A : Option Addr) (m c : Nat) (ys : List Int) (hx : a.eval x = .slice A m c) (hby : By w B A m ys) (hc : A = none → c = 0) (hlen : n + m ≤ 1099511627776) (hbase : base ≤ w.heap.size)
    (h : ∀ v' w', OwnB w' base v' (n + m) (xs ++ ys) → w.grownBy w' v.ownBlock → K (a.put o.dst v') w') :
    if Region.wanted o (yielded ops a.tmps) = true then Oper.wp Try.prog o a w K Q else E := by
  rw [if_pos hw]
  exact wp_append_by w s x ho base v n xs hs hown B A m c ys hx hby hc hlen hbase h
end Go.Proofs.Ytejilcnldllhpaa
