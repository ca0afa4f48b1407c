/- Package command: a part of a command read. -/
import Derived.Test.YtkffleclofkjmaaCmi
import Derived.Test.YtkffleclofkjmaaCob
namespace Go.Proofs.Ytkffleclofkjmaa
open Go.RowKit
set_option linter.unusedVariables false
def rdU (xs : List Int) : Nat → Int → Nat → Int → List Int × Nat × Int
  | 0, _, at_, e => ([], at_, e)
  | k + 1, last, at_, e => ((rdV false xs (last + 1) 1099511627776 at_ e).1 :: (rdU xs k (rdV false xs (last + 1) 1099511627776 at_ e).1 (rdV false xs (last + 1) 1099511627776 at_ e).2.1 (rdV false xs (last + 1) 1099511627776 at_ e).2.2).1, (rdU xs k (rdV false xs (last + 1) 1099511627776 at_ e).1 (rdV false xs (last + 1) 1099511627776 at_ e).2.1 (rdV false xs (last + 1) 1099511627776 at_ e).2.2).2)
def rdP (xs : List Int) (q : Int) (f : CF) (at_ : Nat) (e : Int) : CF × Nat × Int :=
  if q = 0 then ({ f with n := (rdV false xs 0 3 at_ e).1 }, (rdV false xs 0 3 at_ e).2)
  else if q = 1 then ({ f with n := (rdV false xs 1 1099511627776 at_ e).1 }, (rdV false xs 1 1099511627776 at_ e).2)
  else if q = 2 then ({ f with u := f.u ++ (rdU xs (rdV false xs 1 64 at_ e).1.toNat 0 (rdV false xs 1 64 at_ e).2.1 (rdV false xs 1 64 at_ e).2.2).1 }, (rdU xs (rdV false xs 1 64 at_ e).1.toNat 0 (rdV false xs 1 64 at_ e).2.1 (rdV false xs 1 64 at_ e).2.2).2)
  else if q = 3 then ({ f with t := (rdV false xs 0 16383 at_ e).1 }, (rdV false xs 0 16383 at_ e).2)
  else if q = 4 then ({ f with w := (rdV false xs 1 4 at_ e).1, h := (rdV false xs 1 4 (rdV false xs 1 4 at_ e).2.1 (rdV false xs 1 4 at_ e).2.2).1 }, (rdV false xs 1 4 (rdV false xs 1 4 at_ e).2.1 (rdV false xs 1 4 at_ e).2.2).2)
  else ({ f with x := (rdV true xs (-1099511627776) 1099511627776 at_ e).1, y := (rdV true xs (-1099511627776) 1099511627776 (rdV true xs (-1099511627776) 1099511627776 at_ e).2.1 (rdV true xs (-1099511627776) 1099511627776 at_ e).2.2).1 }, (rdV true xs (-1099511627776) 1099511627776 (rdV true xs (-1099511627776) 1099511627776 at_ e).2.1 (rdV true xs (-1099511627776) 1099511627776 at_ e).2.2).2)
theorem rdV_bd {sg : Bool} {xs : List Int} {lo hi : Int} {at_ : Nat} {e : Int} {z : Int} {at' : Nat} {e' : Int} (h : rdV sg xs lo hi at_ e = (z, at', e')) : z = 0 ∨ lo ≤ z ∧ z ≤ hi := by
  unfold rdV stpC at h
  (repeat' split at h) <;> (injection h with h1 h2; omega)
theorem CmB.fr {M : Nat → Prop} {w w' : World} {b : Nat} {p s k n : Int} {a : Option Addr} {m c : Nat} {t wd h x y : Int} (H : CmB w b p s k n a m c t wd h x y) (K : Fr M w w') (hM : ¬ M b) : CmB w' b p s k n a m c t wd h x y :=
  have hb : b < w.heap.size := World.block_lt_of_cell? _ _ H.c0
  ⟨(K.cell hb hM).trans H.c0, (K.cell hb hM).trans H.c1, (K.cell hb hM).trans H.c2, (K.cell hb hM).trans H.c3, (K.cell hb hM).trans H.c4, (K.cell hb hM).trans H.c5, (K.cell hb hM).trans H.c6, (K.cell hb hM).trans H.c7, (K.cell hb hM).trans H.c8, (K.cell hb hM).trans H.c9, fun j => (K.frozen hb hM).trans (H.fz j)⟩
/-- What reading a part leaves. -/
def ReadR (r : CF × Nat × Int) (cb : Nat) (p s k : Int) (base D R : Nat) (a0 : Option Addr) (n0 c0 : Nat) (xs : List Int) (w : World) (o : Ending) (w' : World) : Prop :=
  ∃ n' a' m' c' u' t' wd' h' x' y' at' e', o = .returned (.tuple #[]) ∧ r = (⟨n', u', t', wd', h', x', y'⟩, at', e') ∧ CmB w' cb p s k n' a' m' c' t' wd' h' x' y' ∧ OwnI w' base (.slice a' m' c') m' u' ∧ RdB w' D R a0 n0 c0 xs at' e' ∧ Fr (fun j => j = R ∨ j = cb) w w'
set_option maxRecDepth 100000 in
set_option maxHeartbeats 3200000 in
theorem read0 (cb base D R : Nat) (a0 : Option Addr) (n0 c0 : Nat) (xs : List Int) (at_ : Nat) (e : Int) (p s k n : Int) (a : Option Addr) (m c : Nat) (u : List Int) (t wd h x y : Int) (w : World) (hD : D ≤ cb) (hcr : ¬ cb = R) (hcb : cb < base) (hR : R < base) (hbase : base ≤ w.heap.size) (HC : Hk (CmB w cb p s k n a m c t wd h x y)) (HO : Hk (OwnI w base (.slice a m c) m u)) (HR : Hk (RdB w D R a0 n0 c0 xs at_ e)) :
    Calls Try.prog 46 #[.int .i64 0, .pointer (some ⟨R, 0, none⟩), .pointer (some ⟨cb, 0, none⟩)] w (ReadR (rdP xs 0 ⟨n, u, t, wd, h, x, y⟩ at_ e) cb p s k base D R a0 n0 c0 xs w) := by
  go_enter Try.func46, Try.ntmps46
  go_wp2_with (go_at_call 45; (with_reducible refine (cornum_any 0 3 D R a0 n0 c0 xs at_ e _ HR.out).mono ?_); rintro o w1 ⟨z1, at1, e1, rfl, hr, hrb, hfr, hsz⟩; have HX1 := Hk.mk hr; have HRB1 := Hk.mk hrb; have HFR1 := Hk.mk hfr; have HSZ1 := Hk.mk hsz; have HCB1 := Hk.mk (HC.out.fr hfr (show ¬ cb = R from hcr)); obtain ⟨b0, b1, b2, b3, b4, b5, b6, b7, b8, b9, bf⟩ := HCB1.out; have g3 := bf 3; clear bf; clear hr hrb hfr hsz)
  go_end0
  have hF : Fr (fun j => j = R ∨ j = cb) w (w1.setCell ⟨cb, 3, none⟩ (.int .i64 z1)) := (HFR1.out.mono (fun j _ e => .inl e)).setCell (fun _ => .inr rfl) _
  refine ⟨z1, a, m, c, u, t, wd, h, x, y, at1, e1, rfl, by simp [rdP, HX1.out], ⟨by go_simp, by go_simp, by go_simp, by go_simp, by go_simp, by go_simp, by go_simp, by go_simp, by go_simp, by go_simp, fun j => by have := HCB1.out.fz j; go_simp⟩, Fr.owni HO.out hF (fun j hj h => ?_), HRB1.out.fr ((Fr.refl (fun j => j = cb) w1).setCell (p := ⟨cb, 3, none⟩) (fun _ => rfl) _) (fun j hj e => by omega), hF⟩
  have := (HO.out.lt j hj).1
  omega
set_option maxRecDepth 100000 in
set_option maxHeartbeats 3200000 in
theorem read1 (cb base D R : Nat) (a0 : Option Addr) (n0 c0 : Nat) (xs : List Int) (at_ : Nat) (e : Int) (p s k n : Int) (a : Option Addr) (m c : Nat) (u : List Int) (t wd h x y : Int) (w : World) (hD : D ≤ cb) (hcr : ¬ cb = R) (hcb : cb < base) (hR : R < base) (hbase : base ≤ w.heap.size) (HC : Hk (CmB w cb p s k n a m c t wd h x y)) (HO : Hk (OwnI w base (.slice a m c) m u)) (HR : Hk (RdB w D R a0 n0 c0 xs at_ e)) :
    Calls Try.prog 46 #[.int .i64 1, .pointer (some ⟨R, 0, none⟩), .pointer (some ⟨cb, 0, none⟩)] w (ReadR (rdP xs 1 ⟨n, u, t, wd, h, x, y⟩ at_ e) cb p s k base D R a0 n0 c0 xs w) := by
  go_enter Try.func46, Try.ntmps46
  go_wp2_with (go_at_call 45; (with_reducible refine (cornum_any 1 1099511627776 D R a0 n0 c0 xs at_ e _ HR.out).mono ?_); rintro o w1 ⟨z1, at1, e1, rfl, hr, hrb, hfr, hsz⟩; have HX1 := Hk.mk hr; have HRB1 := Hk.mk hrb; have HFR1 := Hk.mk hfr; have HSZ1 := Hk.mk hsz; have HCB1 := Hk.mk (HC.out.fr hfr (show ¬ cb = R from hcr)); obtain ⟨b0, b1, b2, b3, b4, b5, b6, b7, b8, b9, bf⟩ := HCB1.out; have g3 := bf 3; clear bf; clear hr hrb hfr hsz)
  go_end0
  have hF : Fr (fun j => j = R ∨ j = cb) w (w1.setCell ⟨cb, 3, none⟩ (.int .i64 z1)) := (HFR1.out.mono (fun j _ e => .inl e)).setCell (fun _ => .inr rfl) _
  refine ⟨z1, a, m, c, u, t, wd, h, x, y, at1, e1, rfl, by simp [rdP, HX1.out], ⟨by go_simp, by go_simp, by go_simp, by go_simp, by go_simp, by go_simp, by go_simp, by go_simp, by go_simp, by go_simp, fun j => by have := HCB1.out.fz j; go_simp⟩, Fr.owni HO.out hF (fun j hj h => ?_), HRB1.out.fr ((Fr.refl (fun j => j = cb) w1).setCell (p := ⟨cb, 3, none⟩) (fun _ => rfl) _) (fun j hj e => by omega), hF⟩
  have := (HO.out.lt j hj).1
  omega
set_option maxRecDepth 100000 in
set_option maxHeartbeats 3200000 in
theorem read3 (cb base D R : Nat) (a0 : Option Addr) (n0 c0 : Nat) (xs : List Int) (at_ : Nat) (e : Int) (p s k n : Int) (a : Option Addr) (m c : Nat) (u : List Int) (t wd h x y : Int) (w : World) (hD : D ≤ cb) (hcr : ¬ cb = R) (hcb : cb < base) (hR : R < base) (hbase : base ≤ w.heap.size) (HC : Hk (CmB w cb p s k n a m c t wd h x y)) (HO : Hk (OwnI w base (.slice a m c) m u)) (HR : Hk (RdB w D R a0 n0 c0 xs at_ e)) :
    Calls Try.prog 46 #[.int .i64 3, .pointer (some ⟨R, 0, none⟩), .pointer (some ⟨cb, 0, none⟩)] w (ReadR (rdP xs 3 ⟨n, u, t, wd, h, x, y⟩ at_ e) cb p s k base D R a0 n0 c0 xs w) := by
  go_enter Try.func46, Try.ntmps46
  go_wp2_with (go_at_call 45; (with_reducible refine (cornum_any 0 16383 D R a0 n0 c0 xs at_ e _ HR.out).mono ?_); rintro o w1 ⟨z1, at1, e1, rfl, hr, hrb, hfr, hsz⟩; have HX1 := Hk.mk hr; have HRB1 := Hk.mk hrb; have HFR1 := Hk.mk hfr; have HSZ1 := Hk.mk hsz; have HCB1 := Hk.mk (HC.out.fr hfr (show ¬ cb = R from hcr)); obtain ⟨b0, b1, b2, b3, b4, b5, b6, b7, b8, b9, bf⟩ := HCB1.out; have g5 := bf 5; clear bf; clear hr hrb hfr hsz)
  go_end0
  have hF : Fr (fun j => j = R ∨ j = cb) w (w1.setCell ⟨cb, 5, none⟩ (.int .i64 z1)) := (HFR1.out.mono (fun j _ e => .inl e)).setCell (fun _ => .inr rfl) _
  refine ⟨n, a, m, c, u, z1, wd, h, x, y, at1, e1, rfl, by simp [rdP, HX1.out], ⟨by go_simp, by go_simp, by go_simp, by go_simp, by go_simp, by go_simp, by go_simp, by go_simp, by go_simp, by go_simp, fun j => by have := HCB1.out.fz j; go_simp⟩, Fr.owni HO.out hF (fun j hj h => ?_), HRB1.out.fr ((Fr.refl (fun j => j = cb) w1).setCell (p := ⟨cb, 5, none⟩) (fun _ => rfl) _) (fun j hj e => by omega), hF⟩
  have := (HO.out.lt j hj).1
  omega
set_option maxRecDepth 100000 in
set_option maxHeartbeats 3200000 in
theorem read4 (cb base D R : Nat) (a0 : Option Addr) (n0 c0 : Nat) (xs : List Int) (at_ : Nat) (e : Int) (p s k n : Int) (a : Option Addr) (m c : Nat) (u : List Int) (t wd h x y : Int) (w : World) (hD : D ≤ cb) (hcr : ¬ cb = R) (hcb : cb < base) (hR : R < base) (hbase : base ≤ w.heap.size) (HC : Hk (CmB w cb p s k n a m c t wd h x y)) (HO : Hk (OwnI w base (.slice a m c) m u)) (HR : Hk (RdB w D R a0 n0 c0 xs at_ e)) :
    Calls Try.prog 46 #[.int .i64 4, .pointer (some ⟨R, 0, none⟩), .pointer (some ⟨cb, 0, none⟩)] w (ReadR (rdP xs 4 ⟨n, u, t, wd, h, x, y⟩ at_ e) cb p s k base D R a0 n0 c0 xs w) := by
  go_enter Try.func46, Try.ntmps46
  go_wp2_with (first | (go_at_call 45; (with_reducible refine (cornum_any 1 4 D R a0 n0 c0 xs at1 e1 _ HRS.out).mono ?_); rintro o w2 ⟨z2, at2, e2, rfl, hr, hrb, hfr, hsz⟩; clear b0 b1 b2 b3 b4 b5 b6 b7 b8 b9 g6; have HX2 := Hk.mk hr; have HRB2 := Hk.mk hrb; have HFR2 := Hk.mk hfr; have HSZ2 := Hk.mk hsz; have HCB2 := Hk.mk (HCS.out.fr hfr (show ¬ cb = R from hcr)); obtain ⟨b0, b1, b2, b3, b4, b5, b6, b7, b8, b9, bf⟩ := HCB2.out; have g7 := bf 7; clear bf; clear hr hrb hfr hsz) | (go_at_call 45; (with_reducible refine (cornum_any 1 4 D R a0 n0 c0 xs at_ e _ HR.out).mono ?_); rintro o w1 ⟨z1, at1, e1, rfl, hr, hrb, hfr, hsz⟩; have HX1 := Hk.mk hr; have HRB1 := Hk.mk hrb; have HFR1 := Hk.mk hfr; have HSZ1 := Hk.mk hsz; have HCB1 := Hk.mk (HC.out.fr hfr (show ¬ cb = R from hcr)); obtain ⟨b0, b1, b2, b3, b4, b5, b6, b7, b8, b9, bf⟩ := HCB1.out; have g6 := bf 6; clear bf; clear hr hrb hfr hsz; have HRS : Hk (RdB (w1.setCell ⟨cb, 6, none⟩ (.int .i64 z1)) D R a0 n0 c0 xs at1 e1) := ⟨HRB1.out.fr ((Fr.refl (fun j => j = cb) w1).setCell (p := ⟨cb, 6, none⟩) (fun _ => rfl) _) (fun j hj e => by omega)⟩; have HCS : Hk (CmB (w1.setCell ⟨cb, 6, none⟩ (.int .i64 z1)) cb p s k n a m c t z1 h x y) := ⟨⟨by go_simp, by go_simp, by go_simp, by go_simp, by go_simp, by go_simp, by go_simp, by go_simp, by go_simp, by go_simp, fun j => by have := HCB1.out.fz j; go_simp⟩⟩))
  go_end0
  have hF : Fr (fun j => j = R ∨ j = cb) w (w2.setCell ⟨cb, 7, none⟩ (.int .i64 z2)) := ((((HFR1.out.mono (fun j _ e => .inl e)).setCell (p := ⟨cb, 6, none⟩) (fun _ => .inr rfl) (.int .i64 z1)).andThen HFR2.out (fun j _ e => .inl e)).setCell (p := ⟨cb, 7, none⟩) (fun _ => .inr rfl) _)
  refine ⟨n, a, m, c, u, t, z1, z2, x, y, at2, e2, rfl, by simp [rdP, HX1.out, HX2.out], ⟨by go_simp, by go_simp, by go_simp, by go_simp, by go_simp, by go_simp, by go_simp, by go_simp, by go_simp, by go_simp, fun j => by have := HCB2.out.fz j; go_simp⟩, Fr.owni HO.out hF (fun j hj h => ?_), HRB2.out.fr ((Fr.refl (fun j => j = cb) w2).setCell (p := ⟨cb, 7, none⟩) (fun _ => rfl) _) (fun j hj e => by omega), hF⟩
  have := (HO.out.lt j hj).1
  omega
set_option maxRecDepth 100000 in
set_option maxHeartbeats 3200000 in
theorem read5 (cb base D R : Nat) (a0 : Option Addr) (n0 c0 : Nat) (xs : List Int) (at_ : Nat) (e : Int) (p s k n : Int) (a : Option Addr) (m c : Nat) (u : List Int) (t wd h x y : Int) (w : World) (hD : D ≤ cb) (hcr : ¬ cb = R) (hcb : cb < base) (hR : R < base) (hbase : base ≤ w.heap.size) (HC : Hk (CmB w cb p s k n a m c t wd h x y)) (HO : Hk (OwnI w base (.slice a m c) m u)) (HR : Hk (RdB w D R a0 n0 c0 xs at_ e)) :
    Calls Try.prog 46 #[.int .i64 5, .pointer (some ⟨R, 0, none⟩), .pointer (some ⟨cb, 0, none⟩)] w (ReadR (rdP xs 5 ⟨n, u, t, wd, h, x, y⟩ at_ e) cb p s k base D R a0 n0 c0 xs w) := by
  go_enter Try.func46, Try.ntmps46
  go_wp2_with (first | (go_at_call 61; (with_reducible refine (corint_any (-1099511627776) 1099511627776 D R a0 n0 c0 xs at1 e1 _ HRS.out).mono ?_); rintro o w2 ⟨z2, at2, e2, rfl, hr, hrb, hfr, hsz⟩; clear b0 b1 b2 b3 b4 b5 b6 b7 b8 b9 g8; have HX2 := Hk.mk hr; have HRB2 := Hk.mk hrb; have HFR2 := Hk.mk hfr; have HSZ2 := Hk.mk hsz; have HCB2 := Hk.mk (HCS.out.fr hfr (show ¬ cb = R from hcr)); obtain ⟨b0, b1, b2, b3, b4, b5, b6, b7, b8, b9, bf⟩ := HCB2.out; have g9 := bf 9; clear bf; clear hr hrb hfr hsz) | (go_at_call 61; (with_reducible refine (corint_any (-1099511627776) 1099511627776 D R a0 n0 c0 xs at_ e _ HR.out).mono ?_); rintro o w1 ⟨z1, at1, e1, rfl, hr, hrb, hfr, hsz⟩; have HX1 := Hk.mk hr; have HRB1 := Hk.mk hrb; have HFR1 := Hk.mk hfr; have HSZ1 := Hk.mk hsz; have HCB1 := Hk.mk (HC.out.fr hfr (show ¬ cb = R from hcr)); obtain ⟨b0, b1, b2, b3, b4, b5, b6, b7, b8, b9, bf⟩ := HCB1.out; have g8 := bf 8; clear bf; clear hr hrb hfr hsz; have HRS : Hk (RdB (w1.setCell ⟨cb, 8, none⟩ (.int .i64 z1)) D R a0 n0 c0 xs at1 e1) := ⟨HRB1.out.fr ((Fr.refl (fun j => j = cb) w1).setCell (p := ⟨cb, 8, none⟩) (fun _ => rfl) _) (fun j hj e => by omega)⟩; have HCS : Hk (CmB (w1.setCell ⟨cb, 8, none⟩ (.int .i64 z1)) cb p s k n a m c t wd h z1 y) := ⟨⟨by go_simp, by go_simp, by go_simp, by go_simp, by go_simp, by go_simp, by go_simp, by go_simp, by go_simp, by go_simp, fun j => by have := HCB1.out.fz j; go_simp⟩⟩))
  go_end0
  have hF : Fr (fun j => j = R ∨ j = cb) w (w2.setCell ⟨cb, 9, none⟩ (.int .i64 z2)) := ((((HFR1.out.mono (fun j _ e => .inl e)).setCell (p := ⟨cb, 8, none⟩) (fun _ => .inr rfl) (.int .i64 z1)).andThen HFR2.out (fun j _ e => .inl e)).setCell (p := ⟨cb, 9, none⟩) (fun _ => .inr rfl) _)
  refine ⟨n, a, m, c, u, t, wd, h, z1, z2, at2, e2, rfl, by simp [rdP, HX1.out, HX2.out], ⟨by go_simp, by go_simp, by go_simp, by go_simp, by go_simp, by go_simp, by go_simp, by go_simp, by go_simp, by go_simp, fun j => by have := HCB2.out.fz j; go_simp⟩, Fr.owni HO.out hF (fun j hj h => ?_), HRB2.out.fr ((Fr.refl (fun j => j = cb) w2).setCell (p := ⟨cb, 9, none⟩) (fun _ => rfl) _) (fun j hj e => by omega), hF⟩
  have := (HO.out.lt j hj).1
  omega
set_option maxRecDepth 100000 in
set_option maxHeartbeats 3200000 in
theorem read2 (cb base D R : Nat) (a0 : Option Addr) (n0 c0 : Nat) (xs : List Int) (at_ : Nat) (e : Int) (p s k n : Int) (t wd h x y : Int) (w : World) (hD : D ≤ cb) (hcr : ¬ cb = R) (hcb : cb < base) (hR : R < base) (hbase : base ≤ w.heap.size) (HC : Hk (CmB w cb p s k n none 0 0 t wd h x y)) (HO : Hk (OwnI w base (.slice none 0 0) 0 [])) (HR : Hk (RdB w D R a0 n0 c0 xs at_ e)) :
    Calls Try.prog 46 #[.int .i64 2, .pointer (some ⟨R, 0, none⟩), .pointer (some ⟨cb, 0, none⟩)] w (ReadR (rdP xs 2 ⟨n, [], t, wd, h, x, y⟩ at_ e) cb p s k base D R a0 n0 c0 xs w) := by
  obtain ⟨i0, hi, hz0, hz1, hz2⟩ := info_parts info_i
  go_enter Try.func46, Try.ntmps46
  go_wp2_with (go_at_call 45; (with_reducible refine (cornum_any 1 64 D R a0 n0 c0 xs at_ e _ HR.out).mono ?_); rintro o w1 ⟨z1, at1, e1, rfl, hr, hrb, hfr, hsz⟩; have HX1 := Hk.mk hr; have HRB1 := Hk.mk hrb; have HFR1 := Hk.mk hfr; have HSZ1 := Hk.mk hsz; have HCB1 := Hk.mk (HC.out.fr hfr (show ¬ cb = R from hcr)); obtain ⟨b0, b1, b2, b3, b4, b5, b6, b7, b8, b9, bf⟩ := HCB1.out; clear bf; clear hr hrb hfr hsz; clear b0 b1 b2 b3 b4 b5 b6 b7 b8 b9; have hzb : 0 ≤ z1 ∧ z1 ≤ 64 := (by have := rdV_bd HX1.out; omega); obtain ⟨cnt, rfl⟩ : ∃ cnt : Nat, z1 = cnt := ⟨z1.toNat, by omega⟩)
  obtain ⟨hzb0, hzb1⟩ := hzb
  obtain ⟨lF, hlF⟩ : ∃ lF, rdU xs cnt 0 at1 e1 = lF := ⟨_, rfl⟩
  have HLF := Hk.mk hlF
  have HLFO := Hk.mk hlF
  clear hlF
  go_loopw [6, 26] (fun zs is wr => ∃ (j : Nat) (z : Int) (l : List Int) (at2 : Nat) (e2 : Int) (a' : Option Addr) (c' : Nat), zs = .int .i64 z ∧ is = .int .i64 j ∧ j ≤ cnt ∧ 0 ≤ z ∧ z ≤ 1099511627776 ∧ Hk ((l ++ (rdU xs (cnt - j) z at2 e2).1, (rdU xs (cnt - j) z at2 e2).2) = lF) ∧ Hk (OwnI wr w.heap.size (.slice a' j c') j l) ∧ Hk (CmB wr cb p s k n a' j c' t wd h x y) ∧ Hk (RdB wr D R a0 n0 c0 xs at2 e2) ∧ Hk (Fr (fun j => j = R ∨ j = cb) w wr)) (fun _ i _ => cnt - (intOf i).toNat)
  case atStart => exact ⟨0, 0, [], at1, e1, none, 0, rfl, rfl, by omega, by omega, by omega, ⟨by simpa using HLF.out⟩, ⟨OwnI.nil _ _⟩, HCB1, HRB1, ⟨HFR1.out.mono (fun j _ e => .inl e)⟩⟩
  case round =>
    clear HCB1 HRB1 HFR1 HSZ1 HLF
    obtain ⟨j, z, l, at2, e2, a', c', rfl, rfl, hj, hz, hzt, HL, HO2, HC2, HR2, HF2⟩ := hrel
    have c4 := HC2.out.c4
    by_cases hlt : j < cnt
    · have hsn : rdU xs (cnt - j) z at2 e2 = rdU xs ((cnt - (j + 1)) + 1) z at2 e2 := by rw [show cnt - j = cnt - (j + 1) + 1 by omega]
      have HSN := Hk.mk hsn
      have hws := HF2.out.size
      have i1 : (0 : Int) ≤ (j : Int) := by omega
      have i2 : (j : Int) < (cnt : Int) := by omega
      clear hsn c4
      go_wp2_with (first | (go_at_call 45; (with_reducible refine (cornum_any (z + 1) 1099511627776 D R a0 n0 c0 xs at2 e2 _ HR2.out).mono ?_); rintro o w3 ⟨z3, at3, e3, rfl, hr, hrb, hfr, hsz⟩; have HX3 := Hk.mk hr; have HRB3 := Hk.mk hrb; have HFR3 := Hk.mk hfr; have HSZ3 := Hk.mk hsz; have HCB3 := Hk.mk (HC2.out.fr hfr (show ¬ cb = R from hcr)); obtain ⟨b0, b1, b2, b3, b4, b5, b6, b7, b8, b9, bf⟩ := HCB3.out; have g4 := bf 4; clear bf; clear hr hrb hfr hsz; have hzb : 0 ≤ z3 ∧ z3 ≤ 1099511627776 := (by have := rdV_bd HX3.out; omega); have hown := (Fr.owni (M := fun j => j = R) HO2.out HFR3.out (fun q hq h => by have := (HO2.out.lt q hq).1; omega)).2; have hz3 := HSZ3.out; have HOW := Hk.mk hown) | (at_builtin; refine wpList_append_own _ rfl _ _ 24 rfl w.heap.size 3 i0 (.int .i64 0) 1 8 Try.underlying24 hi hz0 hz1 hz2 rfl (by decide) _ _ _ rfl (hown.alloc _) ⟨w3.heap.size, 0, none⟩ 1 1 [.int .i64 z3] rfl rfl ?_ ?_ ?_ ?_ ?_ ?_; (exact one_new _ _ _); (intro u hu; simp at hu; subst hu; rfl); (unfold maxLen; omega); (omega); (simp; omega); intro v' w4 hown' hgrow _; have ho4 : OwnI w4 w.heap.size v' (j + 1) (l ++ [z3]) := ⟨by simp [HO2.out.1], by simpa using hown'⟩; obtain ⟨a4, c4', rfl, hc4, -⟩ := ho4.nq; have HO4 := Hk.mk ho4; have hf4 : Fr (fun j => w.heap.size ≤ j) w3 w4 := (((Fr.refl _ w3).alloc _).grown hgrow (fun q _ hq => (HOW.out.lt q hq).1)); have HF4 := Hk.mk hf4; have hcw : cb < w.heap.size := (by omega); have HCB4 := Hk.mk (HCB3.out.fr hf4 (show ¬ w.heap.size ≤ cb by omega)); have HRB4 := Hk.mk (HRB3.out.fr hf4 (fun q hq h => by have : D ≤ cb := hD; omega)); clear b0 b1 b2 b3 b4 b5 b6 b7 b8 b9 g4 hown' hgrow ho4 hf4 hown; obtain ⟨b0, b1, b2, b3, b4, b5, b6, b7, b8, b9, bf⟩ := HCB4.out; have g4 := bf 4; clear bf))
      obtain ⟨hzb0', hzb1'⟩ := hzb
      go_roundw
      case rel =>
        refine ⟨j + 1, z3, l ++ [z3], at3, e3, a4, c4', by go_num, by go_num, by omega, by omega, by omega, ⟨?_⟩, ⟨?_⟩, ⟨⟨by go_simp, by go_simp, by go_simp, by go_simp, by go_simp, by go_simp, by go_simp, by go_simp, by go_simp, by go_simp, fun j => by have := HCB4.out.fz j; go_simp⟩⟩, ⟨?_⟩, ⟨?_⟩⟩
        · have h1 := HL.out
          rw [HSN.out, rdU, HX3.out] at h1
          simpa using h1
        · exact Fr.owni (M := fun j => j = cb) HO4.out ((Fr.refl (fun j => j = cb) w4).setCell (p := ⟨cb, 4, none⟩) (fun _ => rfl) _) (fun q hq h => by have := (HO4.out.lt q hq).1; omega)
        · exact HRB4.out.fr ((Fr.refl (fun j => j = cb) w4).setCell (p := ⟨cb, 4, none⟩) (fun _ => rfl) _) (fun q hq e => by omega)
        · exact ((HF2.out.andThen HFR3.out (fun q _ e => .inl e)).andThen HF4.out (fun q hq e => by omega)).setCell (p := ⟨cb, 4, none⟩) (fun _ => .inr rfl) _
      case measure => simp [intOf]; omega
    · have hjc : j = cnt := by omega
      subst hjc
      go_wp2
      go_end0
      refine ⟨n, a', j, c', l, t, wd, h, x, y, at2, e2, rfl, ?_, HC2.out, HO2.out.weak hbase, HR2.out, HF2.out⟩
      have h1 := HL.out
      simp [rdU] at h1
      simp [rdP, HX1.out, HLFO.out, ← h1]
end Go.Proofs.Ytkffleclofkjmaa
