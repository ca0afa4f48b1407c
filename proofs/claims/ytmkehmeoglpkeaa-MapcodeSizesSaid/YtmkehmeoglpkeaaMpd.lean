/- Package codec: a reader that is summed. -/
import Derived.Test.YtmkehmeoglpkeaaCob
import Derived.Test.YtmkehmeoglpkeaaMpc
import Derived.Deep.QuietTactic
import Derived.BigQuiet
namespace Go.Proofs.Ytmkehmeoglpkeaa
open Go.RowKit
set_option linter.unusedVariables false
/-- A reader's place and error are changed alone. -/
structure RW (R : Nat) (w w' : World) : Prop where
  fr : Fr (fun j => j = R) w w'
  rest : ∀ o, 3 ≤ o → w'.cell? ⟨R, o, none⟩ = w.cell? ⟨R, o, none⟩
  fz : ∀ o, w'.frozen? ⟨R, o, none⟩ = w.frozen? ⟨R, o, none⟩
  size : w.heap.size = w'.heap.size
theorem RW.refl (R : Nat) (w : World) : RW R w w := ⟨Fr.refl _ _, fun _ _ => rfl, fun _ => rfl, rfl⟩
theorem RW.trans {R : Nat} {a b c : World} (h : RW R a b) (k : RW R b c) : RW R a c :=
  ⟨h.fr.trans k.fr, fun o ho => (k.rest o ho).trans (h.rest o ho), fun o => (k.fz o).trans (h.fz o), h.size.trans k.size⟩
theorem RW.drewN {R : Nat} {a b : World} (h : RW R a b) (m : Nat) : RW R a (b.drewN m) := ⟨h.fr.drewN m, h.rest, h.fz, h.size⟩
theorem RW.setCell {R : Nat} {a b : World} (h : RW R a b) {o : Nat} (ho : o ≤ 2) (v : Value) : RW R a (b.setCell ⟨R, o, none⟩ v) :=
  ⟨h.fr.setCell (p := ⟨R, o, none⟩) (fun _ => rfl) v, fun q hq => by
    have h1 : ¬ q = o := by omega
    have h2 := h.rest q hq
    go_simp, fun q => by
    have h2 := h.fz q
    go_simp, by have := h.size; simp; omega⟩
/-- Take: counted as read, or the error kept. -/
def TakeW (K E : Int) (D R : Nat) (a : Option Addr) (n c : Nat) (xs : List Int) (at_ : Nat) (e : Int) (w : World) (o : Ending) (w' : World) : Prop :=
  o = .returned (.tuple #[]) ∧ RdB w' D R a n c xs (if e = 0 ∧ E = 0 then at_ + K.toNat else at_) (if e = 0 then E else e) ∧ RW R w w'
theorem cotakeW_any (K E : Int) (D R : Nat) (a : Option Addr) (n c : Nat) (xs : List Int) (at_ : Nat) (e : Int) (w : World) (H : RdB w D R a n c xs at_ e) (hK : 0 ≤ K) (hKn : at_ + K.toNat ≤ n) :
    Calls Try.prog 47 #[.pointer (some ⟨R, 0, none⟩), .int .i64 K, .int .i64 E] w (TakeW K E D R a n c xs at_ e w) := by
  obtain ⟨c0, c1, c2, f1, f2, hby, hdr, hnc, hcm, hnm, han, hle⟩ := H
  have HB := Hk.mk hby
  have hRs : R < w.heap.size := World.block_lt_of_cell? _ _ c0
  have HAN := Hk.mk han
  clear hby han
  by_cases he : e = 0
  · subst he
    by_cases hE : E = 0
    · subst hE
      obtain ⟨k, rfl⟩ : ∃ k : Nat, K = k := ⟨K.toNat, by omega⟩
      have hkk : at_ + k ≤ n := by simpa using hKn
      go_enter Try.func47, Try.ntmps47
      go_wp2
      go_end0
      refine ⟨rfl, ⟨by go_simp, ?_, by go_simp, by go_simp, by go_simp, (HB.out.setR hdr (Nat.le_of_lt hRs) 2 (.int .i64 0)).setR hdr (by simp; omega) 1 _, hdr, hnc, hcm, hnm, HAN.out, by simp; omega⟩, ?_⟩
      · simp
        exact World.cell?_setCell_same' _ _ _ (by go_simp)
      · exact ((RW.refl R w).setCell (by omega) _).setCell (by omega) _
    · have b1 : (E == 0) = false := by simp; omega
      go_enter Try.func47, Try.ntmps47
      go_wp2
      go_end0
      refine ⟨rfl, ?_, (RW.refl R w).setCell (by omega) _⟩
      rw [if_neg (by omega), if_pos rfl]
      exact ⟨by go_simp, by go_simp, by go_simp, by go_simp, by go_simp, HB.out.setR hdr (Nat.le_of_lt hRs) 2 (.int .i64 E), hdr, hnc, hcm, hnm, HAN.out, hle⟩
  · have b1 : (e == 0) = false := by simp; omega
    have b2 : (e != 0) = true := by simp; omega
    go_enter Try.func47, Try.ntmps47
    go_wp2
    go_end0
    refine ⟨rfl, ?_, RW.refl _ _⟩
    rw [if_neg (by omega), if_neg he]
    exact ⟨c0, c1, c2, f1, f2, HB.out, hdr, hnc, hcm, hnm, HAN.out, hle⟩
theorem cotakeW_as (K E : Int) (D R : Nat) (a : Option Addr) (n c : Nat) (xs : List Int) (at_ : Nat) (e : Int) (at' : Nat) (e' : Int) (w : World) (H : RdB w D R a n c xs at_ e) (hK : 0 ≤ K) (hKn : at_ + K.toNat ≤ n) (HA : Hk ((if e = 0 ∧ E = 0 then at_ + K.toNat else at_) = at')) (HE : Hk ((if e = 0 then E else e) = e')) :
    Calls Try.prog 47 #[.pointer (some ⟨R, 0, none⟩), .int .i64 K, .int .i64 E] w fun o w' => o = .returned (.tuple #[]) ∧ RdB w' D R a n c xs at' e' ∧ RW R w w' := by
  refine (cotakeW_any K E D R a n c xs at_ e w H hK hKn).mono fun o w' h => ?_
  have h' := h
  unfold TakeW at h'
  rw [HA.out, HE.out] at h'
  exact h'
/-- What a reading of a number leaves. -/
def NumW (r : Int × Nat × Int) (D R : Nat) (a : Option Addr) (n c : Nat) (xs : List Int) (w : World) (o : Ending) (w' : World) : Prop :=
  ∃ z at' e', o = .returned (.int .i64 z) ∧ r = (z, at', e') ∧ RdB w' D R a n c xs at' e' ∧ RW R w w'
theorem conumberW (N K E lo hi : Int) (D R : Nat) (a : Option Addr) (n c : Nat) (xs : List Int) (at_ : Nat) (e : Int) (w : World) (H : RdB w D R a n c xs at_ e) (hK : 0 ≤ K) (hKn : at_ + K.toNat ≤ n) :
    Calls Try.prog 41 #[.pointer (some ⟨R, 0, none⟩), .int .i64 N, .int .i64 K, .int .i64 E, .int .i64 lo, .int .i64 hi] w (NumW (stpC N K E lo hi at_ e) D R a n c xs w) := by
  have HR := Hk.mk H
  clear H
  by_cases hE : E = 0
  · subst hE
    by_cases hr : N < lo ∨ hi < N
    · obtain ⟨at', hat⟩ : ∃ at', (if e = 0 ∧ (1 : Int) = 0 then at_ + K.toNat else at_) = at' := ⟨_, rfl⟩
      obtain ⟨e', hee⟩ : ∃ e', (if e = 0 then (1 : Int) else e) = e' := ⟨_, rfl⟩
      have RR : Hk (stpC N K 0 lo hi at_ e = (0, at', e')) := ⟨by rw [← hat, ← hee]; unfold stpC; by_cases h0 : e = 0 <;> simp [h0, hr]⟩
      have hne : ¬ e' = 0 := by rw [← hee]; split <;> omega
      have b2 : (e' == 0) = false := by simpa using hne
      have b3 : (e' != 0) = true := by simpa using hne
      have HA := Hk.mk hat
      have HE := Hk.mk hee
      clear hat hee hne
      by_cases h1 : N < lo
      · have b0 : decide (N < lo) = true := by simpa using h1
        clear hr
        go_enter Try.func41, Try.ntmps41
        go_wp2_with (go_at_call 47; (with_reducible refine (cotakeW_as K 1 D R a n c xs at_ e at' e' _ HR.out hK hKn HA HE).mono ?_); rintro o w1 ⟨rfl, hr1, hf1⟩; have d2 := hr1.c2; have HR1 := Hk.mk hr1; have HF1 := Hk.mk hf1; clear hr1 hf1)
        go_ret
        exact ⟨0, at', e', rfl, RR.out, HR1.out, HF1.out⟩
      · have h2 : hi < N := by omega
        have b0 : decide (N < lo) = false := by simpa using h1
        have b1 : decide (hi < N) = true := by simpa using h2
        clear hr
        go_enter Try.func41, Try.ntmps41
        go_wp2_with (go_at_call 47; (with_reducible refine (cotakeW_as K 1 D R a n c xs at_ e at' e' _ HR.out hK hKn HA HE).mono ?_); rintro o w1 ⟨rfl, hr1, hf1⟩; have d2 := hr1.c2; have HR1 := Hk.mk hr1; have HF1 := Hk.mk hf1; clear hr1 hf1)
        go_ret
        exact ⟨0, at', e', rfl, RR.out, HR1.out, HF1.out⟩
    · have h1 : ¬ N < lo := by omega
      have h2 : ¬ hi < N := by omega
      have b0 : decide (N < lo) = false := by simpa using h1
      have b1 : decide (hi < N) = false := by simpa using h2
      by_cases h0 : e = 0
      · subst h0
        obtain ⟨at', hat⟩ : ∃ at', at_ + K.toNat = at' := ⟨_, rfl⟩
        obtain ⟨e', hee⟩ : ∃ e' : Int, 0 = e' := ⟨_, rfl⟩
        have RR : Hk (stpC N K 0 lo hi at_ 0 = (N, at', e')) := ⟨by rw [← hat, ← hee]; unfold stpC; simp [hr]⟩
        have b2 : (e' == 0) = true := by simp [← hee]
        have b3 : (e' != 0) = false := by simp [← hee]
        have HA : Hk ((if (0 : Int) = 0 ∧ (0 : Int) = 0 then at_ + K.toNat else at_) = at') := ⟨by simpa using hat⟩
        have HE : Hk ((if (0 : Int) = 0 then (0 : Int) else 0) = e') := ⟨by simpa using hee⟩
        clear hat hee hr
        go_enter Try.func41, Try.ntmps41
        go_wp2_with (go_at_call 47; (with_reducible refine (cotakeW_as K 0 D R a n c xs at_ 0 at' e' _ HR.out hK hKn HA HE).mono ?_); rintro o w1 ⟨rfl, hr1, hf1⟩; have d2 := hr1.c2; have HR1 := Hk.mk hr1; have HF1 := Hk.mk hf1; clear hr1 hf1)
        go_ret
        exact ⟨N, at', e', rfl, RR.out, HR1.out, HF1.out⟩
      · obtain ⟨at', hat⟩ : ∃ at', at_ = at' := ⟨_, rfl⟩
        obtain ⟨e', hee⟩ : ∃ e', e = e' := ⟨_, rfl⟩
        have RR : Hk (stpC N K 0 lo hi at_ e = (0, at', e')) := ⟨by rw [← hat, ← hee]; unfold stpC; simp [h0]⟩
        have b2 : (e' == 0) = false := by simpa [← hee] using h0
        have b3 : (e' != 0) = true := by simpa [← hee] using h0
        have HA : Hk ((if e = 0 ∧ (0 : Int) = 0 then at_ + K.toNat else at_) = at') := ⟨by simpa [h0] using hat⟩
        have HE : Hk ((if e = 0 then (0 : Int) else e) = e') := ⟨by simpa [h0] using hee⟩
        clear hat hee hr h0
        go_enter Try.func41, Try.ntmps41
        go_wp2_with (go_at_call 47; (with_reducible refine (cotakeW_as K 0 D R a n c xs at_ e at' e' _ HR.out hK hKn HA HE).mono ?_); rintro o w1 ⟨rfl, hr1, hf1⟩; have d2 := hr1.c2; have HR1 := Hk.mk hr1; have HF1 := Hk.mk hf1; clear hr1 hf1)
        go_ret
        exact ⟨0, at', e', rfl, RR.out, HR1.out, HF1.out⟩
  · obtain ⟨at', hat⟩ : ∃ at', (if e = 0 ∧ E = 0 then at_ + K.toNat else at_) = at' := ⟨_, rfl⟩
    obtain ⟨e', hee⟩ : ∃ e', (if e = 0 then E else e) = e' := ⟨_, rfl⟩
    have RR : Hk (stpC N K E lo hi at_ e = (0, at', e')) := ⟨by rw [← hat, ← hee]; unfold stpC; by_cases h0 : e = 0 <;> simp [h0, hE]⟩
    have hne : ¬ e' = 0 := by rw [← hee]; split <;> omega
    have b0 : (E == 0) = false := by simpa using hE
    have b2 : (e' == 0) = false := by simpa using hne
    have b3 : (e' != 0) = true := by simpa using hne
    have HA := Hk.mk hat
    have HE := Hk.mk hee
    clear hat hee hne hE
    go_enter Try.func41, Try.ntmps41
    go_wp2_with (go_at_call 47; (with_reducible refine (cotakeW_as K E D R a n c xs at_ e at' e' _ HR.out hK hKn HA HE).mono ?_); rintro o w1 ⟨rfl, hr1, hf1⟩; have d2 := hr1.c2; have HR1 := Hk.mk hr1; have HF1 := Hk.mk hf1; clear hr1 hf1)
    go_ret
    exact ⟨0, at', e', rfl, RR.out, HR1.out, HF1.out⟩
theorem cornumW (lo hi : Int) (D R : Nat) (a : Option Addr) (n c : Nat) (xs : List Int) (at_ : Nat) (e : Int) (w : World) (H : RdB w D R a n c xs at_ e) :
    Calls Try.prog 30 #[.pointer (some ⟨R, 0, none⟩), .int .i64 lo, .int .i64 hi] w (NumW (rdV false xs lo hi at_ e) D R a n c xs w) := by
  have HR := Hk.mk H
  have hl := H.by_.len
  have hle := H.le
  have hlt := Nat.le_trans H.dr (Nat.le_of_lt H.lt)
  have hnm : n - at_ ≤ 1099511627776 := by have := H.nm; omega
  have hk := getS_k (xs := xs.drop at_) (fun b hb => H.by_.byt b (List.mem_of_mem_drop hb))
  obtain ⟨G, hG⟩ : ∃ G, Wr.getS (xs.drop at_) = G := ⟨_, rfl⟩
  obtain ⟨N, K, E⟩ := G
  rw [hG] at hk
  simp at hk
  have hK : 0 ≤ K := hk.1
  have hKn : at_ + K.toNat ≤ n := by omega
  have RR : Hk (rdV false xs lo hi at_ e = stpC N K E lo hi at_ e) := ⟨by unfold rdV; rw [hG]; rfl⟩
  have HG := Hk.mk hG
  clear H hG hk hl
  go_enter Try.func30, Try.ntmps30
  go_wp2_with (first | (go_at_call 40; (with_reducible refine (corest_any D R a n c xs at_ e _ HR.out).mono ?_); rintro o w1 ⟨a', m, rfl, rfl, hb1⟩; have HB1 := Hk.mk (hb1.mono (show D ≤ (w.drewN m).heap.size from hlt)); clear hb1) | (go_at_call 39; (with_reducible refine (getnum_any a' (n - at_) (c - at_) (xs.drop at_) _ HB1.out hnm).mono ?_); rintro o w' ⟨rfl, rfl⟩; rw [HG.out]; dsimp only) | (go_at_call 41; (with_reducible refine (conumberW N K E lo hi D R a n c xs at_ e _ (HR.out.drewN m) hK hKn).mono ?_); rintro o w1 ⟨z, at', e', rfl, hr, hrb, hfr⟩; have HX := Hk.mk hr; have HRB := Hk.mk hrb; have HFR := Hk.mk hfr; clear hr hrb hfr))
  go_ret
  exact ⟨z, at', e', rfl, by rw [RR.out]; exact HX.out, HRB.out, ((RW.refl _ _).drewN m).trans HFR.out⟩
/-- A byte read, between bounds. -/
def byteS (xs : List Int) (lo hi : Int) (at_ : Nat) (e : Int) : Int × Nat × Int :=
  if e ≠ 0 then (0, at_, e) else if xs.length ≤ at_ then (0, at_, 11) else if xs.getD at_ 0 < lo ∨ hi < xs.getD at_ 0 then (0, at_, 1) else (xs.getD at_ 0, at_ + 1, 0)
def ByteW (r : Int × Nat × Int) (D R : Nat) (a : Option Addr) (n c : Nat) (xs : List Int) (w : World) (o : Ending) (w' : World) : Prop :=
  ∃ z at' e', o = .returned (.int .u8 z) ∧ r = (z, at', e') ∧ RdB w' D R a n c xs at' e' ∧ RW R w w'
set_option maxRecDepth 100000 in
theorem cobyte_any (lo hi : Int) (D R : Nat) (a : Option Addr) (n c : Nat) (xs : List Int) (at_ : Nat) (e : Int) (w : World) (H : RdB w D R a n c xs at_ e) :
    Calls Try.prog 31 #[.pointer (some ⟨R, 0, none⟩), .int .u8 lo, .int .u8 hi] w (ByteW (byteS xs lo hi at_ e) D R a n c xs w) := by
  have HR := Hk.mk H
  obtain ⟨c0, c1, c2, f1, f2, hby, hdr, hnc, hcm, hnm, han, hle⟩ := H
  have HB := Hk.mk hby
  have hRs : R < w.heap.size := World.block_lt_of_cell? _ _ c0
  have HLX := Hk.mk hby.len
  have HAN := Hk.mk han
  clear hby han
  by_cases he : e = 0
  · subst he
    by_cases ha : at_ = n
    · subst ha
      go_enter Try.func31, Try.ntmps31
      go_wp2
      go_quiet (fail)
      go_wp2
      go_ret
      refine ⟨0, at_, 11, rfl, by unfold byteS; rw [if_neg (by omega), if_pos (by rw [HLX.out]; exact Nat.le_refl _)], ?_, ((RW.refl R w).drewN _).setCell (by omega) _⟩
      exact ⟨by go_simp, by go_simp, by go_simp, by go_simp, by go_simp, (HB.out.drewN _).setR hdr (Nat.le_of_lt hRs) 2 _, hdr, hnc, hcm, hnm, HAN.out, hle⟩
    · have hlt : at_ < n := by omega
      obtain ⟨b, off, rfl, hbl, hc⟩ := HB.out.at_ (by omega)
      have hcx := hc at_ hlt
      have HBB := Hk.mk hbl
      have j0 : (0 : Int) ≤ (at_ : Int) := by omega
      have j1 : (at_ : Int) < (n : Int) := by omega
      have b3 : ((at_ : Int) == (n : Int)) = false := by simp; omega
      obtain ⟨x, hx⟩ : ∃ x, xs.getD at_ 0 = x := ⟨_, rfl⟩
      rw [hx] at hcx
      have HX := Hk.mk hx
      clear hc hx hbl ha
      by_cases q1 : x < lo
      · have z1 : decide (x < lo) = true := by simpa using q1
        have RR : Hk (byteS xs lo hi at_ 0 = (0, at_, 1)) := ⟨by unfold byteS; rw [if_neg (by omega), if_neg (by have := HLX.out; omega), if_pos (by have := HX.out; omega)]⟩
        clear q1
        go_enter Try.func31, Try.ntmps31
        go_wp2
        go_quiet (fail)
        go_wp2
        go_quiet (fail)
        go_wp2
        go_ret
        refine ⟨0, at_, 1, rfl, RR.out, ?_, ((RW.refl R w).drewN _).setCell (by omega) _⟩
        exact ⟨by go_simp, by go_simp, by go_simp, by go_simp, by go_simp, (HB.out.drewN _).setR hdr (Nat.le_of_lt hRs) 2 _, hdr, hnc, hcm, hnm, HAN.out, hle⟩
      · have z1 : decide (x < lo) = false := by simpa using q1
        by_cases q2 : hi < x
        · have z2 : decide (hi < x) = true := by simpa using q2
          have RR : Hk (byteS xs lo hi at_ 0 = (0, at_, 1)) := ⟨by unfold byteS; rw [if_neg (by omega), if_neg (by have := HLX.out; omega), if_pos (by have := HX.out; omega)]⟩
          clear q1 q2
          go_enter Try.func31, Try.ntmps31
          go_wp2
          go_quiet (fail)
          go_wp2
          go_quiet (fail)
          go_wp2
          go_ret
          refine ⟨0, at_, 1, rfl, RR.out, ?_, ((RW.refl R w).drewN _).setCell (by omega) _⟩
          exact ⟨by go_simp, by go_simp, by go_simp, by go_simp, by go_simp, (HB.out.drewN _).setR hdr (Nat.le_of_lt hRs) 2 _, hdr, hnc, hcm, hnm, HAN.out, hle⟩
        · have z2 : decide (hi < x) = false := by simpa using q2
          have RR : Hk (byteS xs lo hi at_ 0 = (x, at_ + 1, 0)) := ⟨by unfold byteS; rw [if_neg (by omega), if_neg (by have := HLX.out; omega), if_neg (by have := HX.out; omega), HX.out]⟩
          clear q1 q2
          have HNR : ¬ b = R := by have := HBB.out; omega
          go_enter Try.func31, Try.ntmps31
          go_wp2
          go_quiet (fail)
          go_wp2
          go_quiet (fail)
          go_wp2
          generalize hd : w.drewN _ = wd
          have HDW : Hk (RW R w wd ∧ RdB wd D R (some ⟨b, off, none⟩) n c xs at_ 0 ∧ wd.cell? ⟨b, off + at_, none⟩ = some (.int .u8 x)) := ⟨by subst hd; exact ⟨(RW.refl R w).drewN _, HR.out.drewN _, hcx⟩⟩
          clear hd
          have d0 : (wd.setCell ⟨R, 1, none⟩ (.int .i64 ((at_ : Int) + 1))).cell? ⟨R, 0, none⟩ = some (.slice (some ⟨b, off, none⟩) n c) := by have h1 := HDW.out.2.1.c0; go_simp
          have d1 : (wd.setCell ⟨R, 1, none⟩ (.int .i64 ((at_ : Int) + 1))).cell? ⟨R, 1, none⟩ = some (.int .i64 ((at_ : Int) + 1)) := World.cell?_setCell_same' _ _ _ (by rw [HDW.out.2.1.c1]; rfl)
          have d2 : (wd.setCell ⟨R, 1, none⟩ (.int .i64 ((at_ : Int) + 1))).cell? ⟨b, off + at_, none⟩ = some (.int .u8 x) := by have h1 := HDW.out.2.2; go_simp
          have HRW : Hk (RW R w (wd.setCell ⟨R, 1, none⟩ (.int .i64 ((at_ : Int) + 1)))) := ⟨HDW.out.1.setCell (by omega) _⟩
          have HRD : Hk (RdB (wd.setCell ⟨R, 1, none⟩ (.int .i64 ((at_ : Int) + 1))) D R (some ⟨b, off, none⟩) n c xs (at_ + 1) 0) :=
            ⟨⟨d0, d1, by have h1 := HDW.out.2.1.c2; go_simp, by have h1 := HDW.out.2.1.f1; go_simp, by have h1 := HDW.out.2.1.f2; go_simp, HDW.out.2.1.by_.setR hdr (by have := HDW.out.1.size; omega) 1 _, hdr, hnc, hcm, hnm, HAN.out, hlt⟩⟩
          clear c0 c1 c2 f1 f2 hcx
          generalize wd.setCell ⟨R, 1, none⟩ (.int .i64 ((at_ : Int) + 1)) = w3 at *
          have hwr : IntKind.i64.wrap ((at_ : Int) + 1 - 1) = at_ := by rw [IntKind.wrap_i64]; omega
          go_quiet (fail)
          go_wp2
          go_ret
          exact ⟨x, at_ + 1, 0, rfl, RR.out, HRD.out.drewN _, HRW.out.drewN _⟩
  · have b2 : (e != 0) = true := by simp; omega
    have RR : Hk (byteS xs lo hi at_ e = (0, at_, e)) := ⟨by unfold byteS; rw [if_pos he]⟩
    clear he
    go_enter Try.func31, Try.ntmps31
    go_wp2
    go_ret
    exact ⟨0, at_, e, rfl, RR.out, HR.out, RW.refl _ _⟩
end Go.Proofs.Ytmkehmeoglpkeaa
