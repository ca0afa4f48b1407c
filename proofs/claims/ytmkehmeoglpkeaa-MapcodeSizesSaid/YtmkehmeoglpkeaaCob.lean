/- Package codec: what a reader reads. -/
import Derived.Test.YtmkehmeoglpkeaaCoa
import Derived.Deep.QuietTactic
import Derived.BigQuiet
namespace Go.Proofs.Ytmkehmeoglpkeaa
open Go.RowKit
set_option linter.unusedVariables false
/-- A reader in block R of these bytes, so far, with this error. -/
structure RdB (w : World) (D R : Nat) (a : Option Addr) (n c : Nat) (xs : List Int) (at_ : Nat) (e : Int) : Prop where
  c0 : w.cell? ⟨R, 0, none⟩ = some (.slice a n c)
  c1 : w.cell? ⟨R, 1, none⟩ = some (.int .i64 at_)
  c2 : w.cell? ⟨R, 2, none⟩ = some (.int .i64 e)
  f1 : w.frozen? ⟨R, 1, none⟩ = false
  f2 : w.frozen? ⟨R, 2, none⟩ = false
  by_ : By w D a n xs
  dr : D ≤ R
  nc : n ≤ c
  cm : c ≤ 9223372036854775807
  nm : n ≤ 1099511627776
  an : a = none → c = 0
  le : at_ ≤ n
theorem RdB.lt {w : World} {D R : Nat} {a : Option Addr} {n c : Nat} {xs : List Int} {at_ : Nat} {e : Int} (h : RdB w D R a n c xs at_ e) : R < w.heap.size := World.block_lt_of_cell? _ _ h.c0
theorem By.fr {M : Nat → Prop} {w w' : World} {D n : Nat} {a : Option Addr} {xs : List Int} (h : By w D a n xs) (k : Fr M w w') (hR : D ≤ w.heap.size) (hM : ∀ j, j < D → ¬ M j) : By w' D a n xs :=
  ⟨h.len, h.byt, fun hn => by
    obtain ⟨b, off, e1, h1, h2⟩ := h.rd hn
    exact ⟨b, off, e1, h1, fun j hj => (k.cell (by omega) (hM b h1)).trans (h2 j hj)⟩⟩
/-- Nothing that stands, up to the reader's block, is touched. -/
theorem RdB.fr {M : Nat → Prop} {w w' : World} {D R : Nat} {a : Option Addr} {n c : Nat} {xs : List Int} {at_ : Nat} {e : Int} (h : RdB w D R a n c xs at_ e) (k : Fr M w w') (hM : ∀ j, j < D ∨ j = R → ¬ M j) : RdB w' D R a n c xs at_ e :=
  ⟨(k.cell h.lt (hM R (.inr rfl))).trans h.c0, (k.cell h.lt (hM R (.inr rfl))).trans h.c1, (k.cell h.lt (hM R (.inr rfl))).trans h.c2, (k.frozen h.lt (hM R (.inr rfl))).trans h.f1, (k.frozen h.lt (hM R (.inr rfl))).trans h.f2,
   h.by_.fr k (Nat.le_trans h.dr (Nat.le_of_lt h.lt)) (fun j hj => hM j (.inl hj)), h.dr, h.nc, h.cm, h.nm, h.an, h.le⟩
theorem RdB.drewN {w : World} {D R : Nat} {a : Option Addr} {n c : Nat} {xs : List Int} {at_ : Nat} {e : Int} (h : RdB w D R a n c xs at_ e) (m : Nat) : RdB (w.drewN m) D R a n c xs at_ e :=
  h.fr ((Fr.refl (fun _ => False) w).drewN m) fun _ _ x => x
/-- One step of a reader: what it answers, where it stands, its error. -/
def stpC (N K E lo hi : Int) (at_ : Nat) (e : Int) : Int × Nat × Int :=
  if e ≠ 0 then (0, at_, e) else if E ≠ 0 then (0, at_, E) else if N < lo ∨ hi < N then (0, at_, 1) else (N, at_ + K.toNat, 0)
def rdV (sg : Bool) (xs : List Int) (lo hi : Int) (at_ : Nat) (e : Int) : Int × Nat × Int :=
  stpC (if sg then Wr.unzig (Wr.getS (xs.drop at_)).1 else (Wr.getS (xs.drop at_)).1) (Wr.getS (xs.drop at_)).2.1 (Wr.getS (xs.drop at_)).2.2 lo hi at_ e
theorem By.setR {w : World} {D R n : Nat} {a : Option Addr} {xs : List Int} (h : By w D a n xs) (hD : D ≤ R) (hR : R ≤ w.heap.size) (o : Nat) (v : Value) : By (w.setCell ⟨R, o, none⟩ v) D a n xs :=
  h.fr (M := fun j => j = R) ((Fr.refl (fun j => j = R) w).setCell (p := ⟨R, o, none⟩) (fun _ => rfl) v) (by omega) (fun j hj e => by omega)
/-- Take: counted as read, or the error kept. -/
def TakeR (K E : Int) (D R : Nat) (a : Option Addr) (n c : Nat) (xs : List Int) (at_ : Nat) (e : Int) (w : World) (o : Ending) (w' : World) : Prop :=
  o = .returned (.tuple #[]) ∧ RdB w' D R a n c xs (if e = 0 ∧ E = 0 then at_ + K.toNat else at_) (if e = 0 then E else e) ∧ Fr (fun j => j = R) w w' ∧ w.heap.size = w'.heap.size
theorem cotake_any (K E : Int) (D R : Nat) (a : Option Addr) (n c : Nat) (xs : List Int) (at_ : Nat) (e : Int) (w : World) (H : RdB w D R a n c xs at_ e) (hK : 0 ≤ K) (hKn : at_ + K.toNat ≤ n) :
    Calls Try.prog 47 #[.pointer (some ⟨R, 0, none⟩), .int .i64 K, .int .i64 E] w (TakeR K E D R a n c xs at_ e w) := by
  obtain ⟨c0, c1, c2, f1, f2, hby, hdr, hnc, hcm, hnm, han, hle⟩ := H
  have HB := Hk.mk hby
  have hRs : R < w.heap.size := World.block_lt_of_cell? _ _ c0
  have HAN := Hk.mk han
  clear hby han
  by_cases he : e = 0
  · subst he
    by_cases hE : E = 0
    · subst hE
      obtain ⟨k, rfl⟩ : ∃ k : Nat, K = k := ⟨K.toNat, by omega⟩
      have hkk : at_ + k ≤ n := by simpa using hKn
      go_enter Try.func47, Try.ntmps47
      go_wp2
      go_end0
      refine ⟨rfl, ⟨by go_simp, ?_, by go_simp, by go_simp, by go_simp, (HB.out.setR hdr (Nat.le_of_lt hRs) 2 (.int .i64 0)).setR hdr (by simp; omega) 1 _, hdr, hnc, hcm, hnm, HAN.out, by simp; omega⟩, ?_, by simp⟩
      · simp
        exact World.cell?_setCell_same' _ _ _ (by go_simp)
      · exact ((Fr.refl (fun j => j = R) w).setCell (p := ⟨R, 2, none⟩) (fun _ => rfl) (.int .i64 0)).setCell (p := ⟨R, 1, none⟩) (fun _ => rfl) _
    · have b1 : (E == 0) = false := by simp; omega
      go_enter Try.func47, Try.ntmps47
      go_wp2
      go_end0
      refine ⟨rfl, ?_, (Fr.refl (fun j => j = R) w).setCell (p := ⟨R, 2, none⟩) (fun _ => rfl) (.int .i64 E), by simp⟩
      rw [if_neg (by omega), if_pos rfl]
      exact ⟨by go_simp, by go_simp, by go_simp, by go_simp, by go_simp, HB.out.setR hdr (Nat.le_of_lt hRs) 2 (.int .i64 E), hdr, hnc, hcm, hnm, HAN.out, hle⟩
  · have b1 : (e == 0) = false := by simp; omega
    have b2 : (e != 0) = true := by simp; omega
    go_enter Try.func47, Try.ntmps47
    go_wp2
    go_end0
    refine ⟨rfl, ?_, Fr.refl _ _, rfl⟩
    rw [if_neg (by omega), if_neg he]
    exact ⟨c0, c1, c2, f1, f2, HB.out, hdr, hnc, hcm, hnm, HAN.out, hle⟩
/-- What a reading of a number leaves. -/
def NumR (r : Int × Nat × Int) (D R : Nat) (a : Option Addr) (n c : Nat) (xs : List Int) (w : World) (o : Ending) (w' : World) : Prop :=
  ∃ z at' e', o = .returned (.int .i64 z) ∧ r = (z, at', e') ∧ RdB w' D R a n c xs at' e' ∧ Fr (fun j => j = R) w w' ∧ w.heap.size = w'.heap.size
theorem cotake_as (K E : Int) (D R : Nat) (a : Option Addr) (n c : Nat) (xs : List Int) (at_ : Nat) (e : Int) (at' : Nat) (e' : Int) (w : World) (H : RdB w D R a n c xs at_ e) (hK : 0 ≤ K) (hKn : at_ + K.toNat ≤ n) (HA : Hk ((if e = 0 ∧ E = 0 then at_ + K.toNat else at_) = at')) (HE : Hk ((if e = 0 then E else e) = e')) :
    Calls Try.prog 47 #[.pointer (some ⟨R, 0, none⟩), .int .i64 K, .int .i64 E] w fun o w' => o = .returned (.tuple #[]) ∧ RdB w' D R a n c xs at' e' ∧ Fr (fun j => j = R) w w' ∧ w.heap.size = w'.heap.size := by
  refine (cotake_any K E D R a n c xs at_ e w H hK hKn).mono fun o w' h => ?_
  have h' := h
  unfold TakeR at h'
  rw [HA.out, HE.out] at h'
  exact h'
theorem conumber_any (N K E lo hi : Int) (D R : Nat) (a : Option Addr) (n c : Nat) (xs : List Int) (at_ : Nat) (e : Int) (w : World) (H : RdB w D R a n c xs at_ e) (hK : 0 ≤ K) (hKn : at_ + K.toNat ≤ n) :
    Calls Try.prog 41 #[.pointer (some ⟨R, 0, none⟩), .int .i64 N, .int .i64 K, .int .i64 E, .int .i64 lo, .int .i64 hi] w (NumR (stpC N K E lo hi at_ e) D R a n c xs w) := by
  have HR := Hk.mk H
  clear H
  by_cases hE : E = 0
  · subst hE
    by_cases hr : N < lo ∨ hi < N
    · obtain ⟨at', hat⟩ : ∃ at', (if e = 0 ∧ (1 : Int) = 0 then at_ + K.toNat else at_) = at' := ⟨_, rfl⟩
      obtain ⟨e', hee⟩ : ∃ e', (if e = 0 then (1 : Int) else e) = e' := ⟨_, rfl⟩
      have RR : Hk (stpC N K 0 lo hi at_ e = (0, at', e')) := ⟨by rw [← hat, ← hee]; unfold stpC; by_cases h0 : e = 0 <;> simp [h0, hr]⟩
      have hne : ¬ e' = 0 := by rw [← hee]; split <;> omega
      have b2 : (e' == 0) = false := by simpa using hne
      have b3 : (e' != 0) = true := by simpa using hne
      have HA := Hk.mk hat
      have HE := Hk.mk hee
      clear hat hee hne
      by_cases h1 : N < lo
      · have b0 : decide (N < lo) = true := by simpa using h1
        clear hr
        go_enter Try.func41, Try.ntmps41
        go_wp2_with (go_at_call 47; (with_reducible refine (cotake_as K 1 D R a n c xs at_ e at' e' _ HR.out hK hKn HA HE).mono ?_); rintro o w1 ⟨rfl, hr1, hf1, hz1⟩; have d2 := hr1.c2; have HR1 := Hk.mk hr1; have HF1 := Hk.mk hf1; have HZ1 := Hk.mk hz1; clear hr1 hf1 hz1)
        go_ret
        exact ⟨0, at', e', rfl, RR.out, HR1.out, HF1.out, HZ1.out⟩
      · have h2 : hi < N := by omega
        have b0 : decide (N < lo) = false := by simpa using h1
        have b1 : decide (hi < N) = true := by simpa using h2
        clear hr
        go_enter Try.func41, Try.ntmps41
        go_wp2_with (go_at_call 47; (with_reducible refine (cotake_as K 1 D R a n c xs at_ e at' e' _ HR.out hK hKn HA HE).mono ?_); rintro o w1 ⟨rfl, hr1, hf1, hz1⟩; have d2 := hr1.c2; have HR1 := Hk.mk hr1; have HF1 := Hk.mk hf1; have HZ1 := Hk.mk hz1; clear hr1 hf1 hz1)
        go_ret
        exact ⟨0, at', e', rfl, RR.out, HR1.out, HF1.out, HZ1.out⟩
    · have h1 : ¬ N < lo := by omega
      have h2 : ¬ hi < N := by omega
      have b0 : decide (N < lo) = false := by simpa using h1
      have b1 : decide (hi < N) = false := by simpa using h2
      by_cases h0 : e = 0
      · subst h0
        obtain ⟨at', hat⟩ : ∃ at', at_ + K.toNat = at' := ⟨_, rfl⟩
        obtain ⟨e', hee⟩ : ∃ e' : Int, 0 = e' := ⟨_, rfl⟩
        have RR : Hk (stpC N K 0 lo hi at_ 0 = (N, at', e')) := ⟨by rw [← hat, ← hee]; unfold stpC; simp [hr]⟩
        have b2 : (e' == 0) = true := by simp [← hee]
        have b3 : (e' != 0) = false := by simp [← hee]
        have HA : Hk ((if (0 : Int) = 0 ∧ (0 : Int) = 0 then at_ + K.toNat else at_) = at') := ⟨by simpa using hat⟩
        have HE : Hk ((if (0 : Int) = 0 then (0 : Int) else 0) = e') := ⟨by simpa using hee⟩
        clear hat hee hr
        go_enter Try.func41, Try.ntmps41
        go_wp2_with (go_at_call 47; (with_reducible refine (cotake_as K 0 D R a n c xs at_ 0 at' e' _ HR.out hK hKn HA HE).mono ?_); rintro o w1 ⟨rfl, hr1, hf1, hz1⟩; have d2 := hr1.c2; have HR1 := Hk.mk hr1; have HF1 := Hk.mk hf1; have HZ1 := Hk.mk hz1; clear hr1 hf1 hz1)
        go_ret
        exact ⟨N, at', e', rfl, RR.out, HR1.out, HF1.out, HZ1.out⟩
      · obtain ⟨at', hat⟩ : ∃ at', at_ = at' := ⟨_, rfl⟩
        obtain ⟨e', hee⟩ : ∃ e', e = e' := ⟨_, rfl⟩
        have RR : Hk (stpC N K 0 lo hi at_ e = (0, at', e')) := ⟨by rw [← hat, ← hee]; unfold stpC; simp [h0]⟩
        have b2 : (e' == 0) = false := by simpa [← hee] using h0
        have b3 : (e' != 0) = true := by simpa [← hee] using h0
        have HA : Hk ((if e = 0 ∧ (0 : Int) = 0 then at_ + K.toNat else at_) = at') := ⟨by simpa [h0] using hat⟩
        have HE : Hk ((if e = 0 then (0 : Int) else e) = e') := ⟨by simpa [h0] using hee⟩
        clear hat hee hr h0
        go_enter Try.func41, Try.ntmps41
        go_wp2_with (go_at_call 47; (with_reducible refine (cotake_as K 0 D R a n c xs at_ e at' e' _ HR.out hK hKn HA HE).mono ?_); rintro o w1 ⟨rfl, hr1, hf1, hz1⟩; have d2 := hr1.c2; have HR1 := Hk.mk hr1; have HF1 := Hk.mk hf1; have HZ1 := Hk.mk hz1; clear hr1 hf1 hz1)
        go_ret
        exact ⟨0, at', e', rfl, RR.out, HR1.out, HF1.out, HZ1.out⟩
  · obtain ⟨at', hat⟩ : ∃ at', (if e = 0 ∧ E = 0 then at_ + K.toNat else at_) = at' := ⟨_, rfl⟩
    obtain ⟨e', hee⟩ : ∃ e', (if e = 0 then E else e) = e' := ⟨_, rfl⟩
    have RR : Hk (stpC N K E lo hi at_ e = (0, at', e')) := ⟨by rw [← hat, ← hee]; unfold stpC; by_cases h0 : e = 0 <;> simp [h0, hE]⟩
    have hne : ¬ e' = 0 := by rw [← hee]; split <;> omega
    have b0 : (E == 0) = false := by simpa using hE
    have b2 : (e' == 0) = false := by simpa using hne
    have b3 : (e' != 0) = true := by simpa using hne
    have HA := Hk.mk hat
    have HE := Hk.mk hee
    clear hat hee hne hE
    go_enter Try.func41, Try.ntmps41
    go_wp2_with (go_at_call 47; (with_reducible refine (cotake_as K E D R a n c xs at_ e at' e' _ HR.out hK hKn HA HE).mono ?_); rintro o w1 ⟨rfl, hr1, hf1, hz1⟩; have d2 := hr1.c2; have HR1 := Hk.mk hr1; have HF1 := Hk.mk hf1; have HZ1 := Hk.mk hz1; clear hr1 hf1 hz1)
    go_ret
    exact ⟨0, at', e', rfl, RR.out, HR1.out, HF1.out, HZ1.out⟩
theorem By.cutR {w : World} {B n c k b off : Nat} {xs : List Int} (h : By w B (some ⟨b, off, none⟩) n xs) (hk : k ≤ n) (hc : n ≤ c) : By w B (if c = k then some ⟨b, off, none⟩ else some ⟨b, off + k, none⟩) (n - k) (xs.drop k) := by
  by_cases h1 : c = k
  · have hl := h.len
    rw [List.drop_of_length_le (by omega), show n - k = 0 by omega]; exact By.nil _ _ _
  · rw [if_neg h1]; exact h.tail hk
/-- What is left of the bytes. -/
def RestR (D : Nat) (n c : Nat) (xs : List Int) (at_ : Nat) (w : World) (o : Ending) (w' : World) : Prop := ∃ a' m, o = .returned (.slice a' (n - at_) (c - at_)) ∧ w' = w.drewN m ∧ By w' D a' (n - at_) (xs.drop at_)
theorem corest_any (D R : Nat) (a : Option Addr) (n c : Nat) (xs : List Int) (at_ : Nat) (e : Int) (w : World) (H : RdB w D R a n c xs at_ e) :
    Calls Try.prog 40 #[.pointer (some ⟨R, 0, none⟩)] w (RestR D n c xs at_ w) := by
  obtain ⟨c0, c1, c2, f1, f2, hby, hdr, hnc, hcm, hnm, han, hle⟩ := H
  have HB := Hk.mk hby
  have HAN := Hk.mk han
  clear hby han c2 f1 f2
  have j0 : (0 : Int) ≤ (at_ : Int) := by omega
  have j1 : (at_ : Int) ≤ (n : Int) := by omega
  have j2 : (at_ : Int) ≤ (c : Int) := by omega
  cases a with
  | none =>
    obtain rfl : c = 0 := HAN.out rfl
    obtain rfl : n = 0 := by omega
    obtain rfl : at_ = 0 := by omega
    go_enter Try.func40, Try.ntmps40
    go_wp2
    go_quiet (fail)
    go_wp2
    go_ret
    exact ⟨none, _, rfl, rfl, by simpa using HB.out.drewN _⟩
  | some ad =>
    obtain ⟨b, off, spot⟩ := ad
    by_cases h0 : n = 0
    · subst h0
      obtain rfl : at_ = 0 := by omega
      go_enter Try.func40, Try.ntmps40
      go_wp2
      go_quiet (fail)
      go_wp2
      go_ret
      exact ⟨some ⟨b, off, spot⟩, _, rfl, rfl, by simpa using HB.out.drewN _⟩
    · obtain rfl : spot = none := by
        obtain ⟨b', off', e1, -⟩ := HB.out.rd (by omega)
        injection e1 with e1
        injection e1
      by_cases hca : c = at_
      · obtain rfl : n = at_ := by omega
        subst hca
        have hl := HB.out.len
        go_enter Try.func40, Try.ntmps40
        go_wp2
        go_quiet (fail)
        go_wp2
        go_ret
        exact ⟨some ⟨b, off, none⟩, _, by simp, rfl, by rw [List.drop_of_length_le (by omega), Nat.sub_self]; exact By.nil _ _ _⟩
      · have HC := Hk.mk (HB.out.tail hle)
        go_enter Try.func40, Try.ntmps40
        go_wp2
        go_quiet (fail)
        go_wp2
        go_ret
        exact ⟨_, _, rfl, rfl, HC.out.drewN _⟩
/-- What Num and Int leave. -/
theorem getS_k {xs : List Int} (hx : ∀ b ∈ xs, Fn.Byt b) : 0 ≤ (Wr.getS xs).2.1 ∧ (Wr.getS xs).2.1.toNat ≤ xs.length := by
  obtain ⟨h1, h2, h3, h4, _⟩ := Wr.getS_bd hx
  exact ⟨h3, by omega⟩
theorem cornum_any (lo hi : Int) (D R : Nat) (a : Option Addr) (n c : Nat) (xs : List Int) (at_ : Nat) (e : Int) (w : World) (H : RdB w D R a n c xs at_ e) :
    Calls Try.prog 30 #[.pointer (some ⟨R, 0, none⟩), .int .i64 lo, .int .i64 hi] w (NumR (rdV false xs lo hi at_ e) D R a n c xs w) := by
  have HR := Hk.mk H
  have hl := H.by_.len
  have hle := H.le
  have hlt := Nat.le_trans H.dr (Nat.le_of_lt H.lt)
  have hnm : n - at_ ≤ 1099511627776 := by have := H.nm; omega
  have hk := getS_k (xs := xs.drop at_) (fun b hb => H.by_.byt b (List.mem_of_mem_drop hb))
  obtain ⟨G, hG⟩ : ∃ G, Wr.getS (xs.drop at_) = G := ⟨_, rfl⟩
  obtain ⟨N, K, E⟩ := G
  rw [hG] at hk
  simp at hk
  have hK : 0 ≤ K := hk.1
  have hKn : at_ + K.toNat ≤ n := by omega
  have RR : Hk (rdV false xs lo hi at_ e = stpC N K E lo hi at_ e) := ⟨by unfold rdV; rw [hG]; rfl⟩
  have HG := Hk.mk hG
  clear H hG hk hl
  go_enter Try.func30, Try.ntmps30
  go_wp2_with (first | (go_at_call 40; (with_reducible refine (corest_any D R a n c xs at_ e _ HR.out).mono ?_); rintro o w1 ⟨a', m, rfl, rfl, hb1⟩; have HB1 := Hk.mk (hb1.mono (show D ≤ (w.drewN m).heap.size from hlt)); clear hb1) | (go_at_call 39; (with_reducible refine (getnum_any a' (n - at_) (c - at_) (xs.drop at_) _ HB1.out hnm).mono ?_); rintro o w' ⟨rfl, rfl⟩; rw [HG.out]; dsimp only) | (go_at_call 41; (with_reducible refine (conumber_any N K E lo hi D R a n c xs at_ e _ (HR.out.drewN m) hK hKn).mono ?_); rintro o w1 ⟨z, at', e', rfl, hr, hrb, hfr, hsz⟩; have HX := Hk.mk hr; have HRB := Hk.mk hrb; have HFR := Hk.mk hfr; have HSZ := Hk.mk hsz; clear hr hrb hfr hsz))
  go_ret
  exact ⟨z, at', e', rfl, by rw [RR.out]; exact HX.out, HRB.out, ((Fr.refl _ _).drewN m).trans HFR.out, HSZ.out⟩
end Go.Proofs.Ytmkehmeoglpkeaa
