/- Package codec: signs, hashes and ends that are read. -/
import Derived.Test.YtmkehmeoglpkeaaMpd
import Derived.StillTailTactics
namespace Go.Proofs.Ytmkehmeoglpkeaa
open Go.RowKit
set_option linter.unusedVariables false
/-- Bytes that must be these. -/
def signS (xs : List Int) : List Int → Nat → Int → Nat × Int
  | [], at_, e => (at_, e)
  | x :: l, at_, e => signS xs l (byteS xs x x at_ e).2.1 (byteS xs x x at_ e).2.2
theorem signS_append (xs L M : List Int) (at_ : Nat) (e : Int) : signS xs (L ++ M) at_ e = signS xs M (signS xs L at_ e).1 (signS xs L at_ e).2 := by
  induction L generalizing at_ e with
  | nil => rfl
  | cons x l ih => exact ih _ _
theorem signS_one (xs : List Int) (x : Int) (at_ : Nat) (e : Int) : signS xs [x] at_ e = ((byteS xs x x at_ e).2.1, (byteS xs x x at_ e).2.2) := rfl
theorem take_get {L : List Int} {k : Nat} (h : k < L.length) : L.take (k + 1) = L.take k ++ [L.getD k 0] := by
  rw [List.take_succ_eq_append_getElem h]; simp [List.getD, List.getElem?_eq_getElem h]
def SignW (r : Nat × Int) (D R : Nat) (a : Option Addr) (n c : Nat) (xs : List Int) (w : World) (o : Ending) (w' : World) : Prop :=
  ∃ at' e', o = .returned (.tuple #[]) ∧ r = (at', e') ∧ RdB w' D R a n c xs at' e' ∧ RW R w w'
set_option maxRecDepth 100000 in
theorem cosign_any (L : List Int) (m cL B' : Nat) (aL : Option Addr) (D R : Nat) (a : Option Addr) (n c : Nat) (xs : List Int) (at_ : Nat) (e : Int) (w : World) (H : RdB w D R a n c xs at_ e) (hL : By w B' aL m L) (hB' : B' ≤ w.heap.size) (hne : ∀ b off, aL = some ⟨b, off, none⟩ → ¬ b = R) (hm : m ≤ 1099511627776) :
    Calls Try.prog 29 #[.pointer (some ⟨R, 0, none⟩), .slice aL m cL] w (SignW (signS xs L at_ e) D R a n c xs w) := by
  have HR := Hk.mk H
  have HL := Hk.mk hL
  have HNE := Hk.mk hne
  clear H hL hne
  go_enter Try.func29, Try.ntmps29
  go_wp2
  go_loopw [8] (fun i wr => ∃ (k : Nat) (at' : Nat) (e' : Int), i = .int .i64 k ∧ k ≤ m ∧ Hk (signS xs (L.take k) at_ e = (at', e')) ∧ Hk (RdB wr D R a n c xs at' e') ∧ Hk (RW R w wr)) (fun i _ => m - (intOf i).toNat)
  case atStart => exact ⟨0, at_, e, rfl, by omega, ⟨by simp [signS]⟩, HR, ⟨RW.refl _ _⟩⟩
  case round =>
    obtain ⟨k, at', e', rfl, hk, HS, HR1, HW⟩ := hrel
    by_cases hlt : k < m
    · obtain ⟨b', off', rfl, hbl', hc'⟩ := HL.out.at_ (by omega)
      have hcx := (HW.out.fr.cell (o := off' + k) (show b' < w.heap.size by omega) (HNE.out b' off' rfl)).trans (hc' k hlt)
      have HT := Hk.mk (take_get (L := L) (k := k) (by rw [HL.out.len]; exact hlt))
      have i1 : (0 : Int) ≤ (k : Int) := by omega
      have i2 : (k : Int) < (m : Int) := by omega
      clear hc'
      generalize L.getD k 0 = x at *
      go_wp2_with (go_at_call 31; (with_reducible refine (cobyte_any x x D R a n c xs at' e' _ HR1.out).mono ?_); rintro o w2 ⟨z, at2, e2, rfl, hr, hrd, hrw⟩; have HRR := Hk.mk hr; have HR2 := Hk.mk hrd; have HW2 := Hk.mk (HW.out.trans hrw); clear hr hrd hrw)
      go_roundw
      case rel => exact ⟨k + 1, at2, e2, by go_num, by omega, ⟨by rw [HT.out, signS_append, HS.out, signS_one, HRR.out]⟩, HR2, HW2⟩
      case measure => simp [intOf]; omega
    · have hkm : k = m := by omega
      subst hkm
      go_wp2
      go_end0
      exact ⟨at', e', rfl, by have h1 := HS.out; rwa [List.take_of_length_le (by rw [HL.out.len]; omega)] at h1, HR1.out, HW.out⟩
/-- The sum of all that was read, read. -/
def hashS (xs : List Int) (at_ : Nat) (e : Int) : Nat × Int := if e ≠ 0 then (at_, e) else signS xs (Mp.eight (Mp.hash (xs.take at_))) at_ 0
def HashW (r : Nat × Int) (D R : Nat) (a : Option Addr) (n c : Nat) (xs : List Int) (w : World) (o : Ending) (w' : World) : Prop :=
  ∃ at' e', o = .returned (.tuple #[]) ∧ r = (at', e') ∧ RdB w' D R a n c xs at' e' ∧ Fr (fun j => j = R) w w'
set_option maxRecDepth 100000 in
theorem cohashR_new (h0 : Int) (D R : Nat) (a : Option Addr) (n c : Nat) (xs : List Int) (at_ : Nat) (e : Int) (w : World) (H : RdB w D R a n c xs at_ e)
    (k3 : w.cell? ⟨R, 3, none⟩ = some (.int .u64 h0)) (k4 : w.cell? ⟨R, 4, none⟩ = some (.int .i64 0)) (k5 : w.cell? ⟨R, 5, none⟩ = some (.bool false))
    (f3 : w.frozen? ⟨R, 3, none⟩ = false) (f4 : w.frozen? ⟨R, 4, none⟩ = false) (f5 : w.frozen? ⟨R, 5, none⟩ = false) :
    Calls Try.prog 32 #[.pointer (some ⟨R, 0, none⟩)] w (HashW (hashS xs at_ e) D R a n c xs w) := by
  have HR := Hk.mk H
  have c2 := H.c2
  by_cases he : e = 0
  · subst he
    have c0 := H.c0
    have c1 := H.c1
    have hle := H.le
    have hnc := H.nc
    have hcm := H.cm
    have hnm := H.nm
    have hdr := H.dr
    have hlt := H.lt
    have HAN := Hk.mk H.an
    have j0 : (0 : Int) ≤ (at_ : Int) := by omega
    have j1 : (at_ : Int) ≤ (c : Int) := by omega
    have j2 : (at_ : Int) ≤ (n : Int) := by omega
    have HY := Hk.mk (H.by_.head hle)
    have g3 : w.drew.cell? ⟨R, 3, none⟩ = some (.int .u64 h0) := k3
    have g4 : w.drew.cell? ⟨R, 4, none⟩ = some (.int .i64 0) := k4
    have g5 : w.drew.cell? ⟨R, 5, none⟩ = some (.bool false) := k5
    have y3 : w.drew.frozen? ⟨R, 3, none⟩ = false := f3
    have y4 : w.drew.frozen? ⟨R, 4, none⟩ = false := f4
    have y5 : w.drew.frozen? ⟨R, 5, none⟩ = false := f5
    have HY1 : Hk (By w.drew D a at_ (xs.take at_)) := ⟨HY.out.drew⟩
    have HR1 : Hk (RdB w.drew D R a n c xs at_ 0) := ⟨HR.out.fr ((Fr.refl (fun _ => False) w).drew) (fun _ _ x => x)⟩
    have HF1 : Hk (Fr (fun j => j = R) w w.drew) := ⟨(Fr.refl _ w).drew⟩
    have HHS : Hk (w.drew.heap.size = w.heap.size) := ⟨rfl⟩
    obtain ⟨s, hs⟩ : ∃ s, Mp.hash (xs.take at_) = s := ⟨_, rfl⟩
    have HS := Hk.mk hs
    have HRES : Hk (hashS xs at_ 0 = signS xs (Mp.eight s) at_ 0) := ⟨by unfold hashS; rw [if_neg (by omega), hs]⟩
    clear H k3 k4 k5 f3 f4 f5 hs
    go_enter Try.func32, Try.ntmps32
    go_wp2
    go_still_tail 12, (by kernel_rfl)
    change wpList _ _ _ _ _ w.drew
    clear c0 c1 c2
    generalize w.drew = w2 at *
    go_wp2_with (go_at_call 37; (with_reducible refine (summed_new R 3 h0 a at_ c D (xs.take at_) _ g3 g4 g5 y3 y4 y5 HY1.out ?_ ?_ ?_ hcm ?_ HAN.out).mono ?_); (have := HHS.out; omega); (intro hn b off e1 hb; obtain ⟨b', off', e2, hb', -⟩ := HY1.out.rd hn; rw [e1] at e2; injection e2 with e2; injection e2 with e3; omega); (omega); (omega); rw [HS.out]; rintro e w3 ⟨rfl, -, hf3, hr3, hz3, hs3⟩; have HF3 := Hk.mk (HF1.out.trans hf3); have HR3 : Hk (RdB w3 D R a n c xs at_ 0) := ⟨⟨(hr3 0 (by omega)).trans HR1.out.c0, (hr3 1 (by omega)).trans HR1.out.c1, (hr3 2 (by omega)).trans HR1.out.c2, (hz3 1).trans HR1.out.f1, (hz3 2).trans HR1.out.f2, HR1.out.by_.fr hf3 (by have := HHS.out; omega) (fun j hj h => by omega), hdr, hnc, hcm, hnm, HAN.out, hle⟩⟩; clear hf3 hr3 hz3 hs3)
    have HU : Hk (Fn.U64 s) := ⟨by rw [← HS.out]; exact Mp.hash_u64 _⟩
    go_loopw [2, 21] (fun x i wr => ∃ (k : Nat) (z : Int) (at' : Nat) (e' : Int), x = .int .u64 z ∧ i = .int .i64 k ∧ k ≤ 8 ∧ Hk (s / 256 ^ k = z) ∧ Hk (signS xs ((Mp.eight s).take k) at_ 0 = (at', e')) ∧ Hk (RdB wr D R a n c xs at' e') ∧ Hk (Fr (fun j => j = R) w wr)) (fun _ i _ => 8 - (intOf i).toNat)
    case atStart => exact ⟨0, s, at_, 0, rfl, rfl, by omega, ⟨by simp⟩, ⟨by simp [signS]⟩, HR3, HF3⟩
    case round =>
      clear HF3 HR3 HF1 HR1 HY1 g3 g4 g5 y3 y4 y5
      obtain ⟨k, z, at', e', rfl, rfl, hk, HZ, HSG, HRd, HFr⟩ := hrel
      by_cases hlt8 : k < 8
      · have hz0 : 0 ≤ z := by rw [← HZ.out]; exact (Mp.dig_u64 HU.out k).1
        obtain ⟨y, hy⟩ : ∃ y, Mp.dig s k = y := ⟨_, rfl⟩
        have hyz : z % 256 = y := by rw [← hy]; unfold Mp.dig; rw [HZ.out]
        have HYB : Hk (Fn.Byt y) := ⟨by rw [← hy]; exact Mp.dig_byt s k⟩
        have HYD := Hk.mk hy
        have HRA : Hk (RdB (wr.alloc (.cells #[.int .u8 y] 5)) D R a n c xs at' e') := ⟨HRd.out.fr ((Fr.refl (fun _ => False) wr).alloc _) (fun _ _ x => x)⟩
        have hRl := HRd.out.lt
        clear hy
        go_wp2_with (go_at_call 29; (with_reducible refine (cosign_any [y] 1 1 (wr.heap.size + 1) (some ⟨wr.heap.size, 0, none⟩) D R a n c xs at' e' _ HRA.out (byt_one wr y _ _ HYB.out) ?_ ?_ (by omega)).mono ?_); (simp); (intro b off e1; injection e1 with e1; injection e1 with e2; omega); rintro o w5 ⟨at2, e2, rfl, hr, hrd, hrw⟩; have HRR := Hk.mk hr; have HR5 := Hk.mk hrd; have HF5 := Hk.mk ((HFr.out.alloc (.cells #[.int .u8 y] 5)).trans hrw.fr); clear hr hrd hrw)
        go_roundw
        case rel => exact ⟨k + 1, z / 256, at2, e2, by go_num, by go_num, by omega, ⟨by rw [← HZ.out, Mp.dig_next]⟩, ⟨by rw [Mp.eight_take s hlt8, signS_append, HSG.out, HYD.out]; exact HRR.out⟩, HR5, HF5⟩
        case measure => simp [intOf]; omega
      · have hk8 : k = 8 := by omega
        subst hk8
        go_wp2
        go_end0
        exact ⟨at', e', rfl, by have h1 := HSG.out; rw [List.take_of_length_le (by rw [Mp.eight_len]; omega)] at h1; rw [HRES.out, h1], HRd.out, HFr.out⟩
  · have b1 : (e == 0) = false := by simp; omega
    have b2 : (e != 0) = true := by simp; omega
    have HRES : Hk (hashS xs at_ e = (at_, e)) := ⟨by unfold hashS; rw [if_pos he]⟩
    clear H he
    go_enter Try.func32, Try.ntmps32
    go_wp2
    refine bodyPost_ret (results_none rfl _ _ _) rfl ?_
    exact ⟨at_, e, rfl, HRES.out, HR.out, Fr.refl _ _⟩
theorem coopenM (a : Option Addr) (n c : Nat) (w : World) : Calls Try.prog 28 #[.slice a n c] w fun e w' => e = .returned (.pointer (some ⟨w.heap.size, 0, none⟩)) ∧ w' = w.alloc (.cells #[.slice a n c, .int .i64 0, .int .i64 0, .int .u64 0, .int .i64 0, .bool false] 71) := by
  go_enter Try.func28, Try.ntmps28
  go_wp2
  go_ret
  exact ⟨rfl, rfl⟩
theorem coerrorM (D R : Nat) (a : Option Addr) (n c : Nat) (xs : List Int) (at_ : Nat) (e : Int) (w : World) (H : RdB w D R a n c xs at_ e) : Calls Try.prog 34 #[.pointer (some ⟨R, 0, none⟩)] w fun o w' => o = .returned (.int .i64 e) ∧ w = w' := by
  have c2 := H.c2
  clear H
  go_enter Try.func34, Try.ntmps34
  go_wp2
  go_ret
  exact ⟨rfl, rfl⟩
/-- Are bytes left? -/
theorem comore_any (q : Bool) (D R : Nat) (a : Option Addr) (n c : Nat) (xs : List Int) (at_ : Nat) (e : Int) (w : World) (H : RdB w D R a n c xs at_ e) (Q : Hk (decide (e = 0 ∧ at_ < n) = q)) :
    Calls Try.prog 42 #[.pointer (some ⟨R, 0, none⟩)] w fun o w' => o = .returned (.bool q) ∧ ∃ m, w' = w.drewN m := by
  have c0 := H.c0
  have c1 := H.c1
  have c2 := H.c2
  clear H
  by_cases he : e = 0
  · subst he
    by_cases ha : at_ < n
    · have b1 : decide ((at_ : Int) < (n : Int)) = true := by simp; omega
      have R1 : Hk (q = true) := ⟨by rw [← Q.out]; simp; omega⟩
      clear Q
      go_enter Try.func42, Try.ntmps42
      go_wp2
      go_quiet (fail)
      go_wp2
      go_ret
      exact ⟨by rw [R1.out]; rfl, _, rfl⟩
    · have b1 : decide ((at_ : Int) < (n : Int)) = false := by simp; omega
      have R1 : Hk (q = false) := ⟨by rw [← Q.out]; simp; omega⟩
      clear Q
      go_enter Try.func42, Try.ntmps42
      go_wp2
      go_quiet (fail)
      go_wp2
      go_ret
      exact ⟨by rw [R1.out]; rfl, _, rfl⟩
  · have b1 : (e == 0) = false := by simp; omega
    have R1 : Hk (q = false) := ⟨by rw [← Q.out]; simp; omega⟩
    clear Q he
    go_enter Try.func42, Try.ntmps42
    go_wp2
    go_quiet (fail)
    go_wp2
    go_ret
    exact ⟨by rw [R1.out]; rfl, _, rfl⟩
theorem cofailW (D R : Nat) (a : Option Addr) (n c : Nat) (xs : List Int) (at_ : Nat) (w : World) (H : RdB w D R a n c xs at_ 0) :
    Calls Try.prog 43 #[.pointer (some ⟨R, 0, none⟩)] w fun o w' => o = .returned (.tuple #[]) ∧ RdB w' D R a n c xs at_ 1 ∧ RW R w w' := by
  have HR := Hk.mk H
  have hle := H.le
  clear H
  go_enter Try.func43, Try.ntmps43
  go_wp2_with (go_at_call 47; (with_reducible refine (cotakeW_as 0 1 D R a n c xs at_ 0 at_ 1 _ HR.out ?_ ?_ ⟨?_⟩ ⟨?_⟩).mono ?_); (omega); (simpa using hle); (simp); (simp); rintro o w2 ⟨rfl, hr, hw⟩; have HR2 := Hk.mk hr; have HW2 := Hk.mk hw; clear hr hw)
  go_end0
  exact ⟨rfl, HR2.out, HW2.out⟩
/-- All was read, or not. -/
def endS (n at_ : Nat) (e : Int) : Int := if e = 0 ∧ at_ < n then 1 else e
theorem coend_any (D R : Nat) (a : Option Addr) (n c : Nat) (xs : List Int) (at_ : Nat) (e : Int) (w : World) (H : RdB w D R a n c xs at_ e) :
    Calls Try.prog 33 #[.pointer (some ⟨R, 0, none⟩)] w fun o w' => o = .returned (.tuple #[]) ∧ RdB w' D R a n c xs at_ (endS n at_ e) ∧ RW R w w' := by
  have HR := Hk.mk H
  clear H
  cases hq : decide (e = 0 ∧ at_ < n)
  case true =>
    have Q := Hk.mk hq
    have hq' : e = 0 ∧ at_ < n := by simpa using hq
    have R1 : Hk (endS n at_ e = 1) := ⟨by unfold endS; rw [if_pos hq']⟩
    obtain ⟨rfl, -⟩ := hq'
    clear hq
    go_enter Try.func33, Try.ntmps33
    go_wp2_with (first | (go_at_call 42; (with_reducible refine (comore_any true D R a n c xs at_ 0 _ HR.out Q).mono ?_); rintro o w1 ⟨rfl, m1, hm1⟩; have HR1 : Hk (RdB w1 D R a n c xs at_ 0) := ⟨by rw [hm1]; exact HR.out.drewN m1⟩; have HW1 : Hk (RW R w w1) := ⟨by rw [hm1]; exact (RW.refl R w).drewN m1⟩; clear hm1) | (go_at_call 43; (with_reducible refine (cofailW D R a n c xs at_ _ HR1.out).mono ?_); rintro o w2 ⟨rfl, hr, hw⟩; have HR2 := Hk.mk hr; have HW2 := Hk.mk (HW1.out.trans hw); clear hr hw))
    go_end0
    exact ⟨rfl, by rw [R1.out]; exact HR2.out, HW2.out⟩
  case false =>
    have Q := Hk.mk hq
    have R1 : Hk (endS n at_ e = e) := ⟨by unfold endS; rw [if_neg (by simpa using hq)]⟩
    clear hq
    go_enter Try.func33, Try.ntmps33
    go_wp2_with (go_at_call 42; (with_reducible refine (comore_any false D R a n c xs at_ e _ HR.out Q).mono ?_); rintro o w1 ⟨rfl, m1, hm1⟩; have HR1 : Hk (RdB w1 D R a n c xs at_ e) := ⟨by rw [hm1]; exact HR.out.drewN m1⟩; have HW1 : Hk (RW R w w1) := ⟨by rw [hm1]; exact (RW.refl R w).drewN m1⟩; clear hm1)
    go_end0
    exact ⟨rfl, by rw [R1.out]; exact HR1.out, HW1.out⟩
end Go.Proofs.Ytmkehmeoglpkeaa
