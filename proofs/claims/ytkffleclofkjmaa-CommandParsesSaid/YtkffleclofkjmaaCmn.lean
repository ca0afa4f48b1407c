/- The reference's reader: units. -/
import Derived.Test.YtkffleclofkjmaaCml
namespace Go.Proofs.Ytkffleclofkjmaa
open Go.RowKit
set_option linter.unusedVariables false
/-- What units answers: the list alone where no error has been. -/
def UnitsR (U : List Int × Nat × Int) (D R : Nat) (a : Option Addr) (n c : Nat) (xs : List Int) (w : World) (o : Ending) (w' : World) : Prop :=
  ∃ a' m' c' l, o = .returned (.slice a' m' c') ∧ OwnI w' w.heap.size (.slice a' m' c') m' l ∧ RdB w' D R a n c xs U.2.1 U.2.2 ∧ Fr (fun j => j = R) w w' ∧ (U.2.2 = 0 → l = U.1)
theorem rdU_err (xs : List Int) (k : Nat) : ∀ (last : Int) (at_ : Nat) (e : Int), e ≠ 0 → (rdU xs k last at_ e).2 = (at_, e) := by
  induction k with
  | zero => intro last at_ e _; rfl
  | succ k ih =>
    intro last at_ e he
    have h1 : rdV false xs (last + 1) 1099511627776 at_ e = (0, at_, e) := by unfold rdV stpC; rw [if_pos he]
    simp only [rdU, h1]
    exact ih 0 at_ e he
set_option maxHeartbeats 1600000 in
theorem refunits_any (D R : Nat) (a : Option Addr) (n c : Nat) (xs : List Int) (at_ : Nat) (e : Int) (w : World) (H : RdB w D R a n c xs at_ e) :
    Calls Try.prog 51 #[.pointer (some ⟨R, 0, none⟩)] w (UnitsR (rdU xs (rdV false xs 1 64 at_ e).1.toNat 0 (rdV false xs 1 64 at_ e).2.1 (rdV false xs 1 64 at_ e).2.2) D R a n c xs w) := by
  obtain ⟨i0, hi, hz0, hz1, hz2⟩ := info_parts info_i
  have HR := Hk.mk H
  clear H
  go_enter Try.func51, Try.ntmps51
  go_wp2_with (go_at_call 49; (with_reducible refine (refnum_any 1 64 D R a n c xs at_ e _ HR.out).mono ?_); rintro o w1 ⟨z1, at1, e1, rfl, hr, hrb, hfr, hsz⟩; have HX1 := Hk.mk hr; have HRB1 := Hk.mk hrb; have HFR1 := Hk.mk hfr; have HSZ1 := Hk.mk hsz; clear hr hrb hfr hsz; have hzb : 0 ≤ z1 ∧ z1 ≤ 64 := (by have := rdV_bd HX1.out; omega); obtain ⟨cnt, rfl⟩ : ∃ cnt : Nat, z1 = cnt := ⟨z1.toNat, by omega⟩)
  obtain ⟨hzb0, hzb1⟩ := hzb
  obtain ⟨U, hU⟩ : ∃ U, rdU xs (rdV false xs 1 64 at_ e).1.toNat 0 (rdV false xs 1 64 at_ e).2.1 (rdV false xs 1 64 at_ e).2.2 = U := ⟨_, rfl⟩
  rw [hU]
  have HU : Hk (rdU xs cnt 0 at1 e1 = U) := ⟨by rw [HX1.out] at hU; simpa using hU⟩
  have HUE := Hk.mk hU
  clear hU
  go_loopw [4, 5, 6] (fun lo v is wr => ∃ (j : Nat) (z : Int) (l : List Int) (at2 : Nat) (e2 : Int) (a' : Option Addr) (c' : Nat), lo = .int .i64 (z + 1) ∧ v = .slice a' j c' ∧ is = .int .i64 j ∧ j ≤ cnt ∧ 0 ≤ z ∧ z ≤ 1099511627776 ∧ Hk (e2 = 0 → (l ++ (rdU xs (cnt - j) z at2 e2).1, (rdU xs (cnt - j) z at2 e2).2) = U) ∧ Hk (e2 ≠ 0 → (at2, e2) = U.2) ∧ Hk (OwnI wr w.heap.size (.slice a' j c') j l) ∧ Hk (RdB wr D R a n c xs at2 e2) ∧ Hk (Fr (fun j => j = R) w wr)) (fun _ _ i _ => cnt - (intOf i).toNat)
  case atStart => exact ⟨0, 0, [], at1, e1, none, 0, rfl, rfl, rfl, by omega, by omega, by omega, ⟨fun h => by simpa using HU.out⟩, ⟨fun h => by rw [← HU.out, rdU_err _ _ _ _ _ h]⟩, ⟨OwnI.nil _ _⟩, HRB1, HFR1⟩
  case round =>
    clear HRB1 HFR1 HSZ1 HU
    obtain ⟨j, z, l, at2, e2, a', c', rfl, rfl, rfl, hj, hz, hzt, HL, HE, HO2, HR2, HF2⟩ := hrel
    have c2 := HR2.out.c2
    by_cases hlt : j < cnt
    · have i1 : (0 : Int) ≤ (j : Int) := by omega
      have i2 : (j : Int) < (cnt : Int) := by omega
      by_cases he : e2 = 0
      · have HLL := Hk.mk (HL.out he)
        subst he
        have hws := HF2.out.size
        have hRl := HR2.out.lt
        go_wp2_with (first | (go_at_call 49; (with_reducible refine (refnum_any (z + 1) 1099511627776 D R a n c xs at2 0 _ HR2.out).mono ?_); rintro o w3 ⟨z3, at3, e3, rfl, hr, hrb, hfr, hsz⟩; have HX3 := Hk.mk hr; have HRB3 := Hk.mk hrb; have HFR3 := Hk.mk hfr; have hz3 := hsz; have hown := (Fr.owni (M := fun j => j = R) HO2.out hfr (fun q hq h => by have := (HO2.out.lt q hq).1; have := HR.out.lt; omega)).2; have HOW := Hk.mk hown; clear hr hrb hfr hsz c2; have hzb : 0 ≤ z3 ∧ z3 ≤ 1099511627776 := (by have := rdV_bd HX3.out; omega)) | (at_builtin; refine wpList_append_own _ rfl _ _ 24 rfl w.heap.size 3 i0 (.int .i64 0) 1 8 Try.underlying24 hi hz0 hz1 hz2 rfl (by decide) _ _ _ rfl (hown.alloc _) ⟨w3.heap.size, 0, none⟩ 1 1 [.int .i64 z3] rfl rfl ?_ ?_ ?_ ?_ ?_ ?_; (exact one_new _ _ _); (intro u hu; simp at hu; subst hu; rfl); (unfold maxLen; omega); (omega); (simp; omega); intro v' w4 hown' hgrow _; have ho4 : OwnI w4 w.heap.size v' (j + 1) (l ++ [z3]) := ⟨by simp [HO2.out.1], by simpa using hown'⟩; obtain ⟨a4, c4', rfl, hc4, -⟩ := ho4.nq; have HO4 := Hk.mk ho4; have HF4 : Hk (Fr (fun j => w.heap.size ≤ j) w3 w4) := ⟨((Fr.refl _ w3).alloc _).grown hgrow (fun q _ hq => (HOW.out.lt q hq).1)⟩; clear hown' hgrow ho4 hown))
        obtain ⟨hzb0', hzb1'⟩ := hzb
        go_roundw
        case rel =>
          have hRw := HR.out.lt
          have hDR := HR.out.dr
          have hsn : rdU xs (cnt - j) z at2 0 = rdU xs ((cnt - (j + 1)) + 1) z at2 0 := by rw [show cnt - j = cnt - (j + 1) + 1 by omega]
          have hll := HLL.out
          rw [hsn, rdU, HX3.out] at hll
          refine ⟨j + 1, z3, l ++ [z3], at3, e3, a4, c4', by go_num, rfl, by go_num, by omega, by omega, by omega, ⟨fun h => ?_⟩, ⟨fun h => ?_⟩, HO4, ⟨HRB3.out.fr HF4.out (fun q hq h => by omega)⟩, ⟨(HF2.out.andThen HFR3.out (fun q _ e => e)).andThen HF4.out (fun q hq e => by omega)⟩⟩
          · simpa using hll
          · rw [← hll]; simp only; rw [rdU_err _ _ _ _ _ h]
        case measure => simp [intOf]; omega
      · have b0 : (e2 == 0) = false := by simpa using he
        have hE := HE.out he
        go_wp2
        go_ret
        refine ⟨a', j, c', l, rfl, HO2.out, by first | (rw [← hE]; exact HR2.out) | (rw [HUE.out, ← hE]; exact HR2.out), HF2.out, fun h => absurd h (by first | (rw [← hE]; exact he) | (rw [HUE.out, ← hE]; exact he))⟩
    · have hjc : j = cnt := by omega
      subst hjc
      have hU : U.2 = (at2, e2) ∧ (e2 = 0 → U.1 = l) := by
        by_cases he : e2 = 0
        · have := HL.out he
          simp [rdU] at this
          rw [← this]; exact ⟨rfl, fun _ => rfl⟩
        · exact ⟨(HE.out he).symm, fun h => absurd h he⟩
      have HUU := Hk.mk hU
      clear hU
      go_wp2
      go_ret
      refine ⟨a', j, c', l, rfl, HO2.out, by first | (rw [HUU.out.1]; exact HR2.out) | (rw [HUE.out, HUU.out.1]; exact HR2.out), HF2.out, fun h => ?_⟩
      first | rw [HUE.out, HUU.out.1] at h | rw [HUU.out.1] at h
      first | exact (HUU.out.2 h).symm | (rw [HUE.out]; exact (HUU.out.2 h).symm)
end Go.Proofs.Ytkffleclofkjmaa
