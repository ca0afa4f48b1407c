import Derived.Deep.QuietTactic
import Derived.BigQuiet
import Derived.Deep.RegionWith
import Derived.Deep.RegionHeld3
import Derived.Deep.DeepCutAuto
import Derived.Deep.DeepFit
import Derived.Outline
import Derived.Test.YtdpblimhfmfbnaaZsad
set_option linter.unusedVariables false
set_option linter.unusedSimpArgs false
namespace Go.Proofs.Ytdpblimhfmfbnaa
open Go.ChangeShapes Go.WideShapes Go.ChangeAt Go.RowKit Go.Deep
set_option maxRecDepth 100000 in
set_option maxHeartbeats 3200000 in
theorem counted_as (r : Bool) (p : Pv) (w : World) (E : Hk (CntP p.ab ↔ r = true)) :
  Calls Try.prog 42 #[.agg (jjP p)] w fun e w' => e = .returned (.bool r) ∧ Below w.heap.size w w' := by
 have E2 := Hk.mk ((cnt_iff p).symm.trans E.out)
 have HWB : Hk (Below w.heap.size w (w.alloc (.cells (jjP p) 28))) := ⟨(Below.refl _ _).alloc (Nat.le_refl _) _⟩
 have hNW : (w.heap.size + 1) ≤ (w.alloc (.cells (jjP p) 28)).heap.size := by simp
 have HB : Hk (Below (w.heap.size + 1) (w.alloc (.cells (jjP p) 28)) (w.alloc (.cells (jjP p) 28))) := ⟨Below.refl _ _⟩
 have HTR : Hk (∀ X, Below (w.heap.size + 1) (w.alloc (.cells (jjP p) 28)) X → Below w.heap.size w X) := ⟨fun X hX => HWB.out.trans (hX.mono (by omega))⟩
 have HPB : Hk (Bk (w.alloc (.cells (jjP p) 28)) w.heap.size (jjP p)) := ⟨Bk.new w (jjP p) 28⟩
 clear E
 go_enter Try.func42, Try.ntmps42
 go_wp2
 all_goals clear HB HPB hNW HTR
 all_goals go_ret
 all_goals first
  | exact ⟨no_as E2.out (by omega), HWB.out⟩
  | exact ⟨dec_as E2.out (by omega), HWB.out⟩
end Go.Proofs.Ytdpblimhfmfbnaa
namespace Go.Proofs.Ytdpblimhfmfbnaa
open Go.ChangeShapes Go.WideShapes Go.ChangeAt Go.RowKit Go.Deep
theorem min_snoc (y : Int) : ∀ {l : List Int}, l ≠ [] → minL (l ++ [y]) = min (minL l) y
 | [], h => absurd rfl h
 | [x], _ => by rfl
 | x :: z :: l, _ => by
  show min x (minL ((z :: l) ++ [y])) = min (min x (minL (z :: l))) y
  rw [min_snoc y (List.cons_ne_nil z l), Int.min_assoc]
theorem min_one {l : List Int} (h : 0 < l.length) : minL (l.take 1) = l.getD 0 0 := by
 cases l with
 | nil => exact absurd h (by simp)
 | cons x l => rfl
theorem min_step {l : List Int} {k : Nat} (h : k < l.length) (h1 : 1 ≤ k) : minL (l.take (k + 1)) = min (minL (l.take k)) (l.getD k 0) := by
 have e : l.take (k + 1) = l.take k ++ [l.getD k 0] := by rw [List.take_succ_eq_append_getElem h]; simp [List.getD, h]
 rw [e, min_snoc]
 intro h2
 have h3 : (l.take k).length = 0 := by rw [h2]; rfl
 rw [List.length_take] at h3
 omega
set_option maxHeartbeats 1600000 in
theorem min_any (a : Option Addr) (n c : Nat) (xs : List Int) (w : World) (h : Nq w w.heap.size a n xs) (h0 : 0 < n) (hn : n ≤ 1048576) :
  Calls Try.prog 31 #[.slice a n c] w fun e w' => e = .returned (.int .i64 (minL xs)) ∧ ∃ m, w' = w.drewN m := by
 obtain ⟨b, off, rfl, hbl, hc⟩ := h.at_ h0
 have HC := Hk.mk hc
 have HL := Hk.mk h.len
 have c0 : w.cell? ⟨b, off, none⟩ = some (.int .i64 (xs.getD 0 0)) := by have := hc 0 h0; rwa [Nat.add_zero] at this
 have n1 : ¬ ((n : Int) < 1) := by omega
 have n2 : decide ((n : Int) < 1) = false := by simp; omega
 have n3 : (0 : Int) < (n : Int) := by omega
 have HM : Hk (minL (xs.take 1) = xs.getD 0 0) := ⟨min_one (by rw [HL.out]; exact h0)⟩
 have HN0 := Hk.mk h0
 clear h hc
 go_enter Try.func31, Try.ntmps31
 go_wp2
 go_loopw [3, 4] (fun m i wr => ∃ k : Nat, 1 ≤ k ∧ k ≤ n ∧ i = .int .i64 k ∧ m = .int .i64 (minL (xs.take k)) ∧ Hk (∃ m, wr = w.drewN m)) (fun _ i _ => n - (intOf i).toNat)
 case atStart => exact ⟨1, Nat.le_refl _, HN0.out, rfl, by rw [HM.out]; simp, ⟨0, rfl⟩⟩
 case round =>
  obtain ⟨k, hk1, hk, rfl, rfl, HB⟩ := hrel
  by_cases hlt : k < n
  ·have hcx : wr.cell? ⟨b, off + k, none⟩ = some (.int .i64 (xs.getD k 0)) := by obtain ⟨m, rfl⟩ := HB.out; exact HC.out k hlt
   have HS : Hk (minL (xs.take (k + 1)) = min (minL (xs.take k)) (xs.getD k 0)) := ⟨min_step (by rw [HL.out]; exact hlt) hk1⟩
   obtain ⟨m', hm'⟩ : ∃ m', minL (xs.take (k + 1)) = m' := ⟨_, rfl⟩
   rw [hm'] at HS
   have HM' := Hk.mk hm'
   have hsm := HS.out.symm
   generalize minL (xs.take k) = mm at *
   generalize xs.getD k 0 = x at *
   have i1 : (0 : Int) ≤ (k : Int) := by omega
   have i2 : (k : Int) < (n : Int) := by omega
   have HLT := Hk.mk hlt
   have gk : IntKind.i64.wrap ((k : Int) + 1) = ((k + 1 : Nat) : Int) := by push_cast; exact wr27 (by omega) (by omega)
   clear hm' hlt hk
   go_wp2
   exact ⟨⟨k + 1, by omega, HLT.out, by go_num, by rw [HM'.out], HB⟩, by first | exact nx_ms HLT.out | exact nx_ms' HLT.out⟩
  ·obtain rfl : k = n := by omega
   have HE : Hk (xs.take k = xs) := ⟨List.take_of_length_le (by rw [HL.out]; exact Nat.le_refl _)⟩
   rw [HE.out]
   go_wp2
   go_ret
   exact ⟨rfl, HB.out⟩
theorem min_le {l : List Int} {x : Int} (h : x ∈ l) : minL l ≤ x := by
 induction l with
 | nil => cases h
 | cons a l ih =>
  cases l with
  | nil =>
   rw [List.mem_singleton.1 h]; exact Int.le_refl _
  | cons b l =>
   show min a (minL (b :: l)) ≤ x
   rcases List.mem_cons.1 h with e | e
   ·rw [e]; exact Int.min_le_left _ _
   ·exact Int.le_trans (Int.min_le_right _ _) (ih e)
theorem min_mem {l : List Int} (h : l ≠ []) : minL l ∈ l := by
 induction l with
 | nil => exact absurd rfl h
 | cons a l ih =>
  cases l with
  | nil => exact List.mem_singleton.2 rfl
  | cons b l =>
   show min a (minL (b :: l)) ∈ _
   rcases Int.le_total a (minL (b :: l)) with e | e
   ·rw [Int.min_eq_left e]; exact List.mem_cons_self
   ·rw [Int.min_eq_right e]; exact List.mem_cons_of_mem _ (ih (List.cons_ne_nil _ _))
end Go.Proofs.Ytdpblimhfmfbnaa
