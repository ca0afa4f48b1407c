/- Layer 6: the list of neighbours; lists compared. -/
import Derived.Test.YtjjodfdmbiebnaaDoorGrh
import Derived.Test.YtjjodfdmbiebnaaDoorNq
namespace Go.Proofs.YtjjodfdmbiebnaaDoor
open Go.RowKit
set_option linter.unusedVariables false
theorem num6_any (x : Int) (w : World) : Calls Tryd.prog 14 #[.int .i64 x] w fun e w' => e = .returned (.int .i64 x) ∧ w = w' := by
  go_enter Tryd.func14, Tryd.ntmps14
  go_wp2
  go_ret
  exact ⟨rfl, rfl⟩
/-- What the neighbours' list is: new memory. -/
def NearR (w : World) (xs : List Int) (e : Ending) (w' : World) : Prop := ∃ g, e = .returned (.tuple #[.slice (some ⟨g, 0, none⟩) 8 8, .int .i64 0]) ∧ w.heap.size ≤ g ∧ g < w'.heap.size ∧ xs.length = 8 ∧ (∀ j, j < 8 → w'.cell? ⟨g, j, none⟩ = some (.int .i64 (xs.getD j 0))) ∧ (∀ j, w'.frozen? ⟨g, j, none⟩ = false) ∧ Below w.heap.size w w'
theorem nb_lit (w2 : World) (W H t : Int) (T : TypeId) : ∀ j, j < 8 → (w2.alloc (.cells #[.int .i64 (nb W H t 0), .int .i64 (nb W H t 1), .int .i64 (nb W H t 2), .int .i64 (nb W H t 3), .int .i64 (nb W H t 4), .int .i64 (nb W H t 5), .int .i64 (nb W H t 6), .int .i64 (nb W H t 7)] T)).cell? ⟨w2.heap.size, j, none⟩ = some (.int .i64 ((nbL W H t).getD j 0)) := fun j hj => by
  match j, hj with
  | 0, _ | 1, _ | 2, _ | 3, _ | 4, _ | 5, _ | 6, _ | 7, _ => (rw [World.cell?_alloc_mark]; rfl)
theorem near_bad (e t : Int) (W H : Int) (a : Option Addr) (n c B : Nat) (xs : List Int) (w : World) (h : By w B a n xs) (hB : B ≤ w.heap.size) (hn : n ≤ 140737488355328) (E : Hk (ctE W H n xs t = e)) (he : (e != 0) = true) :
    Calls Tryd.prog 20 #[.agg #[.int .i64 W, .int .i64 H, .slice a n c], .int .i64 t] w fun e' w' => e' = .returned (.tuple #[.slice none 0 0, .int .i64 e]) ∧ Below w.heap.size w w' := by
  have HH := Hk.mk (h.alloc hB (.cells #[.int .i64 W, .int .i64 H, .slice a n c] 24))
  have hB' : B ≤ (w.alloc (.cells #[.int .i64 W, .int .i64 H, .slice a n c] 24)).heap.size := by simp; omega
  clear h
  go_enter Tryd.func20, Tryd.ntmps20
  go_wp2_with (go_at_call 51; (with_reducible refine (ct_as e t W H a n c B xs _ HH.out hB' hn E).mono ?_); rintro e w1 ⟨rfl, hb1⟩; obtain ⟨hc1, hf1⟩ := bcellg hb1; have hz1 := hb1.size; simp at hz1; have HB1 := Hk.mk hb1; clear hb1)
  go_ret2
  exact ⟨rfl, ((Below.refl _ _).alloc (Nat.le_refl _) _).trans (HB1.out.mono (by simp))⟩
theorem near_yes (t : Int) (W H : Int) (a : Option Addr) (n c B : Nat) (xs : List Int) (w : World) (h : By w B a n xs) (hB : B ≤ w.heap.size) (hn : n ≤ 140737488355328) (hL : LT w) (g : GOk W H n xs) (t0 : 0 ≤ t) (t1 : t < W * H) :
    Calls Tryd.prog 20 #[.agg #[.int .i64 W, .int .i64 H, .slice a n c], .int .i64 t] w (NearR w (nbL W H t)) := by
  obtain ⟨m1, m2⟩ := mul_bd g.w1 g.w2 g.h1 g.h2
  have EQ : Hk (ctE W H n xs t = 0) := ⟨ctE_yes g t0 t1⟩
  have w1' := g.w1
  have w2' := g.w2
  have h1' := g.h1
  have h2' := g.h2
  have HLT := Hk.mk hL
  clear g hL
  have HH := Hk.mk (h.alloc hB (.cells #[.int .i64 W, .int .i64 H, .slice a n c] 24))
  have hB' : B ≤ (w.alloc (.cells #[.int .i64 W, .int .i64 H, .slice a n c] 24)).heap.size := by simp; omega
  clear h
  go_enter Tryd.func20, Tryd.ntmps20
  go_wp2_with (first | (go_at_call 51; (with_reducible refine (ct_as 0 t W H a n c B xs _ HH.out hB' hn EQ).mono ?_); rintro e w1 ⟨rfl, hb1⟩; obtain ⟨hc1, hf1⟩ := bcellg hb1; have hz1 := hb1.size; simp at hz1; have HB1 := Hk.mk hb1; have HL1 := Hk.mk ((HLT.out.below ((Below.refl _ _).alloc (Nat.le_refl _) (.cells #[.int .i64 W, .int .i64 H, .slice a n c] 24)) (Nat.le_refl _)).below hb1 (Nat.le_refl _)); clear hb1) | (go_at_call 54; (with_reducible refine (tnear_any W H t _ HL1.out w1' w2' h1' h2' t0 (by omega)).mono ?_); rintro e w2 ⟨rfl, hb2⟩; have hz2 : w.heap.size ≤ w2.heap.size := (by have := hb2.size; omega); have HB2 := Hk.mk hb2; have HZ := Hk.mk (nb_lit w2 W H t 84); clear hb2))
  go_ret2
  exact ⟨w2.heap.size, rfl, hz2, by simp, rfl, HZ.out, fun j => by go_simp, (((((Below.refl _ _).alloc (Nat.le_refl _) _).trans (HB1.out.mono (by simp))).trans (HB2.out.mono (by omega))).alloc (by omega) _)⟩
theorem eqn_yes (a a' : Option Addr) (n c c' B B' : Nat) (xs : List Int) (w : World) (h : Nq w B a n xs) (h' : Nq w B' a' n xs) (hn : n ≤ 1099511627776) :
    Calls Tryd.prog 33 #[.slice a n c, .slice a' n c'] w fun e w' => e = .returned (.bool true) ∧ ∃ m, w' = w.drewN m := by
  have H := Hk.mk h
  have H' := Hk.mk h'
  clear h h'
  go_enter Tryd.func33, Tryd.ntmps33
  go_wp2
  go_loopw [5] (fun i wr => ∃ k : Nat, k ≤ n ∧ i = .int .i64 k ∧ Hk (∃ m, wr = w.drewN m)) (fun i _ => n - (intOf i).toNat)
  case atStart => exact ⟨0, Nat.zero_le _, rfl, ⟨0, rfl⟩⟩
  case round =>
    obtain ⟨k, hk, rfl, HB⟩ := hrel
    by_cases hlt : k < n
    · obtain ⟨b, off, rfl, hbl, hc⟩ := H.out.rd (by omega)
      obtain ⟨b', off', rfl, hbl', hc'⟩ := H'.out.rd (by omega)
      have hcx : wr.cell? ⟨b, off + k, none⟩ = some (.int .i64 (xs.getD k 0)) := by obtain ⟨m, rfl⟩ := HB.out; exact hc k hlt
      have hcy : wr.cell? ⟨b', off' + k, none⟩ = some (.int .i64 (xs.getD k 0)) := by obtain ⟨m, rfl⟩ := HB.out; exact hc' k hlt
      clear hc hc'
      generalize xs.getD k 0 = x at *
      have i1 : (0 : Int) ≤ (k : Int) := by omega
      have i2 : (k : Int) < (n : Int) := by omega
      go_wp2
      go_quiet (fail)
      go_wp2
      go_roundw
      case rel => exact ⟨k + 1, by omega, by go_num, ⟨by obtain ⟨m, rfl⟩ := HB.out; exact ⟨_, by rw [World.drewN_drewN]⟩⟩⟩
      case measure => simp [intOf]; omega
    · have hkn : k = n := by omega
      subst hkn
      go_wp2
      go_ret
      exact ⟨rfl, HB.out⟩
end Go.Proofs.YtjjodfdmbiebnaaDoor
