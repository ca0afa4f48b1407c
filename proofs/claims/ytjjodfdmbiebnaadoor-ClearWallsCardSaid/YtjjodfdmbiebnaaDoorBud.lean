/- The library's IndexFunc and ContainsFunc over numbers: a test that makes memory at most. -/
import Derived.Test.YtjjodfdmbiebnaaDoorBuc
import Derived.Deep.QuietTactic
import Derived.BigQuiet
import Derived.Deep.RegionWith
import Derived.Deep.RegionHeld3
import Derived.Deep.DeepCutAuto
import Derived.Deep.DeepFit
import Derived.Outline
namespace Go.Proofs.YtjjodfdmbiebnaaDoor
open Go.RowKit
set_option linter.unusedVariables false
theorem any_drop {xs : List Int} {p : Int → Bool} {k : Nat} (h : k < xs.length) : (xs.drop k).any p = (p (xs.getD k 0) || (xs.drop (k + 1)).any p) := by
  have e : xs.getD k 0 = xs[k] := by simp [List.getD, List.getElem?_eq_getElem h]
  rw [List.drop_eq_getElem_cons h, List.any_cons, e]
set_option maxRecDepth 100000 in
theorem idxf_as (r : Bool) (F : FuncId) (cb : Array Value) (eg : ∀ args w, (callFunc F args).run Tryd.prog w = .ok (.enter F args) w) (p : Int → Bool) (a : Option Addr) (n c B : Nat) (xs : List Int) (w : World) (h : Nq w B a n xs) (hB : B ≤ w.heap.size) (hn : n ≤ 1099511627776)
    (hp : ∀ X, Below w.heap.size w X → ∀ k, k < n → Calls Tryd.prog F (#[.int .i64 (xs.getD k 0)] ++ cb) X fun e w' => e = .returned (.bool (p (xs.getD k 0))) ∧ Below X.heap.size X w') (E : Hk (xs.any p = r)) :
    Calls Tryd.prog 84 #[.slice a n c, .func (.func F) #[] cb] w fun e w' => (∃ v, e = .returned (.int .i64 v) ∧ decide (0 ≤ v) = r) ∧ Below w.heap.size w w' := by
  have HH := Hk.mk h
  have HP := Hk.mk hp
  clear h hp
  go_enter Tryd.func84, Tryd.ntmps84
  go_wp2_with fail
  go_loopw [8] (fun i wr => ∃ k : Nat, i = .int .i64 k ∧ k ≤ n ∧ Hk ((xs.drop k).any p = r) ∧ Hk (Below w.heap.size w wr)) (fun i _ => n - (intOf i).toNat)
  case atStart => exact ⟨0, rfl, Nat.zero_le _, ⟨by simpa using E.out⟩, ⟨Below.refl _ _⟩⟩
  case round =>
    obtain ⟨k, rfl, hk, HR, HB⟩ := hrel
    obtain ⟨hc, hf, hl, hn', hm⟩ := kw_rules HB.out (Nat.le_refl _)
    by_cases hlt : k < n
    · obtain ⟨b, off, rfl, hb, hcells⟩ := HH.out.rd (by omega)
      have hbw : b < w.heap.size := by omega
      have p0 := hcells k hlt
      have hp := HP.out _ HB.out k hlt
      have hr := HR.out
      rw [any_drop (by rw [HH.out.len]; exact hlt)] at hr
      obtain ⟨x, hx⟩ : ∃ x, xs.getD k 0 = x := ⟨_, rfl⟩
      rw [hx] at p0 hp hr
      have HRx := Hk.mk hr
      have HPx := Hk.mk hp
      clear hcells hx hp hr
      have j1 : (0 : Int) ≤ (k : Int) := by omega
      have j2 : (k : Int) < (n : Int) := by omega
      go_wp2_with fail
      refine HPx.out.mono ?_
      rintro e z ⟨rfl, hbz⟩
      have HB2 := Hk.mk (kw_step HB.out (Nat.le_refl _) hbz)
      clear hbz
      cases hpx : p x
      case true =>
        have HRy : Hk (true = r) := ⟨by rw [← HRx.out, hpx]; rfl⟩
        clear HRx HPx
        go_wp2
        go_ret
        exact ⟨⟨_, rfl, by rw [← HRy.out]; simp⟩, HB2.out⟩
      case false =>
        have HRy : Hk ((xs.drop (k + 1)).any p = r) := ⟨by rw [← HRx.out, hpx]; rfl⟩
        clear HRx HPx
        go_wp2
        exact ⟨⟨k + 1, by go_num, by omega, HRy, HB2⟩, by simp [intOf]; omega⟩
    · have hkn : k = n := by omega
      subst hkn
      have R : Hk (false = r) := ⟨by have := HR.out; rw [List.drop_of_length_le (by rw [HH.out.len]; omega)] at this; exact this⟩
      go_wp2
      go_ret
      exact ⟨⟨_, rfl, by rw [← R.out]; rfl⟩, HB.out⟩
theorem contf_as (r : Bool) (F : FuncId) (cb : Array Value) (eg : ∀ args w, (callFunc F args).run Tryd.prog w = .ok (.enter F args) w) (p : Int → Bool) (a : Option Addr) (n c B : Nat) (xs : List Int) (w : World) (h : Nq w B a n xs) (hB : B ≤ w.heap.size) (hn : n ≤ 1099511627776)
    (hp : ∀ X, Below w.heap.size w X → ∀ k, k < n → Calls Tryd.prog F (#[.int .i64 (xs.getD k 0)] ++ cb) X fun e w' => e = .returned (.bool (p (xs.getD k 0))) ∧ Below X.heap.size X w') (E : Hk (xs.any p = r)) :
    Calls Tryd.prog 82 #[.slice a n c, .func (.func F) #[] cb] w fun e w' => e = .returned (.bool r) ∧ Below w.heap.size w w' := by
  have HP := Hk.mk (idxf_as r F cb eg p a n c B xs w h hB hn hp E)
  clear h hp
  go_enter Tryd.func82, Tryd.ntmps82
  go_wp2_with (go_at_call 84; (with_reducible refine HP.out.mono ?_); rintro e z ⟨⟨v, rfl, hv⟩, hbz⟩; have HB2 := Hk.mk hbz; clear hbz)
  go_ret
  subst hv
  exact ⟨rbo (by simp), HB2.out⟩
end Go.Proofs.YtjjodfdmbiebnaaDoor
