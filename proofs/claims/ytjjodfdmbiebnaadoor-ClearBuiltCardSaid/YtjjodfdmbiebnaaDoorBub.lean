/- Layer 8: slices of buildings; whether their IDs rise. -/
import Derived.Test.YtjjodfdmbiebnaaDoorBua
import Derived.Deep.QuietTactic
import Derived.BigQuiet
import Derived.Deep.RegionWith
import Derived.Deep.RegionHeld3
import Derived.Deep.DeepCutAuto
import Derived.Deep.DeepFit
import Derived.Outline
namespace Go.Proofs.YtjjodfdmbiebnaaDoor
open Go.RowKit
set_option linter.unusedVariables false
/-- The slice reads as these buildings. -/
structure Bq (w : World) (B : Nat) (a : Option Addr) (n : Nat) (bs : List Bd) : Prop where
  len : bs.length = n
  rd : 0 < n → ∃ b off, a = some ⟨b, off, none⟩ ∧ b < B ∧ ∀ k, k < n → ∀ i, i < 6 → w.cell? ⟨b, off + k * 6 + i, none⟩ = some (.int .i64 ((bs.getD k default).c i))
theorem Bq.below {w w' : World} {B B' n : Nat} {a : Option Addr} {bs : List Bd} (h : Bq w B a n bs) (hb : Below B' w w') (hB : B ≤ B') : Bq w' B a n bs := ⟨h.len, fun hn => by
  obtain ⟨b, off, e, hlt, hc⟩ := h.rd hn
  exact ⟨b, off, e, hlt, fun k hk i hi => (hb.cell (p := ⟨b, off + k * 6 + i, none⟩) (Nat.lt_of_lt_of_le hlt hB)).trans (hc k hk i hi)⟩⟩
theorem Bq.mono {w : World} {B B' n : Nat} {a : Option Addr} {bs : List Bd} (h : Bq w B a n bs) (hB : B ≤ B') : Bq w B' a n bs := ⟨h.len, fun hn => by
  obtain ⟨b, off, e, hlt, hc⟩ := h.rd hn
  exact ⟨b, off, e, by omega, hc⟩⟩
theorem Bq.drewN {w : World} {B n : Nat} {a : Option Addr} {bs : List Bd} (h : Bq w B a n bs) (m : Nat) : Bq (w.drewN m) B a n bs := ⟨h.len, h.rd⟩
theorem Bq.nil (w : World) (B : Nat) (a : Option Addr) : Bq w B a 0 [] := ⟨rfl, fun h => absurd h (by omega)⟩
/-- The cells of one of them. -/
theorem Bq.six {w : World} {B n : Nat} {a : Option Addr} {bs : List Bd} (h : Bq w B a n bs) {k : Nat} (hk : k < n) : ∃ b off, a = some ⟨b, off, none⟩ ∧ b < B ∧
    w.cell? ⟨b, off + k * 6, none⟩ = some (.int .i64 (bs.getD k default).i) ∧ w.cell? ⟨b, off + k * 6 + 1, none⟩ = some (.int .i64 (bs.getD k default).o) ∧ w.cell? ⟨b, off + k * 6 + 2, none⟩ = some (.int .i64 (bs.getD k default).x) ∧
    w.cell? ⟨b, off + k * 6 + 3, none⟩ = some (.int .i64 (bs.getD k default).y) ∧ w.cell? ⟨b, off + k * 6 + 4, none⟩ = some (.int .i64 (bs.getD k default).w) ∧ w.cell? ⟨b, off + k * 6 + 5, none⟩ = some (.int .i64 (bs.getD k default).h) := by
  obtain ⟨b, off, e, hlt, hc⟩ := h.rd (by omega)
  exact ⟨b, off, e, hlt, hc k hk 0 (by omega), hc k hk 1 (by omega), hc k hk 2 (by omega), hc k hk 3 (by omega), hc k hk 4 (by omega), hc k hk 5 (by omega)⟩
set_option maxRecDepth 100000 in
theorem asc8_as (r : Bool) (a : Option Addr) (n c B : Nat) (bs : List Bd) (w : World) (h : Bq w B a n bs) (hn : n ≤ 1099511627776) (E : Hk (r = true ↔ ascB bs)) :
    Calls Tryd.prog 73 #[.slice a n c] w fun e w' => e = .returned (.bool r) ∧ ∃ m, w' = w.drewN m := by
  have HH := Hk.mk h
  clear h
  go_enter Tryd.func73, Tryd.ntmps73
  go_wp2_with fail
  go_loopw [3] (fun i wr => ∃ j : Nat, i = .int .i64 ((j : Int) + 1) ∧ (j + 1 ≤ n ∨ j = 0) ∧ Hk (∀ k, k < j → (bs.getD k default).i < (bs.getD (k + 1) default).i) ∧ Hk (∃ m, wr = w.drewN m)) (fun i _ => n + 1 - (intOf i).toNat)
  case atStart => exact ⟨0, rfl, Or.inr rfl, ⟨fun k hk => absurd hk (by omega)⟩, ⟨0, rfl⟩⟩
  case round =>
    obtain ⟨j, rfl, hj, HJ, HM⟩ := hrel
    obtain ⟨m, rfl⟩ := HM.out
    by_cases hlt : j + 1 < n
    · obtain ⟨b, off, rfl, hb, p0, -⟩ := HH.out.six (show j < n by omega)
      obtain ⟨b2, off2, e2, -, p1, -⟩ := HH.out.six hlt
      obtain ⟨rfl, rfl⟩ : b2 = b ∧ off2 = off := by
        injection e2 with h9
        injection h9 with h7 h8
        exact ⟨h7.symm, h8.symm⟩
      clear e2
      have j1 : (0 : Int) ≤ (j : Int) := by omega
      have j2 : (j : Int) + 1 < (n : Int) := by omega
      obtain ⟨u, hu⟩ : ∃ u, (bs.getD j default).i = u := ⟨_, rfl⟩
      obtain ⟨v, hv⟩ : ∃ v, (bs.getD (j + 1) default).i = v := ⟨_, rfl⟩
      rw [hu] at p0
      rw [hv] at p1
      have HU := Hk.mk hu
      have HV := Hk.mk hv
      clear hu hv
      by_cases huv : v ≤ u
      · have b1 : decide (v ≤ u) = true := by simpa using huv
        have R : Hk (false = r) := ⟨by
          cases r
          · rfl
          · have := E.out.1 rfl j (by rw [HH.out.len]; exact hlt)
            rw [HU.out, HV.out] at this; omega⟩
        clear huv
        go_wp2_with fail
        go_quiet (fail)
        go_wp2
        go_ret
        exact ⟨rbo R.out, _, World.drewN_drewN _ _ _⟩
      · have b1 : decide (v ≤ u) = false := by simpa using huv
        have R : Hk (∀ k, k < j + 1 → (bs.getD k default).i < (bs.getD (k + 1) default).i) := ⟨fun k hk => by
          by_cases e : k = j
          · subst e; rw [HU.out, HV.out]; omega
          · exact HJ.out k (by omega)⟩
        clear huv
        go_wp2_with fail
        go_quiet (fail)
        go_wp2
        exact ⟨⟨j + 1, by go_num, Or.inl (by omega), R, ⟨_, rfl⟩⟩, by simp [intOf]; omega⟩
    · have b1 : decide ((j : Int) + 1 < n) = false := by simp; omega
      have R : Hk (true = r) := ⟨by
        symm
        rw [E.out]
        intro k hk
        rw [HH.out.len] at hk
        exact HJ.out k (by omega)⟩
      have j3 : ¬ ((j : Int) + 1 < n) := by omega
      go_wp2
      go_ret
      exact ⟨rbo R.out, m, rfl⟩
set_option maxRecDepth 100000 in
theorem ids8_as (r : Bool) (a : Option Addr) (n c B : Nat) (bs : List Bd) (w : World) (h : Bq w B a n bs) (hn : n ≤ 1099511627776) (E : Hk (r = true ↔ ascB bs)) :
    Calls Tryd.prog 62 #[.slice a n c] w fun e w' => e = .returned (.bool r) ∧ ∃ m, w' = w.drewN m := by
  have HH := Hk.mk h
  clear h
  go_enter Tryd.func62, Tryd.ntmps62
  go_wp2_with fail
  go_loopw [3] (fun i wr => ∃ j : Nat, i = .int .i64 ((j : Int) + 1) ∧ (j + 1 ≤ n ∨ j = 0) ∧ Hk (∀ k, k < j → (bs.getD k default).i < (bs.getD (k + 1) default).i) ∧ Hk (∃ m, wr = w.drewN m)) (fun i _ => n + 1 - (intOf i).toNat)
  case atStart => exact ⟨0, rfl, Or.inr rfl, ⟨fun k hk => absurd hk (by omega)⟩, ⟨0, rfl⟩⟩
  case round =>
    obtain ⟨j, rfl, hj, HJ, HM⟩ := hrel
    obtain ⟨m, rfl⟩ := HM.out
    by_cases hlt : j + 1 < n
    · obtain ⟨b, off, rfl, hb, p0, -⟩ := HH.out.six (show j < n by omega)
      obtain ⟨b2, off2, e2, -, p1, -⟩ := HH.out.six hlt
      obtain ⟨rfl, rfl⟩ : b2 = b ∧ off2 = off := by
        injection e2 with h9
        injection h9 with h7 h8
        exact ⟨h7.symm, h8.symm⟩
      clear e2
      have j1 : (0 : Int) ≤ (j : Int) := by omega
      have j2 : (j : Int) + 1 < (n : Int) := by omega
      obtain ⟨u, hu⟩ : ∃ u, (bs.getD j default).i = u := ⟨_, rfl⟩
      obtain ⟨v, hv⟩ : ∃ v, (bs.getD (j + 1) default).i = v := ⟨_, rfl⟩
      rw [hu] at p0
      rw [hv] at p1
      have HU := Hk.mk hu
      have HV := Hk.mk hv
      clear hu hv
      by_cases huv : v ≤ u
      · have b1 : decide (v ≤ u) = true := by simpa using huv
        have R : Hk (false = r) := ⟨by
          cases r
          · rfl
          · have := E.out.1 rfl j (by rw [HH.out.len]; exact hlt)
            rw [HU.out, HV.out] at this; omega⟩
        clear huv
        go_wp2_with fail
        go_quiet (fail)
        go_wp2
        go_ret
        exact ⟨rbo R.out, _, World.drewN_drewN _ _ _⟩
      · have b1 : decide (v ≤ u) = false := by simpa using huv
        have R : Hk (∀ k, k < j + 1 → (bs.getD k default).i < (bs.getD (k + 1) default).i) := ⟨fun k hk => by
          by_cases e : k = j
          · subst e; rw [HU.out, HV.out]; omega
          · exact HJ.out k (by omega)⟩
        clear huv
        go_wp2_with fail
        go_quiet (fail)
        go_wp2
        exact ⟨⟨j + 1, by go_num, Or.inl (by omega), R, ⟨_, rfl⟩⟩, by simp [intOf]; omega⟩
    · have b1 : decide ((j : Int) + 1 < n) = false := by simp; omega
      have R : Hk (true = r) := ⟨by
        symm
        rw [E.out]
        intro k hk
        rw [HH.out.len] at hk
        exact HJ.out k (by omega)⟩
      have j3 : ¬ ((j : Int) + 1 < n) := by omega
      go_wp2
      go_ret
      exact ⟨rbo R.out, m, rfl⟩
theorem asc8_yes (a : Option Addr) (n c B : Nat) (bs : List Bd) (w : World) (h : Bq w B a n bs) (hn : n ≤ 1099511627776) (E : Hk (ascB bs)) :
    Calls Tryd.prog 73 #[.slice a n c] w fun e w' => e = .returned (.bool true) ∧ ∃ m, w' = w.drewN m := asc8_as true a n c B bs w h hn ⟨by simp [E.out]⟩
theorem asc8_no (a : Option Addr) (n c B : Nat) (bs : List Bd) (w : World) (h : Bq w B a n bs) (hn : n ≤ 1099511627776) (E : Hk (¬ ascB bs)) :
    Calls Tryd.prog 73 #[.slice a n c] w fun e w' => e = .returned (.bool false) ∧ ∃ m, w' = w.drewN m := asc8_as false a n c B bs w h hn ⟨by simp [E.out]⟩
theorem ids8_yes (a : Option Addr) (n c B : Nat) (bs : List Bd) (w : World) (h : Bq w B a n bs) (hn : n ≤ 1099511627776) (E : Hk (ascB bs)) :
    Calls Tryd.prog 62 #[.slice a n c] w fun e w' => e = .returned (.bool true) ∧ ∃ m, w' = w.drewN m := ids8_as true a n c B bs w h hn ⟨by simp [E.out]⟩
theorem ids8_no (a : Option Addr) (n c B : Nat) (bs : List Bd) (w : World) (h : Bq w B a n bs) (hn : n ≤ 1099511627776) (E : Hk (¬ ascB bs)) :
    Calls Tryd.prog 62 #[.slice a n c] w fun e w' => e = .returned (.bool false) ∧ ∃ m, w' = w.drewN m := ids8_as false a n c B bs w h hn ⟨by simp [E.out]⟩
end Go.Proofs.YtjjodfdmbiebnaaDoor
