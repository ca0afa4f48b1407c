/- Lists of one's own spoilt; lists of booleans compared. -/
import Derived.Test.YtjjodfdmbiebnaaDoorArr
import Derived.Test.YtjjodfdmbiebnaaDoorGrk
import Derived.ArgAppend
import Derived.Deep.QuietTactic
import Derived.BigQuiet
import Derived.Deep.RegionWith
import Derived.Deep.RegionHeld3
import Derived.Deep.DeepCutAuto
import Derived.Deep.DeepFit
import Derived.Outline
namespace Go.Proofs.YtjjodfdmbiebnaaDoor
open Go.RowKit
set_option linter.unusedVariables false
theorem own_of_arr {base g n : Nat} {w : World} {T : TypeId} {f : Nat → Value} (h : Arr w g n T f) (hb : base ≤ g) (hn : n ≤ 1099511627776) : w.ownsRow base T 1 (.slice (some ⟨g, 0, none⟩) n n) n ((List.range n).map f) := by
  obtain ⟨cur, e, hs, hc⟩ := h.ex
  refine ⟨by simp, Or.inr ⟨g, n, cur, rfl, hb, e, Nat.le_refl _, by unfold maxLen; omega, by omega, ?_⟩⟩
  apply List.ext_getElem?
  intro k
  by_cases hk : k < n
  · have := hc k hk
    simp [hk, hs]
    simpa [Array.getElem?_eq_some_iff, hs, hk] using this
  · rw [List.getElem?_eq_none (by simp; omega), List.getElem?_eq_none (by simp; omega)]
theorem Arr.nq {w : World} {g n B : Nat} {T : TypeId} {F : Nat → Int} (h : Arr w g n T (fun k => .int .i64 (F k))) (hg : g < B) : Nq w B (some ⟨g, 0, none⟩) n ((List.range n).map F) :=
  ⟨by simp, fun hn => ⟨g, 0, rfl, hg, fun k hk => by rw [Nat.zero_add, h.cell hk]; simp [List.getD, hk]⟩⟩
set_option maxRecDepth 100000 in
theorem numbers_as (n g : Nat) (F : Nat → Int) (w : World) (h : Arr w g n 3 (fun k => .int .i64 (F k))) (hn : n ≤ 1099511627776) :
    Calls Tryd.prog 34 #[.slice (some ⟨g, 0, none⟩) n n] w fun e w' => e = .returned (.tuple #[]) ∧ Below g w w' := by
  have infoT : (Tryd.prog.info? 3).map (fun i => (i.zero, i.size, i.bytes)) = some (some (.int .i64 default), 1, 8) := by kernel_rfl
  obtain ⟨i0, hi, hz0, hz1, hz2⟩ := info_parts infoT
  clear infoT
  have HO := Hk.mk h
  have hgw := h.lt
  clear h
  go_enter Tryd.func34, Tryd.ntmps34
  go_wp2
  go_loopw [2] (fun i wr => ∃ (k : Nat), i = .int .i64 k ∧ k ≤ n ∧ Hk (∃ F : Nat → Int, Arr wr g n 3 (fun k => .int .i64 (F k))) ∧ Hk (Fr (fun q => q = g) w wr)) (fun i _ => n - (intOf i).toNat)
  case atStart => exact ⟨0, rfl, by omega, ⟨_, HO.out⟩, ⟨Fr.refl _ _⟩⟩
  case round =>
    obtain ⟨k, rfl, hk, HP, HF⟩ := hrel
    obtain ⟨F, HA⟩ := HP.out
    clear HP HO
    by_cases hlt : k < n
    · have hcx := HA.cell hlt
      have hfz := HA.frozen k
      have j1 : (0 : Int) ≤ (k : Int) := by omega
      have j2 : (k : Int) < (n : Int) := by omega
      have H3 := Hk.mk (HA.set hlt (.int .i64 (-99)))
      have H4 := Hk.mk (HF.out.setCell (p := ⟨g, k, none⟩) (fun _ => rfl) (.int .i64 (-99)))
      clear HA HF
      go_wp2
      go_roundw
      case rel => exact ⟨k + 1, by go_num, by omega, ⟨fun j => if j = k then -99 else F j, H3.out.congr fun j hj => by by_cases e : j = k <;> simp [e]⟩, H4⟩
      case measure => simp [intOf]; omega
    · obtain rfl : k = n := by omega
      have hgr := HA.lt
      have H3 := Hk.mk (own_of_arr HA (Nat.le_refl g) hn)
      have H5 := Hk.mk HA
      clear HA
      go_wp2_with (at_builtin; go_must (refine wpList_append_own _ rfl _ _ 25 rfl g 3 i0 (.int .i64 default) 1 8 Tryd.underlying25 hi hz0 hz1 hz2 rfl (by decide) _ k _ rfl (H3.out.alloc _) ⟨wr.heap.size, 0, none⟩ 1 1 [.int .i64 (5)] rfl rfl (one_new _ _ _) ?c2 (by unfold maxLen; omega) (by omega) ?c5 ?_))
      case c2 => intro u hu; simp at hu; subst hu; rfl
      case c5 => simp; omega
      · intro v' w1 hown' hgrow _
        have HG := Hk.mk hgrow
        clear hgrow hown'
        go_wp2
        go_end0
        exact ⟨rfl, ((HF.out.below (B := g) (by omega) (fun q _ e => by subst e; exact Nat.le_refl _)).alloc (by omega) _).grown HG.out (by simp; omega) (fun g hg => by simp [Value.ownBlock] at hg; omega)⟩
set_option maxRecDepth 100000 in
theorem bools_as (n g : Nat) (F : Nat → Bool) (w : World) (h : Arr w g n 4 (fun k => .bool (F k))) (hn : n ≤ 1099511627776) :
    Calls Tryd.prog 29 #[.slice (some ⟨g, 0, none⟩) n n] w fun e w' => e = .returned (.tuple #[]) ∧ Below g w w' := by
  have infoT : (Tryd.prog.info? 4).map (fun i => (i.zero, i.size, i.bytes)) = some (some (.bool default), 1, 1) := by kernel_rfl
  obtain ⟨i0, hi, hz0, hz1, hz2⟩ := info_parts infoT
  clear infoT
  have HO := Hk.mk h
  have hgw := h.lt
  clear h
  go_enter Tryd.func29, Tryd.ntmps29
  go_wp2
  go_loopw [2] (fun i wr => ∃ (k : Nat), i = .int .i64 k ∧ k ≤ n ∧ Hk (∃ F : Nat → Bool, Arr wr g n 4 (fun k => .bool (F k))) ∧ Hk (Fr (fun q => q = g) w wr)) (fun i _ => n - (intOf i).toNat)
  case atStart => exact ⟨0, rfl, by omega, ⟨_, HO.out⟩, ⟨Fr.refl _ _⟩⟩
  case round =>
    obtain ⟨k, rfl, hk, HP, HF⟩ := hrel
    obtain ⟨F, HA⟩ := HP.out
    clear HP HO
    by_cases hlt : k < n
    · have hcx := HA.cell hlt
      have hfz := HA.frozen k
      have j1 : (0 : Int) ≤ (k : Int) := by omega
      have j2 : (k : Int) < (n : Int) := by omega
      have H3 := Hk.mk (HA.set hlt (.bool (!(F k))))
      have H4 := Hk.mk (HF.out.setCell (p := ⟨g, k, none⟩) (fun _ => rfl) (.bool (!(F k))))
      clear HA HF
      go_wp2
      go_roundw
      case rel => exact ⟨k + 1, by go_num, by omega, ⟨fun j => if j = k then !(F k) else F j, H3.out.congr fun j hj => by by_cases e : j = k <;> simp [e]⟩, H4⟩
      case measure => simp [intOf]; omega
    · obtain rfl : k = n := by omega
      have hgr := HA.lt
      have H3 := Hk.mk (own_of_arr HA (Nat.le_refl g) hn)
      have H5 := Hk.mk HA
      clear HA
      go_wp2_with (at_builtin; go_must (refine wpList_append_own _ rfl _ _ 51 rfl g 4 i0 (.bool default) 1 1 Tryd.underlying51 hi hz0 hz1 hz2 rfl (by decide) _ k _ rfl (H3.out.alloc _) ⟨wr.heap.size, 0, none⟩ 1 1 [.bool (true)] rfl rfl (one_new _ _ _) ?c2 (by unfold maxLen; omega) (by omega) ?c5 ?_))
      case c2 => intro u hu; simp at hu; subst hu; rfl
      case c5 => simp; omega
      · intro v' w1 hown' hgrow _
        have HG := Hk.mk hgrow
        clear hgrow hown'
        go_wp2
        go_end0
        exact ⟨rfl, ((HF.out.below (B := g) (by omega) (fun q _ e => by subst e; exact Nat.le_refl _)).alloc (by omega) _).grown HG.out (by simp; omega) (fun g hg => by simp [Value.ownBlock] at hg; omega)⟩
set_option maxRecDepth 100000 in
theorem bools_nil (w : World) : Calls Tryd.prog 29 #[.slice none 0 0] w fun e w' => e = .returned (.tuple #[]) ∧ Below w.heap.size w w' := by
  have infoT : (Tryd.prog.info? 4).map (fun i => (i.zero, i.size, i.bytes)) = some (some (.bool false), 1, 1) := by kernel_rfl
  obtain ⟨i0, hi, hz0, hz1, hz2⟩ := info_parts infoT
  have HO := Hk.mk (World.ownsRow_nil w w.heap.size 4 1)
  go_enter Tryd.func29, Tryd.ntmps29
  go_wp2
  go_loopw [2] (fun i wr => i = .int .i64 0 ∧ wr = w) (fun i _ => 0)
  case atStart => exact ⟨rfl, rfl⟩
  case round =>
    obtain ⟨rfl, rfl⟩ := hrel
    go_wp2_with (at_builtin; refine wpList_append_own _ rfl _ _ 51 rfl wr.heap.size 4 i0 (.bool false) 1 1 Tryd.underlying51 hi hz0 hz1 hz2 rfl (by decide) _ _ _ rfl (HO.out.alloc _) ⟨wr.heap.size, 0, none⟩ 1 1 [.bool true] rfl rfl (one_new _ _ _) ?c2 (by unfold maxLen; omega) (by omega) ?c5 ?_)
    case c2 => intro u hu; simp at hu; subst hu; rfl
    case c5 => simp
    · intro v' w1 hown' hgrow _
      have HG := Hk.mk hgrow
      clear hgrow hown'
      go_wp2
      go_end0
      exact ⟨rfl, ((Below.refl _ _).alloc (Nat.le_refl _) _).grown HG.out (by simp) (fun g hg => by cases hg)⟩
theorem rd_nil (w : World) (B : Nat) (a : Option Addr) (f : Nat → Value) : Rd w B a 0 f := fun h => absurd h (by omega)
theorem Arr.rd0 {w : World} {g n : Nat} {T : TypeId} {f : Nat → Value} (h : Arr w g n T f) : Rd w (g + 1) (some ⟨g, 0, none⟩) n f := h.rd (Nat.lt_succ_self g)
theorem eqbl_yes (a a' : Option Addr) (n c c' B B' : Nat) (F : Nat → Bool) (w : World) (h : Rd w B a n (fun k => .bool (F k))) (h' : Rd w B' a' n (fun k => .bool (F k))) (hn : n ≤ 1099511627776) :
    Calls Tryd.prog 28 #[.slice a n c, .slice a' n c'] w fun e w' => e = .returned (.bool true) ∧ ∃ m, w' = w.drewN m := by
  have H := Hk.mk h
  have H' := Hk.mk h'
  clear h h'
  go_enter Tryd.func28, Tryd.ntmps28
  go_wp2
  go_loopw [5] (fun i wr => ∃ k : Nat, k ≤ n ∧ i = .int .i64 k ∧ Hk (∃ m, wr = w.drewN m)) (fun i _ => n - (intOf i).toNat)
  case atStart => exact ⟨0, Nat.zero_le _, rfl, ⟨0, rfl⟩⟩
  case round =>
    obtain ⟨k, hk, rfl, HB⟩ := hrel
    by_cases hlt : k < n
    · obtain ⟨b, off, rfl, hbl, hc⟩ := H.out (by omega)
      obtain ⟨b', off', rfl, hbl', hc'⟩ := H'.out (by omega)
      have hcx : wr.cell? ⟨b, off + k, none⟩ = some (.bool (F k)) := by obtain ⟨m, rfl⟩ := HB.out; exact hc k hlt
      have hcy : wr.cell? ⟨b', off' + k, none⟩ = some (.bool (F k)) := by obtain ⟨m, rfl⟩ := HB.out; exact hc' k hlt
      clear hc hc'
      generalize F k = x at *
      have i1 : (0 : Int) ≤ (k : Int) := by omega
      have i2 : (k : Int) < (n : Int) := by omega
      cases x <;>
       (go_wp2
        go_quiet (fail)
        go_wp2
        go_roundw
        case rel => exact ⟨k + 1, by omega, by go_num, ⟨by obtain ⟨m, rfl⟩ := HB.out; exact ⟨_, by rw [World.drewN_drewN]⟩⟩⟩
        case measure => simp [intOf]; omega)
    · have hkn : k = n := by omega
      subst hkn
      go_wp2
      go_ret
      exact ⟨rfl, HB.out⟩
end Go.Proofs.YtjjodfdmbiebnaaDoor
