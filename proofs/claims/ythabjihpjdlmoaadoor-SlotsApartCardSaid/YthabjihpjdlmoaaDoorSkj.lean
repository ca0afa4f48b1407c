import Derived.ArgAppend
import Derived.Deep.QuietTactic
import Derived.BigQuiet
import Derived.Deep.RegionWith
import Derived.Deep.RegionHeld3
import Derived.Deep.DeepCutAuto
import Derived.Deep.DeepFit
import Derived.Outline
import Derived.Test.YthabjihpjdlmoaaDoorSkb
import Derived.Test.YthabjihpjdlmoaaDoorSke
import Derived.Laws.OwnMore
import Derived.Maps.AppendAt
import Derived.BigRegion
import Derived.Test.YthabjihpjdlmoaaDoorSkf
import Derived.Test.YthabjihpjdlmoaaDoorSka
/- Lists of one's own spoilt; lists of booleans compared. -/
namespace Go.Proofs.YthabjihpjdlmoaaDoor
open Go.RowKit
set_option linter.unusedVariables false
theorem own_of_arr {base g n : Nat} {w : World} {T : TypeId} {f : Nat → Value} (h : Arr w g n T f) (hb : base ≤ g) (hn : n ≤ 1099511627776) : w.ownsRow base T 1 (.slice (some ⟨g, 0, none⟩) n n) n ((List.range n).map f) := by
  obtain ⟨cur, e, hs, hc⟩ := h.ex
  refine ⟨by simp, Or.inr ⟨g, n, cur, rfl, hb, e, Nat.le_refl _, by unfold maxLen; omega, by omega, ?_⟩⟩
  apply List.ext_getElem?
  intro k
  by_cases hk : k < n
  · have := hc k hk
    simp [hk, hs]
    simpa [Array.getElem?_eq_some_iff, hs, hk] using this
  · rw [List.getElem?_eq_none (by simp; omega), List.getElem?_eq_none (by simp; omega)]
theorem Arr.nq {w : World} {g n B : Nat} {T : TypeId} {F : Nat → Int} (h : Arr w g n T (fun k => .int .i64 (F k))) (hg : g < B) : Nq w B (some ⟨g, 0, none⟩) n ((List.range n).map F) :=
  ⟨by simp, fun hn => ⟨g, 0, rfl, hg, fun k hk => by rw [Nat.zero_add, h.cell hk]; simp [List.getD, hk]⟩⟩
set_option maxRecDepth 100000 in
theorem numbers_as (n g : Nat) (F : Nat → Int) (w : World) (h : Arr w g n 3 (fun k => .int .i64 (F k))) (hn : n ≤ 1099511627776) :
    Calls Tryd.prog 31 #[.slice (some ⟨g, 0, none⟩) n n] w fun e w' => e = .returned (.tuple #[]) ∧ Below g w w' := by
  have infoT : (Tryd.prog.info? 3).map (fun i => (i.zero, i.size, i.bytes)) = some (some (.int .i64 default), 1, 8) := by kernel_rfl
  obtain ⟨i0, hi, hz0, hz1, hz2⟩ := info_parts infoT
  clear infoT
  have HO := Hk.mk h
  have hgw := h.lt
  clear h
  go_enter Tryd.func31, Tryd.ntmps31
  go_wp2
  go_loopw [2] (fun i wr => ∃ (k : Nat), i = .int .i64 k ∧ k ≤ n ∧ Hk (∃ F : Nat → Int, Arr wr g n 3 (fun k => .int .i64 (F k))) ∧ Hk (Fr (fun q => q = g) w wr)) (fun i _ => n - (intOf i).toNat)
  case atStart => exact ⟨0, rfl, by omega, ⟨_, HO.out⟩, ⟨Fr.refl _ _⟩⟩
  case round =>
    obtain ⟨k, rfl, hk, HP, HF⟩ := hrel
    obtain ⟨F, HA⟩ := HP.out
    clear HP HO
    by_cases hlt : k < n
    · have hcx := HA.cell hlt
      have hfz := HA.frozen k
      have j1 : (0 : Int) ≤ (k : Int) := by omega
      have j2 : (k : Int) < (n : Int) := by omega
      have H3 := Hk.mk (HA.set hlt (.int .i64 (-99)))
      have H4 := Hk.mk (HF.out.setCell (p := ⟨g, k, none⟩) (fun _ => rfl) (.int .i64 (-99)))
      clear HA HF
      go_wp2
      go_roundw
      case rel => exact ⟨k + 1, by go_num, by omega, ⟨fun j => if j = k then -99 else F j, H3.out.congr fun j hj => by by_cases e : j = k <;> simp [e]⟩, H4⟩
      case measure => simp [intOf]; omega
    · obtain rfl : k = n := by omega
      have hgr := HA.lt
      have H3 := Hk.mk (own_of_arr HA (Nat.le_refl g) hn)
      have H5 := Hk.mk HA
      clear HA
      go_wp2_with (at_builtin; go_must (refine wpList_append_own _ rfl _ _ 26 rfl g 3 i0 (.int .i64 default) 1 8 Tryd.underlying26 hi hz0 hz1 hz2 rfl (by decide) _ k _ rfl (H3.out.alloc _) ⟨wr.heap.size, 0, none⟩ 1 1 [.int .i64 (5)] rfl rfl (one_new _ _ _) ?c2 (by unfold maxLen; omega) (by omega) ?c5 ?_))
      case c2 => intro u hu; simp at hu; subst hu; rfl
      case c5 => simp; omega
      · intro v' w1 hown' hgrow _
        have HG := Hk.mk hgrow
        clear hgrow hown'
        go_wp2
        go_end0
        exact ⟨rfl, ((HF.out.below (B := g) (by omega) (fun q _ e => by subst e; exact Nat.le_refl _)).alloc (by omega) _).grown HG.out (by simp; omega) (fun g hg => by simp [Value.ownBlock] at hg; omega)⟩
set_option maxRecDepth 100000 in
theorem bools_as (n g : Nat) (F : Nat → Bool) (w : World) (h : Arr w g n 4 (fun k => .bool (F k))) (hn : n ≤ 1099511627776) :
    Calls Tryd.prog 23 #[.slice (some ⟨g, 0, none⟩) n n] w fun e w' => e = .returned (.tuple #[]) ∧ Below g w w' := by
  have infoT : (Tryd.prog.info? 4).map (fun i => (i.zero, i.size, i.bytes)) = some (some (.bool default), 1, 1) := by kernel_rfl
  obtain ⟨i0, hi, hz0, hz1, hz2⟩ := info_parts infoT
  clear infoT
  have HO := Hk.mk h
  have hgw := h.lt
  clear h
  go_enter Tryd.func23, Tryd.ntmps23
  go_wp2
  go_loopw [2] (fun i wr => ∃ (k : Nat), i = .int .i64 k ∧ k ≤ n ∧ Hk (∃ F : Nat → Bool, Arr wr g n 4 (fun k => .bool (F k))) ∧ Hk (Fr (fun q => q = g) w wr)) (fun i _ => n - (intOf i).toNat)
  case atStart => exact ⟨0, rfl, by omega, ⟨_, HO.out⟩, ⟨Fr.refl _ _⟩⟩
  case round =>
    obtain ⟨k, rfl, hk, HP, HF⟩ := hrel
    obtain ⟨F, HA⟩ := HP.out
    clear HP HO
    by_cases hlt : k < n
    · have hcx := HA.cell hlt
      have hfz := HA.frozen k
      have j1 : (0 : Int) ≤ (k : Int) := by omega
      have j2 : (k : Int) < (n : Int) := by omega
      have H3 := Hk.mk (HA.set hlt (.bool (!(F k))))
      have H4 := Hk.mk (HF.out.setCell (p := ⟨g, k, none⟩) (fun _ => rfl) (.bool (!(F k))))
      clear HA HF
      go_wp2
      go_roundw
      case rel => exact ⟨k + 1, by go_num, by omega, ⟨fun j => if j = k then !(F k) else F j, H3.out.congr fun j hj => by by_cases e : j = k <;> simp [e]⟩, H4⟩
      case measure => simp [intOf]; omega
    · obtain rfl : k = n := by omega
      have hgr := HA.lt
      have H3 := Hk.mk (own_of_arr HA (Nat.le_refl g) hn)
      have H5 := Hk.mk HA
      clear HA
      go_wp2_with (at_builtin; go_must (refine wpList_append_own _ rfl _ _ 31 rfl g 4 i0 (.bool default) 1 1 Tryd.underlying31 hi hz0 hz1 hz2 rfl (by decide) _ k _ rfl (H3.out.alloc _) ⟨wr.heap.size, 0, none⟩ 1 1 [.bool (true)] rfl rfl (one_new _ _ _) ?c2 (by unfold maxLen; omega) (by omega) ?c5 ?_))
      case c2 => intro u hu; simp at hu; subst hu; rfl
      case c5 => simp; omega
      · intro v' w1 hown' hgrow _
        have HG := Hk.mk hgrow
        clear hgrow hown'
        go_wp2
        go_end0
        exact ⟨rfl, ((HF.out.below (B := g) (by omega) (fun q _ e => by subst e; exact Nat.le_refl _)).alloc (by omega) _).grown HG.out (by simp; omega) (fun g hg => by simp [Value.ownBlock] at hg; omega)⟩
set_option maxRecDepth 100000 in
theorem bools_nil (w : World) : Calls Tryd.prog 23 #[.slice none 0 0] w fun e w' => e = .returned (.tuple #[]) ∧ Below w.heap.size w w' := by
  have infoT : (Tryd.prog.info? 4).map (fun i => (i.zero, i.size, i.bytes)) = some (some (.bool false), 1, 1) := by kernel_rfl
  obtain ⟨i0, hi, hz0, hz1, hz2⟩ := info_parts infoT
  have HO := Hk.mk (World.ownsRow_nil w w.heap.size 4 1)
  go_enter Tryd.func23, Tryd.ntmps23
  go_wp2
  go_loopw [2] (fun i wr => i = .int .i64 0 ∧ wr = w) (fun i _ => 0)
  case atStart => exact ⟨rfl, rfl⟩
  case round =>
    obtain ⟨rfl, rfl⟩ := hrel
    go_wp2_with (at_builtin; refine wpList_append_own _ rfl _ _ 31 rfl wr.heap.size 4 i0 (.bool false) 1 1 Tryd.underlying31 hi hz0 hz1 hz2 rfl (by decide) _ _ _ rfl (HO.out.alloc _) ⟨wr.heap.size, 0, none⟩ 1 1 [.bool true] rfl rfl (one_new _ _ _) ?c2 (by unfold maxLen; omega) (by omega) ?c5 ?_)
    case c2 => intro u hu; simp at hu; subst hu; rfl
    case c5 => simp
    · intro v' w1 hown' hgrow _
      have HG := Hk.mk hgrow
      clear hgrow hown'
      go_wp2
      go_end0
      exact ⟨rfl, ((Below.refl _ _).alloc (Nat.le_refl _) _).grown HG.out (by simp) (fun g hg => by cases hg)⟩
theorem rd_nil (w : World) (B : Nat) (a : Option Addr) (f : Nat → Value) : Rd w B a 0 f := fun h => absurd h (by omega)
theorem Arr.rd0 {w : World} {g n : Nat} {T : TypeId} {f : Nat → Value} (h : Arr w g n T f) : Rd w (g + 1) (some ⟨g, 0, none⟩) n f := h.rd (Nat.lt_succ_self g)
theorem eqbl_yes (a a' : Option Addr) (n c c' B B' : Nat) (F : Nat → Bool) (w : World) (h : Rd w B a n (fun k => .bool (F k))) (h' : Rd w B' a' n (fun k => .bool (F k))) (hn : n ≤ 1099511627776) :
    Calls Tryd.prog 22 #[.slice a n c, .slice a' n c'] w fun e w' => e = .returned (.bool true) ∧ ∃ m, w' = w.drewN m := by
  have H := Hk.mk h
  have H' := Hk.mk h'
  clear h h'
  go_enter Tryd.func22, Tryd.ntmps22
  go_wp2
  go_loopw [5] (fun i wr => ∃ k : Nat, k ≤ n ∧ i = .int .i64 k ∧ Hk (∃ m, wr = w.drewN m)) (fun i _ => n - (intOf i).toNat)
  case atStart => exact ⟨0, Nat.zero_le _, rfl, ⟨0, rfl⟩⟩
  case round =>
    obtain ⟨k, hk, rfl, HB⟩ := hrel
    by_cases hlt : k < n
    · obtain ⟨b, off, rfl, hbl, hc⟩ := H.out (by omega)
      obtain ⟨b', off', rfl, hbl', hc'⟩ := H'.out (by omega)
      have hcx : wr.cell? ⟨b, off + k, none⟩ = some (.bool (F k)) := by obtain ⟨m, rfl⟩ := HB.out; exact hc k hlt
      have hcy : wr.cell? ⟨b', off' + k, none⟩ = some (.bool (F k)) := by obtain ⟨m, rfl⟩ := HB.out; exact hc' k hlt
      clear hc hc'
      generalize F k = x at *
      have i1 : (0 : Int) ≤ (k : Int) := by omega
      have i2 : (k : Int) < (n : Int) := by omega
      cases x <;>
       (go_wp2
        go_quiet (fail)
        go_wp2
        go_roundw
        case rel => exact ⟨k + 1, by omega, by go_num, ⟨by obtain ⟨m, rfl⟩ := HB.out; exact ⟨_, by rw [World.drewN_drewN]⟩⟩⟩
        case measure => simp [intOf]; omega)
    · have hkn : k = n := by omega
      subst hkn
      go_wp2
      go_ret
      exact ⟨rfl, HB.out⟩
end Go.Proofs.YthabjihpjdlmoaaDoor
/- Layer 12: the queue in memory; before, New, Len, Push. -/
namespace Go.Proofs.YthabjihpjdlmoaaDoor
open Go.RowKit Go.Deep
set_option linter.unusedVariables false
set_option linter.unusedSimpArgs false
theorem before_as (r : Bool) (a b : PrQ) (w : World) (E : Hk (ltQ a b = r)) :
    Calls Tryd.prog 113 #[.agg #[.int .i64 a.1, .int .i64 a.2], .agg #[.int .i64 b.1, .int .i64 b.2]] w fun e w' => e = .returned (.bool r) ∧ Below w.heap.size w w' := by
  have HB : Hk (Below w.heap.size w ((w.alloc (.cells #[.int .i64 a.1, .int .i64 a.2] 160)).alloc (.cells #[.int .i64 b.1, .int .i64 b.2] 160))) := ⟨((Below.refl _ _).alloc (Nat.le_refl _) _).alloc (by simp) _⟩
  by_cases c1 : a.1 < b.1
  · obtain rfl : r = true := by rw [← E.out, ltQ_iff]; exact Or.inl c1
    have d1 : decide (a.1 < b.1) = true := by simpa using c1
    clear c1 E
    go_enter Tryd.func113, Tryd.ntmps113
    go_wp2
    go_ret
    exact ⟨rfl, HB.out⟩
  have d1 : decide (a.1 < b.1) = false := by simpa using c1
  by_cases c2 : a.1 = b.1
  · have d2 : (a.1 == b.1) = true := by simpa using c2
    obtain ⟨s, hs⟩ : ∃ s, decide (a.2 < b.2) = s := ⟨_, rfl⟩
    obtain rfl : r = s := by
      rw [← E.out, ← hs]
      unfold ltQ
      simp [c1, c2]
    clear c1 E c2
    go_enter Tryd.func113, Tryd.ntmps113
    go_wp2
    go_ret
    exact ⟨by first | rfl | rw [hs], HB.out⟩
  · have d2 : (a.1 == b.1) = false := by simpa using c2
    obtain rfl : r = false := by
      rw [← E.out]
      unfold ltQ
      simp [c1, c2]
    clear c1 E c2
    go_enter Tryd.func113, Tryd.ntmps113
    go_wp2
    go_ret
    exact ⟨rfl, HB.out⟩
/-- A queue: the cell that holds its heap, and the heap. -/
structure Hq (w : World) (base Q : Nat) (a : Option Addr) (n c : Nat) (F : Nat → PrQ) : Prop where
  cell : w.cell? ⟨Q, 0, none⟩ = some (.slice a n c)
  fz : w.frozen? ⟨Q, 0, none⟩ = false
  lt : Q < w.heap.size
  bs : base ≤ Q
  row : w.ownsRow base 160 2 (.slice a n c) n (flatQ F n)
  ne : ∀ g, (Value.slice a n c).ownBlock = some g → g ≠ Q
theorem Hq.form {w : World} {base Q n c : Nat} {a : Option Addr} {F : Nat → PrQ} (h : Hq w base Q a n c F) (hn : 0 < n) : ∃ g, a = some ⟨g, 0, none⟩ ∧ base ≤ g ∧ g < w.heap.size ∧ g ≠ Q ∧ n ≤ c ∧ c ≤ maxLen := by
  rcases h.row.2 with ⟨e, h0⟩ | ⟨g, cap, cur, e, hg, hh, hc, hm, _⟩
  · omega
  · injection e with e1 e2 e3
    subst e1 e3
    exact ⟨g, rfl, hg, (Array.getElem?_eq_some_iff.1 hh).1, h.ne g rfl, hc, hm⟩
theorem Hq.at1 {w : World} {base Q g n c : Nat} {F : Nat → PrQ} (h : Hq w base Q (some ⟨g, 0, none⟩) n c F) {k : Nat} (hk : k < n) : w.cell? ⟨g, k * 2, none⟩ = some (.int .i64 (F k).1) := by
  rw [h.row.cellAt (k * 2) (by omega)]; exact (flatQ_at F hk).1
theorem Hq.at2 {w : World} {base Q g n c : Nat} {F : Nat → PrQ} (h : Hq w base Q (some ⟨g, 0, none⟩) n c F) {k : Nat} (hk : k < n) : w.cell? ⟨g, k * 2 + 1, none⟩ = some (.int .i64 (F k).2) := by
  rw [h.row.cellAt (k * 2 + 1) (by omega)]; exact (flatQ_at F hk).2
theorem Hq.fzr {w : World} {base Q g n c : Nat} {F : Nat → PrQ} (h : Hq w base Q (some ⟨g, 0, none⟩) n c F) (j : Nat) : w.frozen? ⟨g, j, none⟩ = false := h.row.frozenAt j
/-- The blocks of the queue. -/
def MQ (Q : Nat) (a : Option Addr) (j : Nat) : Prop := j = Q ∨ ∃ ad : Addr, a = some ad ∧ ad.block = j
theorem MQ.own {Q n c j : Nat} {a : Option Addr} (h : (Value.slice a n c).ownBlock = some j) : MQ Q a j := by
  cases a with
  | none => simp [Value.ownBlock] at h
  | some ad => right; refine ⟨ad, rfl, ?_⟩; simpa [Value.ownBlock] using h
theorem Hq.fr {w w' : World} {base Q n c : Nat} {a : Option Addr} {F : Nat → PrQ} {M : Nat → Prop} (h : Hq w base Q a n c F) (k : Fr M w w') (hQ : ¬ M Q) (hm : ∀ j, (Value.slice a n c).ownBlock = some j → ¬ M j) : Hq w' base Q a n c F :=
  ⟨(k.cell h.lt hQ).trans h.cell, (k.frozen h.lt hQ).trans h.fz, Nat.lt_of_lt_of_le h.lt k.size, h.bs, k.row h.row hm, h.ne⟩
theorem Hq.later {w w' : World} {base Q n c : Nat} {a : Option Addr} {F : Nat → PrQ} (h : Hq w base Q a n c F) (k : Below w.heap.size w w') : Hq w' base Q a n c F := by
  refine h.fr (M := fun j => w.heap.size ≤ j) (Fr.of_below k) (by have := h.lt; omega) (fun j hj hc => ?_)
  have := (h.row.lt j hj).2
  omega
theorem Hq.drewN {w : World} {base Q n c : Nat} {a : Option Addr} {F : Nat → PrQ} (h : Hq w base Q a n c F) (m : Nat) : Hq (w.drewN m) base Q a n c F := ⟨h.cell, h.fz, h.lt, h.bs, h.row, h.ne⟩
theorem Hq.congr {w : World} {base Q n c : Nat} {a : Option Addr} {F G : Nat → PrQ} (h : Hq w base Q a n c F) (e : ∀ k, k < n → F k = G k) : Hq w base Q a n c G := ⟨h.cell, h.fz, h.lt, h.bs, by rw [← flatQ_congr e]; exact h.row, h.ne⟩
/-- Two cells of the heap written. -/
theorem Hq.put {w : World} {base Q g n c : Nat} {F : Nat → PrQ} (h : Hq w base Q (some ⟨g, 0, none⟩) n c F) {k : Nat} (hk : k < n) (p : PrQ) :
    Hq ((w.setCell ⟨g, k * 2, none⟩ (.int .i64 p.1)).setCell ⟨g, k * 2 + 1, none⟩ (.int .i64 p.2)) base Q (some ⟨g, 0, none⟩) n c (updQ F k p) := by
  have hne := h.ne g rfl
  refine ⟨?_, ?_, ?_, h.bs, ?_, h.ne⟩
  · rw [World.cell?_setCell_other _ _ _ _ (by first | (simp; done) | (simp; omega)), World.cell?_setCell_other _ _ _ _ (by first | (simp; done) | (simp; omega))]
    exact h.cell
  · rw [World.frozen?_setCell, World.frozen?_setCell]; exact h.fz
  · simpa using h.lt
  · have h1 := (h.row.stored (k * 2) (.int .i64 p.1)).1
    have h2 := (h1.stored (k * 2 + 1) (.int .i64 p.2)).1
    rwa [flatQ_set F hk p] at h2
theorem info_qe : (Tryd.prog.info? 160).map (fun i => (i.zero, i.size, i.bytes)) = some (some (.agg #[.int .i64 0, .int .i64 0]), 2, 16) := by kernel_rfl
theorem qnew (w : World) (base : Nat) (hb : base ≤ w.heap.size) : Calls Tryd.prog 90 #[] w fun e w' => ∃ Q, e = .returned (.pointer (some ⟨Q, 0, none⟩)) ∧ Q = w.heap.size ∧ Hq w' base Q none 0 0 (fun _ => (0, 0)) ∧ Below w.heap.size w w' := by
  go_enter Tryd.func90, Tryd.ntmps90
  go_wp2
  go_ret
  refine ⟨w.heap.size, rfl, rfl, ⟨?_, ?_, by simp, hb, ⟨rfl, Or.inl ⟨rfl, rfl⟩⟩, fun g hg => by simp [Value.ownBlock] at hg⟩, (Below.refl _ _).alloc (Nat.le_refl _) _⟩
  · go_simp
  · go_simp
theorem qlen (w : World) (base Q n c : Nat) (a : Option Addr) (F : Nat → PrQ) (h : Hq w base Q a n c F) : Calls Tryd.prog 93 #[.pointer (some ⟨Q, 0, none⟩)] w fun e w' => e = .returned (.int .i64 n) ∧ w = w' := by
  have q0 := h.cell
  clear h
  go_enter Tryd.func93, Tryd.ntmps93
  go_wp2
  go_ret
  exact ⟨rfl, rfl⟩

/-- What Push leaves. -/
structure PushQ (w w' : World) (base Q : Nat) (a : Option Addr) (n : Nat) (F : Nat → PrQ) (p : PrQ) (g c : Nat) (G : Nat → PrQ) : Prop where
  q : Hq w' base Q (some ⟨g, 0, none⟩) (n + 1) c G
  hp : HpQ G (n + 1)
  cn : ∀ x, cntQ G x (n + 1) = cntQ F x n + (if p = x then 1 else 0)
  fr : Fr (MQ Q a) w w'
  nw : a = some ⟨g, 0, none⟩ ∨ w.heap.size ≤ g
theorem Hq.mq {w : World} {Q g : Nat} {a : Option Addr} (h : a = some ⟨g, 0, none⟩ ∨ w.heap.size ≤ g) (hg : g < w.heap.size) : MQ Q a g := by
  rcases h with h | h
  · exact Or.inr ⟨_, h, rfl⟩
  · omega
set_option maxRecDepth 1000000 in
set_option maxHeartbeats 3200000 in
theorem qpush_any (base Q n c : Nat) (a : Option Addr) (F : Nat → PrQ) (p : PrQ) (w : World) (h : Hq w base Q a n c F) (hp : HpQ F n) (hn : n ≤ 200000000000) :
    Calls Tryd.prog 91 #[.pointer (some ⟨Q, 0, none⟩), .int .i64 p.1, .int .i64 p.2] w fun e w' => e = .returned (.tuple #[]) ∧ ∃ g c' G, PushQ w w' base Q a n F p g c' G := by
  obtain ⟨i0, hi, hz0, hz1, hz2⟩ := info_parts info_qe
  obtain ⟨p1, p2⟩ := p
  simp only
  have q0 := h.cell
  have qf := h.fz
  have ql := h.lt
  have hbq := h.bs
  have hbw : base ≤ w.heap.size := by omega
  have HH := Hk.mk h
  have HP0 := Hk.mk hp
  have hrow := Hk.mk (show (w.alloc (.cells #[.int .i64 p1, .int .i64 p2] 160)).ownsRow base 160 2 (.slice a n c) n (flatQ F n) from (h.later ((Below.refl _ _).alloc (Nat.le_refl _) _)).row)
  have hc1 : Hk (∀ (j : Nat) (u : Value), ([.int .i64 p1, .int .i64 p2] : List Value)[j]? = some u → (w.alloc (.cells #[.int .i64 p1, .int .i64 p2] 160)).cell? (Addr.add ⟨w.heap.size, 0, none⟩ j) = some u) := ⟨fun j u hj => by
    rw [Addr.add_lit, Nat.zero_add, (Bk.new w #[.int .i64 p1, .int .i64 p2] 160).c j]
    simpa using hj⟩
  have hc2 : Hk (∀ u ∈ ([.int .i64 p1, .int .i64 p2] : List Value), u.oneCell' = true) := ⟨fun u hu => by
    simp at hu
    rcases hu with rfl | rfl <;> rfl⟩
  clear h hp
  go_enter Tryd.func91, Tryd.ntmps91
  go_wp2_with (at_builtin; go_must (refine wpList_append_own_at _ rfl _ _ 156 rfl base 160 i0 (.agg #[.int .i64 0, .int .i64 0]) 2 16 Tryd.underlying156 hi hz0 hz1 hz2 rfl (by decide) _ n (flatQ F n) rfl hrow.out ⟨w.heap.size, 0, none⟩ 1 1 [.int .i64 p1, .int .i64 p2] rfl rfl hc1.out hc2.out (by unfold maxLen; omega) (by omega) (by simp; omega) ?_))
  intro v z hown hgrow hnil hat
  rcases hown.2 with ⟨_, h0⟩ | ⟨g, cap, cur, rfl, hg1, hg2, hg3, hg4, hg5⟩
  · omega
  have hgz : g < z.heap.size := (Array.getElem?_eq_some_iff.1 hg2).1
  have hnw : a = some ⟨g, 0, none⟩ ∨ w.heap.size ≤ g := by
    rcases hat with e | e
    · left
      rcases HH.out.row.2 with ⟨e2, _⟩ | ⟨g', cap', cur', e2, _⟩
      · rw [e2] at e; simp [Value.ownBlock] at e
      · injection e2 with e3 e4 e5
        subst e3
        simp [Value.ownBlock] at e
        rw [e]
    · right
      simp [Value.ownBlock] at e
      omega
  have hgQ : g ≠ Q := by
    rcases hnw with e | e
    · exact HH.out.ne g (by rw [e]; rfl)
    · omega
  have hF : Fr (MQ Q a) w z := ((Fr.refl (MQ Q a) w).alloc _).grown hgrow (fun j _ e => MQ.own e)
  have hF0 : Fr (fun j => (Value.slice a n c).ownBlock = some j) w z := ((Fr.refl _ w).alloc _).grown hgrow (fun j _ e => e)
  have hnQ : ¬ (Value.slice a n c).ownBlock = some Q := fun e => HH.out.ne Q e rfl
  have z0 : z.cell? ⟨Q, 0, none⟩ = some (.slice a n c) := (hF0.cell ql hnQ).trans q0
  have zf : z.frozen? ⟨Q, 0, none⟩ = false := (hF0.frozen ql hnQ).trans qf
  have zl : Q < z.heap.size := Nat.lt_of_lt_of_le ql hF.size
  have HQ1 : Hk (Hq (z.setCell ⟨Q, 0, none⟩ (.slice (some ⟨g, 0, none⟩) (n + 1) cap)) base Q (some ⟨g, 0, none⟩) (n + 1) cap (updQ F n (p1, p2))) := ⟨by
    refine ⟨by go_simp, by rw [World.frozen?_setCell]; exact zf, by simpa using zl, hbq, ?_, fun j hj => by simp [Value.ownBlock] at hj; omega⟩
    have := ownsRow_setCell_other hown (a := ⟨Q, 0, none⟩) (by simpa [Value.ownBlock] using hgQ) (.slice (some ⟨g, 0, none⟩) (n + 1) cap)
    have e : flatQ (updQ F n (p1, p2)) (n + 1) = flatQ F n ++ [.int .i64 p1, .int .i64 p2] := by
      show flatQ (updQ F n (p1, p2)) n ++ _ = _
      rw [flatQ_congr (G := F) fun k hk => updQ_far (by omega), updQ_at]
    rw [e]
    exact this⟩
  have HF1 : Hk (Fr (MQ Q a) w (z.setCell ⟨Q, 0, none⟩ (.slice (some ⟨g, 0, none⟩) (n + 1) cap))) := ⟨hF.setCell (p := ⟨Q, 0, none⟩) (fun _ => Or.inl rfl) _⟩
  have HCN : Hk (∀ x, cntQ (updQ F n (p1, p2)) x (n + 1) = cntQ F x n + (if (p1, p2) = x then 1 else 0)) := ⟨fun x => by
    show cntQ (updQ F n (p1, p2)) x n + _ = _
    rw [cntQ_congr (G := F) fun k hk => updQ_far (by omega), updQ_at]⟩
  have HUP := Hk.mk (UpQ.start HP0.out (p1, p2))
  have HNW := Hk.mk hnw
  clear hown hgrow hnil hat hg2 hg5 hF hF0 hnQ hrow hc1 hc2 hnw hg4
  go_wp2_with fail
  generalize z.setCell ⟨Q, 0, none⟩ (.slice (some ⟨g, 0, none⟩) (n + 1) cap) = W1 at *
  clear z0 zf zl hgz q0 qf
  go_loopw [6] (fun i wr => ∃ (i' : Nat) (G : Nat → PrQ), i = .int .i64 i' ∧ i' ≤ n ∧ Hk (Hq wr base Q (some ⟨g, 0, none⟩) (n + 1) cap G) ∧ Hk (UpQ G (n + 1) i') ∧ Hk (∀ x, cntQ G x (n + 1) = cntQ F x n + (if (p1, p2) = x then 1 else 0)) ∧ Hk (Fr (MQ Q a) w wr)) (fun i _ => (intOf i).toNat)
  case atStart => exact ⟨n, _, by go_num, Nat.le_refl _, HQ1, HUP, HCN, HF1⟩
  case round =>
    clear HQ1 HUP HCN HF1
    obtain ⟨i, G, rfl, hin, HQ, HU, HC, HF⟩ := hrel
    rcases Nat.eq_zero_or_pos i with h0 | h0
    · subst h0
      go_wp2_with fail
      go_end0
      exact ⟨rfl, g, cap, G, HQ.out, HU.out.top, HC.out, HF.out, HNW.out⟩
    obtain ⟨u, hu⟩ : ∃ u, u = (i - 1) / 2 := ⟨_, rfl⟩
    have hui : u < i := by omega
    have i0 : (0 : Int) < (i : Int) := by omega
    have iq : Int.tdiv ((i : Int) - 1) 2 = (u : Int) := by rw [Int.tdiv_eq_ediv_of_nonneg (by omega)]; omega
    have i1 : (0 : Int) ≤ (i : Int) := by omega
    have i2 : (i : Int) < (n : Int) + 1 := by omega
    have u1 : (0 : Int) ≤ (u : Int) := by omega
    have u2 : (u : Int) < (n : Int) + 1 := by omega
    have qQ := HQ.out.cell
    have ql := HQ.out.lt
    have hgs := (HQ.out.row.lt g rfl).2
    obtain ⟨x, hx⟩ : ∃ x, G i = x := ⟨_, rfl⟩
    obtain ⟨y, hy⟩ : ∃ y, G u = y := ⟨_, rfl⟩
    have c1 := HQ.out.at1 (k := i) (by omega)
    have c2 := HQ.out.at2 (k := i) (by omega)
    have c3 := HQ.out.at1 (k := u) (by omega)
    have c4 := HQ.out.at2 (k := u) (by omega)
    rw [hx] at c1 c2
    rw [hy] at c3 c4
    obtain ⟨r, hr⟩ : ∃ r, ltQ x y = r := ⟨_, rfl⟩
    have HR := Hk.mk hr
    have HX := Hk.mk hx
    have HY := Hk.mk hy
    have HUI := Hk.mk hu
    clear hr hx hy hu
    go_wp2_with fail
    have L0V : wr.heap.size ≤ wr.heap.size := Nat.le_refl _
    apply reg_merge
    intro HG1
    refine wp_region_held_drew (S := fun Z => (∀ b o, b < wr.heap.size → Z.cell? ⟨b, o, none⟩ = wr.cell? ⟨b, o, none⟩)) (by kernel_rfl) (fun _ _ _ => rfl) (fun hHeld => ?_)
    have HB : Hk (Below wr.heap.size wr wr.drew) := ⟨(Below.refl _ _).drew⟩
    obtain ⟨WZ, hWe⟩ : ∃ WZ, wr.drew = WZ := ⟨_, rfl⟩
    rw [hWe] at HB hHeld ⊢
    clear hWe
    refine wpAnyH_take (i := 0) (v := ?_) rfl (by kernel_rfl) (by kernel_rfl) (by kernel_rfl) (fun _ _ _ h => h) (Or.inl ⟨by rfl, fun wX hSw => ?_⟩) (by assumption) ?_
    rotate_left
    · (try dsimp only at hSw); go_simp; try with_reducible rfl
    (try simp only [Act.put, List.getElem_toArray, List.getElem_cons_succ, List.getElem_cons_zero, List.setIfInBounds_toArray, List.set_cons_zero, List.set_cons_succ])
    refine wpAnyH_take (i := 1) (v := ?_) rfl (by kernel_rfl) (by kernel_rfl) (by kernel_rfl) (fun _ _ _ h => h) (Or.inl ⟨by rfl, fun wX hSw => ?_⟩) (by assumption) ?_
    rotate_left
    · (try dsimp only at hSw); go_simp; try with_reducible rfl
    (try simp only [Act.put, List.getElem_toArray, List.getElem_cons_succ, List.getElem_cons_zero, List.setIfInBounds_toArray, List.set_cons_zero, List.set_cons_succ])
    refine wpAnyH_take (i := 2) (v := ?_) rfl (by kernel_rfl) (by kernel_rfl) (by kernel_rfl) (fun _ _ _ h => h) (Or.inl ⟨by rfl, fun wX hSw => ?_⟩) (by assumption) ?_
    rotate_left
    · (try dsimp only at hSw); go_simp; try with_reducible rfl
    (try simp only [Act.put, List.getElem_toArray, List.getElem_cons_succ, List.getElem_cons_zero, List.setIfInBounds_toArray, List.set_cons_zero, List.set_cons_succ])
    refine wpAnyH_take (i := 3) (v := ?_) rfl (by kernel_rfl) (by kernel_rfl) (by kernel_rfl) (fun _ _ _ h => h) (Or.inl ⟨by rfl, fun wX hSw => ?_⟩) (by assumption) ?_
    rotate_left
    · (try dsimp only at hSw); go_simp; try with_reducible rfl
    (try simp only [Act.put, List.getElem_toArray, List.getElem_cons_succ, List.getElem_cons_zero, List.setIfInBounds_toArray, List.set_cons_zero, List.set_cons_succ])
    refine wpAnyH_take (i := 4) (v := ?_) rfl (by kernel_rfl) (by kernel_rfl) (by kernel_rfl) (fun _ _ _ h => h) (Or.inl ⟨by rfl, fun wX hSw => ?_⟩) (by assumption) ?_
    rotate_left
    · (try dsimp only at hSw); go_simp; try with_reducible rfl
    (try simp only [Act.put, List.getElem_toArray, List.getElem_cons_succ, List.getElem_cons_zero, List.setIfInBounds_toArray, List.set_cons_zero, List.set_cons_succ])
    refine wpAnyH_take (i := 5) (v := ?_) rfl (by kernel_rfl) (by kernel_rfl) (by kernel_rfl) (fun _ _ _ h => h) (Or.inl ⟨by rfl, fun wX hSw => ?_⟩) (by assumption) ?_
    rotate_left
    · (try dsimp only at hSw); go_simp; try with_reducible rfl
    (try simp only [Act.put, List.getElem_toArray, List.getElem_cons_succ, List.getElem_cons_zero, List.setIfInBounds_toArray, List.set_cons_zero, List.set_cons_succ])
    refine wpAnyH_take (i := 6) (v := ?_) rfl (by kernel_rfl) (by kernel_rfl) (by kernel_rfl) (fun _ _ _ h => h) (Or.inl ⟨by rfl, fun wX hSw => ?_⟩) (by assumption) ?_
    rotate_left
    · (try dsimp only at hSw); go_simp; try with_reducible rfl
    (try simp only [Act.put, List.getElem_toArray, List.getElem_cons_succ, List.getElem_cons_zero, List.setIfInBounds_toArray, List.set_cons_zero, List.set_cons_succ])
    refine wpAnyH_take (i := 7) (v := ?_) rfl (by kernel_rfl) (by kernel_rfl) (by kernel_rfl) (fun _ _ _ h => h) (Or.inl ⟨by rfl, fun wX hSw => ?_⟩) (by assumption) ?_
    rotate_left
    · (try dsimp only at hSw); go_simp; try with_reducible rfl
    (try simp only [Act.put, List.getElem_toArray, List.getElem_cons_succ, List.getElem_cons_zero, List.setIfInBounds_toArray, List.set_cons_zero, List.set_cons_succ])
    refine wpAnyH_take (i := 8) (v := ?_) rfl (by kernel_rfl) (by kernel_rfl) (by kernel_rfl) (fun _ _ _ h => h) (Or.inl ⟨by rfl, fun wX hSw => ?_⟩) (by assumption) ?_
    rotate_left
    · (try dsimp only at hSw); go_simp; try with_reducible rfl
    (try simp only [Act.put, List.getElem_toArray, List.getElem_cons_succ, List.getElem_cons_zero, List.setIfInBounds_toArray, List.set_cons_zero, List.set_cons_succ])
    refine wpAnyH_take (i := 9) (v := ?_) rfl (by kernel_rfl) (by kernel_rfl) (by kernel_rfl) (fun _ _ _ h => h) (Or.inl ⟨by rfl, fun wX hSw => ?_⟩) (by assumption) ?_
    rotate_left
    · (try dsimp only at hSw); go_simp; try with_reducible rfl
    (try simp only [Act.put, List.getElem_toArray, List.getElem_cons_succ, List.getElem_cons_zero, List.setIfInBounds_toArray, List.set_cons_zero, List.set_cons_succ])
    refine wpAnyH_take (i := 10) (v := ?_) rfl (by kernel_rfl) (by kernel_rfl) (by kernel_rfl) (fun _ _ _ h => h) (Or.inl ⟨by rfl, fun wX hSw => ?_⟩) (by assumption) ?_
    rotate_left
    · (try dsimp only at hSw); go_simp; try with_reducible rfl
    (try simp only [Act.put, List.getElem_toArray, List.getElem_cons_succ, List.getElem_cons_zero, List.setIfInBounds_toArray, List.set_cons_zero, List.set_cons_succ])
    refine wpAnyH_take (i := 11) (v := ?_) rfl (by kernel_rfl) (by kernel_rfl) (by kernel_rfl) (fun _ _ _ h => h) (Or.inl ⟨by rfl, fun wX hSw => ?_⟩) (by assumption) ?_
    rotate_left
    · (try dsimp only at hSw); go_simp; try with_reducible rfl
    (try simp only [Act.put, List.getElem_toArray, List.getElem_cons_succ, List.getElem_cons_zero, List.setIfInBounds_toArray, List.set_cons_zero, List.set_cons_succ])
    refine wpAnyH_take (i := 12) (v := ?_) rfl (by kernel_rfl) (by kernel_rfl) (by kernel_rfl) (fun _ _ _ h => h) (Or.inl ⟨by rfl, fun wX hSw => ?_⟩) (by assumption) ?_
    rotate_left
    · (try dsimp only at hSw); go_simp; try with_reducible rfl
    (try simp only [Act.put, List.getElem_toArray, List.getElem_cons_succ, List.getElem_cons_zero, List.setIfInBounds_toArray, List.set_cons_zero, List.set_cons_succ])
    refine wpAnyH_take (i := 13) (v := ?_) rfl (by kernel_rfl) (by kernel_rfl) (by kernel_rfl) (fun _ _ _ h => h) (Or.inl ⟨by rfl, fun wX hSw => ?_⟩) (by assumption) ?_
    rotate_left
    · (try dsimp only at hSw); go_simp; try with_reducible rfl
    (try simp only [Act.put, List.getElem_toArray, List.getElem_cons_succ, List.getElem_cons_zero, List.setIfInBounds_toArray, List.set_cons_zero, List.set_cons_succ])
    refine wpAnyH_ready (rs := [14]) (by kernel_rfl) (by simp) ?_
    refine AllReadyH.cons rfl (fun K hK => ?_) (AllReadyH.nil)
    · skip
      go_simp
      ((go_at_call 113; (with_reducible refine (before_as r x y _ HR).mono ?_); rintro e z ⟨rfl, hb⟩))
      replace HB := Hk.mk (kw_step HB.out L0V hb)
      clear hb
      refine hK.out _ _ ?_ (fun hHeld2 => ?_)
      · exact kw_s HB.out
      clear hK K hHeld
      have hHeld := hHeld2
      clear hHeld2
      (try simp only [Act.put, List.getElem_toArray, List.getElem_cons_succ, List.getElem_cons_zero, List.setIfInBounds_toArray, List.set_cons_zero, List.set_cons_succ])
      refine wpAnyH_take (i := 15) (v := ?_) rfl (by kernel_rfl) (by kernel_rfl) (by kernel_rfl) (fun _ _ _ h => h) (Or.inl ⟨by rfl, fun wX hSw => ?_⟩) (by assumption) ?_
      rotate_left
      · (try dsimp only at hSw); go_simp; try with_reducible rfl
      (try simp only [Act.put, List.getElem_toArray, List.getElem_cons_succ, List.getElem_cons_zero, List.setIfInBounds_toArray, List.set_cons_zero, List.set_cons_succ])
      refine reg_cast (l' := #[true, true, true, true, true, true, true, true, true, true, true, true, true, true, true, true]) (by kernel_rfl) ?_
      revert hHeld
      revert HB
      revert z
      exact HG1.out
    intro WZ HB hHeld
    refine wpAnyH_done (by kernel_rfl) ?_ _
    have HQ2 := Hk.mk (HQ.out.later HB.out)
    have HF2 := Hk.mk (HF.out.trans (Fr.of_all HB.out))
    clear hHeld qQ ql hgs c1 c2 c3 c4 HQ HF HB L0V
    cases r
    case false =>
      have HS := Hk.mk (HU.out.stop (by rw [HX.out, ← HUI.out, HY.out]; exact HR.out))
      clear HU
      go_wp2_with fail
      refine bodyPost_ret (results_none rfl _ _ _) rfl ?_
      exact ⟨rfl, g, cap, G, HQ2.out, HS.out, HC.out, HF2.out, HNW.out⟩
    have HS := Hk.mk (HU.out.go h0 (by omega) HUI.out (by rw [HX.out, HY.out]; exact HR.out))
    have qQ := HQ2.out.cell
    have c1 := HQ2.out.at1 (k := i) (by omega)
    have c2 := HQ2.out.at2 (k := i) (by omega)
    have c3 := HQ2.out.at1 (k := u) (by omega)
    have c4 := HQ2.out.at2 (k := u) (by omega)
    have f1 := HQ2.out.fzr (i * 2)
    have f2 := HQ2.out.fzr (i * 2 + 1)
    have f3 := HQ2.out.fzr (u * 2)
    have f4 := HQ2.out.fzr (u * 2 + 1)
    rw [HX.out] at c1 c2
    rw [HY.out] at c3 c4
    clear HU
    go_wp2_with fail
    have HQ3 : Hk (Hq ((((WZ.setCell ⟨g, i * 2, none⟩ (.int .i64 y.1)).setCell ⟨g, i * 2 + 1, none⟩ (.int .i64 y.2)).setCell ⟨g, u * 2, none⟩ (.int .i64 x.1)).setCell ⟨g, u * 2 + 1, none⟩ (.int .i64 x.2)) base Q (some ⟨g, 0, none⟩) (n + 1) cap (swpQ G i u)) := ⟨by
      have := (HQ2.out.put (k := i) (by omega) y).put (k := u) (by omega) x
      unfold swpQ
      rw [HX.out, HY.out]
      exact this⟩
    have HF3 : Hk (Fr (MQ Q a) w ((((WZ.setCell ⟨g, i * 2, none⟩ (.int .i64 y.1)).setCell ⟨g, i * 2 + 1, none⟩ (.int .i64 y.2)).setCell ⟨g, u * 2, none⟩ (.int .i64 x.1)).setCell ⟨g, u * 2 + 1, none⟩ (.int .i64 x.2))) :=
      ⟨(((HF2.out.setCell (p := ⟨g, i * 2, none⟩) (fun h => Hq.mq HNW.out h) _).setCell (p := ⟨g, i * 2 + 1, none⟩) (fun h => Hq.mq HNW.out h) _).setCell (p := ⟨g, u * 2, none⟩) (fun h => Hq.mq HNW.out h) _).setCell (p := ⟨g, u * 2 + 1, none⟩) (fun h => Hq.mq HNW.out h) _⟩
    have HC3 : Hk (∀ x, cntQ (swpQ G i u) x (n + 1) = cntQ F x n + (if (p1, p2) = x then 1 else 0)) := ⟨fun x => by rw [cntQ_swp G x (by omega) (by omega)]; exact HC.out x⟩
    clear HC HQ2 HF2
    go_region
    clear qQ c1 c2 c3 c4 f1 f2 f3 f4
    go_wp2_with fail
    go_roundw
    case rel =>
      first
        | exact ⟨u, swpQ G i u, by go_num, by omega, HQ3, HS, HC3, HF3⟩
        | exact ⟨u, swpQ G i u, by go_num, by omega, ⟨HQ3.out.drewN _⟩, HS, HC3, ⟨HF3.out.drewN _⟩⟩
    case measure => simp [intOf]; omega
end Go.Proofs.YthabjihpjdlmoaaDoor
