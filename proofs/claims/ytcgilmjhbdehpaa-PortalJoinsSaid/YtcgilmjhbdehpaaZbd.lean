import Derived.ProofKit
import Derived.OpenShut
import Derived.ShutString
import Derived.ChangeOld
import Derived.Below
import Derived.Deep.Slices
import Derived.Deep.Fields
import Derived.ChangeSame
import Derived.Test.YtcgilmjhbdehpaaZba
import Derived.Test.YtcgilmjhbdehpaaRows
import Derived.Test.YtcgilmjhbdehpaaChecked
import Derived.Test.YtcgilmjhbdehpaaZbc
import Derived.Maps.AppendAt
import Derived.ArgAppend
import Derived.Deep.QuietTactic
import Derived.BigQuiet
import Derived.Deep.RegionWith
import Derived.Deep.RegionHeld3
import Derived.Deep.DeepCutAuto
import Derived.Deep.DeepFit
import Derived.Outline
import Derived.Test.YtcgilmjhbdehpaaZbb
/- Arguments that hold slices of bytes: what is known of them. -/
namespace Go.Proofs.Ytcgilmjhbdehpaa
open Go.ChangeShapes Go.WideShapes Go.ChangeAt Go.RowKit Go.Deep
set_option linter.unusedVariables false
theorem add_plus {b off : Nat} (j : Nat) : (⟨b, off, none⟩ : Addr).add j = ⟨b, off + j, none⟩ := by
  unfold Addr.add; split <;> simp_all
end Go.Proofs.Ytcgilmjhbdehpaa
/- Slices of numbers: what is known of them. -/
namespace Go.Proofs.Ytcgilmjhbdehpaa
open Go.ChangeShapes Go.WideShapes Go.ChangeAt Go.RowKit Go.Deep
set_option linter.unusedVariables false
/-- The slice reads as these numbers. -/
structure Nq (w : World) (B : Nat) (a : Option Addr) (n : Nat) (xs : List Int) : Prop where
  len : xs.length = n
  rd : 0 < n → ∃ b off, a = some ⟨b, off, none⟩ ∧ b < B ∧ ∀ k, k < n → w.cell? ⟨b, off + k, none⟩ = some (.int .i64 (xs.getD k 0))
theorem Nq.below {w w' : World} {B B' n : Nat} {a : Option Addr} {xs : List Int} (h : Nq w B a n xs) (hb : Below B' w w') (hB : B ≤ B') : Nq w' B a n xs := ⟨h.len, fun hn => by
  obtain ⟨b, off, e, hlt, hc⟩ := h.rd hn
  exact ⟨b, off, e, hlt, fun k hk => (hb.cell (p := ⟨b, off + k, none⟩) (Nat.lt_of_lt_of_le hlt hB)).trans (hc k hk)⟩⟩
theorem Nq.mono {w : World} {B B' n : Nat} {a : Option Addr} {xs : List Int} (h : Nq w B a n xs) (hB : B ≤ B') : Nq w B' a n xs := ⟨h.len, fun hn => by
  obtain ⟨b, off, e, hlt, hc⟩ := h.rd hn
  exact ⟨b, off, e, by omega, hc⟩⟩
theorem Nq.drewN {w : World} {B n : Nat} {a : Option Addr} {xs : List Int} (h : Nq w B a n xs) (m : Nat) : Nq (w.drewN m) B a n xs := ⟨h.len, h.rd⟩
theorem Nq.nil (w : World) (B : Nat) (a : Option Addr) : Nq w B a 0 [] := ⟨rfl, fun h => absurd h (by omega)⟩
theorem aq_plus {b off : Nat} (j : Nat) : (⟨b, off, none⟩ : Addr).add j = ⟨b, off + j, none⟩ := by
  unfold Addr.add; split <;> simp_all
theorem nq_of {H : Type} {enc : TypeId × Value → H} {w : World} {base : Nat} {spare : Nat → Bool} {held : Bool} {fuel : Nat} {x : DataW H × List MemPlace} {v : Value}
    (hf : DataW.trod enc Try.prog w base spare held fuel 23 [v] = some x) : ∃ a0 len0 cap0 xs, v = .slice a0 len0 cap0 ∧ len0 ≤ 9223372036854775807 ∧ Nq w w.heap.size a0 len0 xs := by
  rcases open_ints Try.underlying23 Try.underlying3 (by kernel_rfl) hf with ⟨hcs, _⟩ | ⟨a, l, c, zs, hcs, _, hl, hm, hz, _, hc, hwf⟩
  · simp at hcs; subst hcs
    exact ⟨none, 0, 0, [], rfl, by omega, rfl, fun h => absurd h (by omega)⟩
  · simp at hcs; subst hcs
    have hzl : l ≤ zs.length := by rw [hz]; split <;> omega
    refine ⟨_, _, _, zs.take l, rfl, by unfold maxLen at hm; omega, by simp; omega, fun hn => ?_⟩
    obtain ⟨b, off, spot⟩ := a
    have hs : spot = none := by
      have h0 := World.cell?_spot (hc 0 (by omega))
      simpa [Addr.add] using h0
    subst hs
    refine ⟨b, off, rfl, ?_, fun k hk => ?_⟩
    · have := hc 0 (by omega); rw [aq_plus] at this; exact World.block_lt_of_cell? _ _ this
    · have := hc k (by omega)
      rw [aq_plus] at this
      rw [this]
      simp [List.getD, hk]
end Go.Proofs.Ytcgilmjhbdehpaa
/- Layer 6: the list of neighbours; lists compared. -/
namespace Go.Proofs.Ytcgilmjhbdehpaa
open Go.RowKit
set_option linter.unusedVariables false
/-- What the neighbours' list is: new memory. -/
def NearR (w : World) (xs : List Int) (e : Ending) (w' : World) : Prop := ∃ g, e = .returned (.tuple #[.slice (some ⟨g, 0, none⟩) 8 8, .int .i64 0]) ∧ w.heap.size ≤ g ∧ g < w'.heap.size ∧ xs.length = 8 ∧ (∀ j, j < 8 → w'.cell? ⟨g, j, none⟩ = some (.int .i64 (xs.getD j 0))) ∧ (∀ j, w'.frozen? ⟨g, j, none⟩ = false) ∧ Below w.heap.size w w'
theorem nb_lit (w2 : World) (W H t : Int) (T : TypeId) : ∀ j, j < 8 → (w2.alloc (.cells #[.int .i64 (nb W H t 0), .int .i64 (nb W H t 1), .int .i64 (nb W H t 2), .int .i64 (nb W H t 3), .int .i64 (nb W H t 4), .int .i64 (nb W H t 5), .int .i64 (nb W H t 6), .int .i64 (nb W H t 7)] T)).cell? ⟨w2.heap.size, j, none⟩ = some (.int .i64 ((nbL W H t).getD j 0)) := fun j hj => by
  match j, hj with
  | 0, _ | 1, _ | 2, _ | 3, _ | 4, _ | 5, _ | 6, _ | 7, _ => (rw [World.cell?_alloc_mark]; rfl)
theorem eqn_yes (a a' : Option Addr) (n c c' B B' : Nat) (xs : List Int) (w : World) (h : Nq w B a n xs) (h' : Nq w B' a' n xs) (hn : n ≤ 1099511627776) :
    Calls Try.prog 40 #[.slice a n c, .slice a' n c'] w fun e w' => e = .returned (.bool true) ∧ ∃ m, w' = w.drewN m := by
  have H := Hk.mk h
  have H' := Hk.mk h'
  clear h h'
  go_enter Try.func40, Try.ntmps40
  go_wp2
  go_loopw [5] (fun i wr => ∃ k : Nat, k ≤ n ∧ i = .int .i64 k ∧ Hk (∃ m, wr = w.drewN m)) (fun i _ => n - (intOf i).toNat)
  case atStart => exact ⟨0, Nat.zero_le _, rfl, ⟨0, rfl⟩⟩
  case round =>
    obtain ⟨k, hk, rfl, HB⟩ := hrel
    by_cases hlt : k < n
    · obtain ⟨b, off, rfl, hbl, hc⟩ := H.out.rd (by omega)
      obtain ⟨b', off', rfl, hbl', hc'⟩ := H'.out.rd (by omega)
      have hcx : wr.cell? ⟨b, off + k, none⟩ = some (.int .i64 (xs.getD k 0)) := by obtain ⟨m, rfl⟩ := HB.out; exact hc k hlt
      have hcy : wr.cell? ⟨b', off' + k, none⟩ = some (.int .i64 (xs.getD k 0)) := by obtain ⟨m, rfl⟩ := HB.out; exact hc' k hlt
      clear hc hc'
      generalize xs.getD k 0 = x at *
      have i1 : (0 : Int) ≤ (k : Int) := by omega
      have i2 : (k : Int) < (n : Int) := by omega
      go_wp2
      go_quiet (fail)
      go_wp2
      go_roundw
      case rel => exact ⟨k + 1, by omega, by go_num, ⟨by obtain ⟨m, rfl⟩ := HB.out; exact ⟨_, by rw [World.drewN_drewN]⟩⟩⟩
      case measure => simp [intOf]; omega
    · have hkn : k = n := by omega
      subst hkn
      go_wp2
      go_ret
      exact ⟨rfl, HB.out⟩
end Go.Proofs.Ytcgilmjhbdehpaa
/- Layer 6: the list of neighbours, of the reference. -/
namespace Go.Proofs.Ytcgilmjhbdehpaa
open Go.RowKit
set_option linter.unusedVariables false
theorem ow_weak {w : World} {base base' n : Nat} {v : Value} {xs : List Value} {E : TypeId} {sz : Nat} (h : w.ownsRow base E sz v n xs) (hb : base' ≤ base) : w.ownsRow base' E sz v n xs := by
  refine ⟨h.1, ?_⟩
  rcases h.2 with e | ⟨g, cap, cur, e1, hg, e2⟩
  · exact .inl e
  · exact .inr ⟨g, cap, cur, e1, by omega, e2⟩
theorem info_int : (Try.prog.info? 3).map (fun i => (i.zero, i.size, i.bytes)) = some (some (.int .i64 0), 1, 8) := by kernel_rfl
theorem rn_step {W H t v : Int} {k : Nat} {w1 : World} {B : Nat} {v' : Value} (e : nb W H t k = v) (hk : k < 8) (h : w1.ownsRow B 3 1 v' (k + 1) (((nbL W H t).map (Value.int .i64)).take k ++ [.int .i64 v])) : w1.ownsRow B 3 1 v' (k + 1) (((nbL W H t).take (k + 1)).map (Value.int .i64)) := by
  have e1 : (nbL W H t).take (k + 1) = (nbL W H t).take k ++ [v] := by
    rw [List.take_succ_eq_append_getElem (by unfold nbL; simpa using hk)]
    congr 1
    unfold nbL
    simp [← e]
  rw [e1, List.map_append, List.map_take]
  exact h
end Go.Proofs.Ytcgilmjhbdehpaa
/- Layer 6: what the statements call. -/
namespace Go.Proofs.Ytcgilmjhbdehpaa
open Go.RowKit
set_option linter.unusedVariables false
theorem gr_new (w : World) (W H : Int) (n m : Nat) (hm : (m : Int) = W * H) (t : TypeId) (hW : 1 ≤ W ∧ W ≤ 128) (hH : 1 ≤ H ∧ H ≤ 128) : GOk W H m (List.replicate m 0) := ⟨hW.1, hW.2, hH.1, hH.2, hm, fun x hx => by rw [List.eq_of_mem_replicate hx]; omega⟩
theorem nq_lit (w : World) (xs : List Int) (t : TypeId) (n : Nat) (hl : xs.length = n) : Nq (w.alloc (.cells (xs.map (Value.int .i64)).toArray t)) (w.heap.size + 1) (some ⟨w.heap.size, 0, none⟩) n xs := by
  refine ⟨hl, fun _ => ⟨_, _, rfl, by omega, fun k hk => ?_⟩⟩
  rw [Nat.zero_add, World.cell?_alloc_mark]
  simp [List.getD, List.getElem?_eq_getElem (show k < xs.length by omega)]
theorem byt_zeros : ∀ b ∈ ([0, 0, 0, 0, 0, 0] : List Int), Fn.Byt b := by
  intro b hb
  simp at hb
  subst hb
  unfold Fn.Byt; omega
theorem nb_320 : nbL 3 2 0 = [-1, 1, 3, -1, -1, 4, -1, -1] := by decide
/-- Eight numbers of a block of our own. -/
structure A8 (base g : Nat) (w0 w : World) (F : Nat → Int) : Prop where
  c : ∀ j, j < 8 → w.cell? ⟨g, j, none⟩ = some (.int .i64 (F j))
  f : ∀ j, w.frozen? ⟨g, j, none⟩ = false
  hs : g < w.heap.size
  hb : base ≤ g
  hB : Below base w0 w
theorem A8.set {base g : Nat} {w0 w : World} {F : Nat → Int} (h : A8 base g w0 w F) (k : Nat) (v : Int) (hk : k < 8) : A8 base g w0 (w.setCell ⟨g, k, none⟩ (.int .i64 v)) (fun j => if j = k then v else F j) := by
  refine ⟨fun j hj => ?_, fun j => ?_, ?_, h.hb, h.hB.setCell h.hb _⟩
  · by_cases e : j = k
    · subst e; rw [if_pos rfl]; exact World.cell?_setCell_same _ _ _ (u := .int .i64 (F j)) (h.c j hj)
    · rw [if_neg e, World.cell?_setCell_other _ _ _ _ (by simp <;> omega)]; exact h.c j hj
  · simpa using h.f j
  · simpa using h.hs
end Go.Proofs.Ytcgilmjhbdehpaa
/- Lists of one's own spoilt; lists of booleans compared. -/
namespace Go.Proofs.Ytcgilmjhbdehpaa
open Go.RowKit
set_option linter.unusedVariables false
theorem own_of_arr {base g n : Nat} {w : World} {T : TypeId} {f : Nat → Value} (h : Arr w g n T f) (hb : base ≤ g) (hn : n ≤ 1099511627776) : w.ownsRow base T 1 (.slice (some ⟨g, 0, none⟩) n n) n ((List.range n).map f) := by
  obtain ⟨cur, e, hs, hc⟩ := h.ex
  refine ⟨by simp, Or.inr ⟨g, n, cur, rfl, hb, e, Nat.le_refl _, by unfold maxLen; omega, by omega, ?_⟩⟩
  apply List.ext_getElem?
  intro k
  by_cases hk : k < n
  · have := hc k hk
    simp [hk, hs]
    simpa [Array.getElem?_eq_some_iff, hs, hk] using this
  · rw [List.getElem?_eq_none (by simp; omega), List.getElem?_eq_none (by simp; omega)]
theorem Arr.nq {w : World} {g n B : Nat} {T : TypeId} {F : Nat → Int} (h : Arr w g n T (fun k => .int .i64 (F k))) (hg : g < B) : Nq w B (some ⟨g, 0, none⟩) n ((List.range n).map F) :=
  ⟨by simp, fun hn => ⟨g, 0, rfl, hg, fun k hk => by rw [Nat.zero_add, h.cell hk]; simp [List.getD, hk]⟩⟩
theorem rd_nil (w : World) (B : Nat) (a : Option Addr) (f : Nat → Value) : Rd w B a 0 f := fun h => absurd h (by omega)
theorem Arr.rd0 {w : World} {g n : Nat} {T : TypeId} {f : Nat → Value} (h : Arr w g n T f) : Rd w (g + 1) (some ⟨g, 0, none⟩) n f := h.rd (Nat.lt_succ_self g)
theorem eqbl_yes (a a' : Option Addr) (n c c' B B' : Nat) (F : Nat → Bool) (w : World) (h : Rd w B a n (fun k => .bool (F k))) (h' : Rd w B' a' n (fun k => .bool (F k))) (hn : n ≤ 1099511627776) :
    Calls Try.prog 15 #[.slice a n c, .slice a' n c'] w fun e w' => e = .returned (.bool true) ∧ ∃ m, w' = w.drewN m := by
  have H := Hk.mk h
  have H' := Hk.mk h'
  clear h h'
  go_enter Try.func15, Try.ntmps15
  go_wp2
  go_loopw [5] (fun i wr => ∃ k : Nat, k ≤ n ∧ i = .int .i64 k ∧ Hk (∃ m, wr = w.drewN m)) (fun i _ => n - (intOf i).toNat)
  case atStart => exact ⟨0, Nat.zero_le _, rfl, ⟨0, rfl⟩⟩
  case round =>
    obtain ⟨k, hk, rfl, HB⟩ := hrel
    by_cases hlt : k < n
    · obtain ⟨b, off, rfl, hbl, hc⟩ := H.out (by omega)
      obtain ⟨b', off', rfl, hbl', hc'⟩ := H'.out (by omega)
      have hcx : wr.cell? ⟨b, off + k, none⟩ = some (.bool (F k)) := by obtain ⟨m, rfl⟩ := HB.out; exact hc k hlt
      have hcy : wr.cell? ⟨b', off' + k, none⟩ = some (.bool (F k)) := by obtain ⟨m, rfl⟩ := HB.out; exact hc' k hlt
      clear hc hc'
      generalize F k = x at *
      have i1 : (0 : Int) ≤ (k : Int) := by omega
      have i2 : (k : Int) < (n : Int) := by omega
      cases x <;>
       (go_wp2
        go_quiet (fail)
        go_wp2
        go_roundw
        case rel => exact ⟨k + 1, by omega, by go_num, ⟨by obtain ⟨m, rfl⟩ := HB.out; exact ⟨_, by rw [World.drewN_drewN]⟩⟩⟩
        case measure => simp [intOf]; omega)
    · have hkn : k = n := by omega
      subst hkn
      go_wp2
      go_ret
      exact ⟨rfl, HB.out⟩
end Go.Proofs.Ytcgilmjhbdehpaa
