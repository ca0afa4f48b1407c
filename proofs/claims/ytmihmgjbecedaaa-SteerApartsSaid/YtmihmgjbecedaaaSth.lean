/- Layer 19: ways copied, compared. -/
import Derived.Test.YtmihmgjbecedaaaStf
import Derived.Test.YtmihmgjbecedaaaStg
import Derived.Test.YtmihmgjbecedaaaStc
import Derived.Test.YtmihmgjbecedaaaStd
import Derived.Test.YtmihmgjbecedaaaHold
import Derived.Maps.AppendAt
import Derived.Deep.QuietTactic
import Derived.BigQuiet
namespace Go.Proofs.Ytmihmgjbecedaaa
open Go.RowKit
set_option linter.unusedVariables false
def rowV (f g : Nat → Int) : Nat → List Value
  | 0 => []
  | k + 1 => rowV f g k ++ [.int .i64 (f k), .int .i64 (g k)]
theorem rowV_len (f g : Nat → Int) (k : Nat) : (rowV f g k).length = k * 2 := by
  induction k with
  | zero => rfl
  | succ k ih => simp [rowV, ih]; omega
theorem rowV_at (f g : Nat → Int) (k j : Nat) (h : j < k) : (rowV f g k)[j * 2]? = some (.int .i64 (f j)) ∧ (rowV f g k)[j * 2 + 1]? = some (.int .i64 (g j)) := by
  induction k with
  | zero => omega
  | succ k ih =>
    have hl := rowV_len f g k
    unfold rowV
    by_cases e : j = k
    · subst e
      rw [List.getElem?_append_right (by omega), List.getElem?_append_right (by omega), hl]
      simp
    · obtain ⟨a, b⟩ := ih (by omega)
      rw [List.getElem?_append_left (by omega), List.getElem?_append_left (by omega)]
      exact ⟨a, b⟩
theorem own_vs {w : World} {base n : Nat} {v : Value} {f g : Nat → Int} (hn : ∀ k, k < n → Fx.I64 (f k) ∧ Fx.I64 (g k)) (h : w.ownsRow base 24 2 v n (rowV f g n)) : ∃ a c, v = .slice a n c ∧ Vs w w.heap.size a n f g := by
  have h' := h
  rcases h.2 with ⟨rfl, rfl⟩ | ⟨g', cap, cur, rfl, hg, hh, hc, hm, hs, ht⟩
  · exact ⟨none, 0, rfl, Vs.nil _ _ _ _ _⟩
  · refine ⟨_, _, rfl, hn, fun h0 => ⟨g', 0, rfl, lt_of_block hh, fun k hk => ?_⟩⟩
    have a1 := h'.cellAt (k * 2) (by omega)
    have a2 := h'.cellAt (k * 2 + 1) (by omega)
    obtain ⟨b1, b2⟩ := rowV_at f g n k hk
    rw [b1] at a1
    rw [b2] at a2
    exact ⟨by rw [Nat.zero_add]; exact a1, by rw [Nat.zero_add]; exact a2⟩
theorem info_vec : (Try.prog.info? 24).map (fun i => (i.zero, i.size, i.bytes)) = some (some (.agg #[.int .i64 0, .int .i64 0]), 2, 16) := by kernel_rfl
theorem two_new (w : World) (u v : Value) (t : TypeId) : ∀ (j : Nat) (x : Value), [u, v][j]? = some x → (w.alloc (.cells #[u, v] t)).cell? ((⟨w.heap.size, 0, none⟩ : Addr).add j) = some x := by
  intro j x hj
  match j, hj with
  | 0, hj => simp at hj; subst hj; simp [Addr.add]
  | 1, hj => simp at hj; subst hj; simp [Addr.add]
/-- Ways copied lie in new memory. -/
def CopyR (n : Nat) (f g : Nat → Int) (w : World) (e : Ending) (w' : World) : Prop := ∃ a c, e = .returned (.slice a n c) ∧ Vs w' w'.heap.size a n f g ∧ Below w.heap.size w w'
theorem copyv_any (a : Option Addr) (n c B : Nat) (f g : Nat → Int) (w : World) (h : Vs w B a n f g) (hB : B ≤ w.heap.size) (hn : n ≤ 1099511627776) :
    Calls Try.prog 12 #[.slice a n c] w (CopyR n f g w) := by
  obtain ⟨i0, hi, hz0, hz1, hz2⟩ := info_parts info_vec
  have H := Fx.Hd.mk h
  clear h
  go_enter Try.func12, Try.ntmps12
  go_wp2
  go_loopw [3, 4] (fun m i wr => ∃ k : Nat, k ≤ n ∧ i = .int .i64 k ∧ Fx.Hd (wr.ownsRow w.heap.size 24 2 m k (rowV f g k)) ∧ Fx.Hd (Below w.heap.size w wr)) (fun _ i _ => n - (intOf i).toNat)
  case atStart => exact ⟨0, Nat.zero_le _, rfl, ⟨World.ownsRow_nil _ _ _ _⟩, ⟨Below.refl _ _⟩⟩
  case round =>
    obtain ⟨k, hk, rfl, HO, HB⟩ := hrel
    by_cases hlt : k < n
    · obtain ⟨b, off, rfl, hbl, hc⟩ := H.out.rd (by omega)
      have hc0 := (HB.out.cell (p := ⟨b, off + k * 2, none⟩) (by simp; omega)).trans (hc k hlt).1
      have hc1 := (HB.out.cell (p := ⟨b, off + k * 2 + 1, none⟩) (by simp; omega)).trans (hc k hlt).2
      have hsz := HB.out.size
      clear hc
      go_wp2_with (at_builtin; refine wpList_append_own _ rfl _ _ 26 rfl w.heap.size 24 i0 (.agg #[.int .i64 0, .int .i64 0]) 2 16 Try.underlying26 hi hz0 hz1 hz2 rfl (by decide) _ _ _ rfl (HO.out.alloc _) ⟨wr.heap.size, 0, none⟩ 1 1 [.int .i64 (f k), .int .i64 (g k)] rfl rfl ?c1 ?c2 ?c3 ?c4 ?c5 ?_)
      case c1 => exact two_new _ _ _ _
      case c2 => intro u hu; simp at hu; rcases hu with rfl | rfl <;> rfl
      case c3 => unfold maxLen; omega
      case c4 => omega
      case c5 => simp; omega
      · intro v' w1 hown' hgrow _
        have HO2 : Fx.Hd (w1.ownsRow w.heap.size 24 2 v' (k + 1) (rowV f g (k + 1))) := ⟨hown'⟩
        have HB2 := Fx.Hd.mk ((HB.out.alloc hsz (.cells #[.int .i64 (f k), .int .i64 (g k)] 24)).grown hgrow (by simp; omega) (fun g hg => (HO.out.lt g hg).1))
        clear hown' hgrow HO HB
        go_wp2
        go_roundw
        case rel => exact ⟨k + 1, by omega, by go_num, HO2, HB2⟩
        case measure => simp [intOf]; omega
    · have hkn : k = n := by omega
      subst hkn
      go_wp2
      go_ret
      obtain ⟨a', c', rfl, hvs⟩ := own_vs H.out.num HO.out
      exact ⟨_, _, rfl, hvs, HB.out⟩
theorem copyR_below {n : Nat} {f g : Nat → Int} {w w' : World} {e : Ending} (h : CopyR n f g w e w') : Below w.heap.size w w' := by obtain ⟨_, _, _, _, h⟩ := h; exact h
theorem eqv_yes (a a' : Option Addr) (n c c' B B' : Nat) (f g : Nat → Int) (w : World) (h : Vs w B a n f g) (h' : Vs w B' a' n f g) (hn : n ≤ 1099511627776) :
    Calls Try.prog 15 #[.slice a n c, .slice a' n c'] w fun e w' => e = .returned (.bool true) ∧ ∃ m, w' = w.drewN m := by
  have H := Fx.Hd.mk h
  have H' := Fx.Hd.mk h'
  clear h h'
  go_enter Try.func15, Try.ntmps15
  go_wp2
  go_loopw [5] (fun i wr => ∃ k : Nat, k ≤ n ∧ i = .int .i64 k ∧ Fx.Hd (∃ m, wr = w.drewN m)) (fun i _ => n - (intOf i).toNat)
  case atStart => exact ⟨0, Nat.zero_le _, rfl, ⟨0, rfl⟩⟩
  case round =>
    obtain ⟨k, hk, rfl, HB⟩ := hrel
    by_cases hlt : k < n
    · obtain ⟨b, off, rfl, hbl, hc⟩ := H.out.rd (by omega)
      obtain ⟨b', off', rfl, hbl', hc'⟩ := H'.out.rd (by omega)
      have hcx : wr.cell? ⟨b, off + k * 2, none⟩ = some (.int .i64 (f k)) := by obtain ⟨m, rfl⟩ := HB.out; exact (hc k hlt).1
      have hcx2 : wr.cell? ⟨b, off + k * 2 + 1, none⟩ = some (.int .i64 (g k)) := by obtain ⟨m, rfl⟩ := HB.out; exact (hc k hlt).2
      have hcy : wr.cell? ⟨b', off' + k * 2, none⟩ = some (.int .i64 (f k)) := by obtain ⟨m, rfl⟩ := HB.out; exact (hc' k hlt).1
      have hcy2 : wr.cell? ⟨b', off' + k * 2 + 1, none⟩ = some (.int .i64 (g k)) := by obtain ⟨m, rfl⟩ := HB.out; exact (hc' k hlt).2
      clear hc hc'
      generalize f k = x at *
      generalize g k = y at *
      have i1 : (0 : Int) ≤ (k : Int) := by omega
      have i2 : (k : Int) < (n : Int) := by omega
      go_wp2
      go_quiet (fail)
      go_wp2
      go_roundw
      case rel => exact ⟨k + 1, by omega, by go_num, ⟨by obtain ⟨m, rfl⟩ := HB.out; exact ⟨_, by rw [World.drewN_drewN]⟩⟩⟩
      case measure => simp [intOf]; omega
    · have hkn : k = n := by omega
      subst hkn
      go_wp2
      go_ret
      exact ⟨rfl, HB.out⟩
theorem eqv_b (a a' : Option Addr) (n c c' B B' : Nat) (f g : Nat → Int) (w : World) (h : Vs w B a n f g) (h' : Vs w B' a' n f g) (hn : n ≤ 1099511627776) :
    Calls Try.prog 15 #[.slice a n c, .slice a' n c'] w fun e w' => e = .returned (.bool true) ∧ Below w.heap.size w w' :=
  (eqv_yes a a' n c c' B B' f g w h h' hn).mono fun e w' ⟨h1, m, h2⟩ => ⟨h1, by subst h2; have hb := Below.refl w.heap.size w; exact ⟨hb.os, hb.tape, hb.output, hb.size, hb.block⟩⟩
theorem below_drewNv {B : Nat} {a w : World} (h : Below B a w) (n : Nat) : Below B a (w.drewN n) := ⟨h.os, h.tape, h.output, h.size, h.block⟩
end Go.Proofs.Ytmihmgjbecedaaa
