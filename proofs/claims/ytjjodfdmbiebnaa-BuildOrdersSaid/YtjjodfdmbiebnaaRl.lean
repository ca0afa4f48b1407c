import Derived.Deep.QuietTactic
import Derived.BigQuiet
import Derived.Deep.RegionWith
import Derived.Deep.RegionHeld3
import Derived.Deep.DeepCutAuto
import Derived.Deep.DeepFit
import Derived.Outline
import Derived.Test.YtjjodfdmbiebnaaRk
import Derived.Deep.RegionLaw
import Derived.Lib.SlBuf
import Derived.Deep.Upon
import Derived.Laws.IdiomCopy
import Derived.Shelf.Spec.SlicesInsert
import Derived.Shelf.Spec.SlicesInsertGrow
import Derived.Lib.AppendZerosOnto
import Derived.Laws.NewBlocks
/- Layer 8: lists of buildings copied and compared. -/
namespace Go.Proofs.Ytjjodfdmbiebnaa
open Go.RowKit Go.Deep
set_option linter.unusedVariables false
set_option linter.unusedSimpArgs false
theorem OwnB8.alloc {w : World} {base n : Nat} {v : Value} {bs : List Bd} (h : OwnB8 w base v n bs) (o : Obj) : OwnB8 (w.alloc o) base v n bs := h.below ((Below.refl _ _).alloc (Nat.le_refl _) o)
theorem OwnB8.drewN {w : World} {base n : Nat} {v : Value} {bs : List Bd} (h : OwnB8 w base v n bs) (m : Nat) : OwnB8 (w.drewN m) base v n bs := ⟨h.len, h.row⟩
theorem OwnB8.lt {w : World} {base n : Nat} {v : Value} {bs : List Bd} (h : OwnB8 w base v n bs) : ∀ g, v.ownBlock = some g → base ≤ g ∧ g < w.heap.size := by
  intro g hg
  rcases h.row.2 with ⟨rfl, _⟩ | ⟨g', cap, cur, rfl, hb, hh, r⟩
  · cases hg
  · simp [Value.ownBlock] at hg
    subst hg
    exact ⟨hb, (Array.getElem?_eq_some_iff.1 hh).1⟩
theorem OwnB8.nil (w : World) (base : Nat) : OwnB8 w base (.slice none 0 0) 0 [] := ⟨rfl, rfl, Or.inl ⟨rfl, rfl⟩⟩
theorem flatB_take {bs : List Bd} {k : Nat} (hk : k < bs.length) : flatB (bs.take (k + 1)) = flatB (bs.take k) ++ cells6 (bs.getD k default) := by
  rw [take_succB hk, flatB_app]
  show _ ++ (cells6 _ ++ []) = _
  rw [List.append_nil]
theorem cells6_one (b : Bd) : ∀ u ∈ cells6 b, u.oneCell' = true := fun u h => flatB_one [b] u (by show u ∈ cells6 b ++ []; simpa using h)
theorem six_at (X : World) (b : Bd) (T : TypeId) : ∀ (j : Nat) (u : Value), (cells6 b)[j]? = some u → (X.alloc (.cells #[.int .i64 b.i, .int .i64 b.o, .int .i64 b.x, .int .i64 b.y, .int .i64 b.w, .int .i64 b.h] T)).cell? ((⟨X.heap.size, 0, none⟩ : Addr).add j) = some u := by
  intro j u hj
  simp only [Addr.add, Nat.zero_add]
  rw [show (if j = 0 then (⟨X.heap.size, 0, none⟩ : Addr) else ⟨X.heap.size, j, none⟩) = ⟨X.heap.size, j, none⟩ by split <;> simp_all, (Bk.new X #[.int .i64 b.i, .int .i64 b.o, .int .i64 b.x, .int .i64 b.y, .int .i64 b.w, .int .i64 b.h] T).c j]
  simpa [cells6] using hj
set_option maxRecDepth 100000 in
set_option maxHeartbeats 800000 in
theorem copyb_any (a : Option Addr) (n c B : Nat) (bs : List Bd) (w : World) (h : Bq w B a n bs) (hB : B ≤ w.heap.size) (hn : n ≤ 1099511627776) :
    Calls Try.prog 15 #[.slice a n c] w fun e w' => ∃ v, e = .returned v ∧ OwnB8 w' w.heap.size v n bs ∧ Below w.heap.size w w' := by
  obtain ⟨i0, hi, hz0, hz1, hz2⟩ := info_parts info_bd
  have HH := Hk.mk h
  have hlen := h.len
  have HL := Hk.mk hlen
  clear h hlen
  go_enter Try.func15, Try.ntmps15
  go_wp2
  go_loopw [3, 4] (fun v i wr => ∃ k : Nat, i = .int .i64 k ∧ k ≤ n ∧ Hk (OwnB8 wr w.heap.size v k (bs.take k)) ∧ Hk (Below w.heap.size w wr)) (fun _ i _ => n - (intOf i).toNat)
  case atStart => exact ⟨0, rfl, Nat.zero_le _, ⟨by simpa using OwnB8.nil w w.heap.size⟩, ⟨Below.refl _ _⟩⟩
  case round =>
    obtain ⟨k, rfl, hk, HO, HB⟩ := hrel
    obtain ⟨hc, hf, hl', hn', hm'⟩ := kw_rules HB.out (Nat.le_refl _)
    by_cases hlt : k < n
    · obtain ⟨b, off, rfl, hbl, p0, p1, p2, p3, p4, p5⟩ := HH.out.six hlt
      have hbw : b < w.heap.size := by omega
      obtain ⟨e, he⟩ : ∃ e, bs.getD k default = e := ⟨_, rfl⟩
      rw [he] at p0 p1 p2 p3 p4 p5
      have HE := Hk.mk he
      clear he
      have t0 : (0 : Int) ≤ (k : Int) := by omega
      have t1 : (k : Int) < (n : Int) := by omega
      have HOA := Hk.mk (HO.out.alloc (.cells #[.int .i64 e.i, .int .i64 e.o, .int .i64 e.x, .int .i64 e.y, .int .i64 e.w, .int .i64 e.h] 35))
      go_wp2_with (at_builtin; go_must (refine wpList_append_own _ rfl _ _ 25 rfl w.heap.size 35 i0 (.agg #[.int .i64 0, .int .i64 0, .int .i64 0, .int .i64 0, .int .i64 0, .int .i64 0]) 6 48 Try.underlying25 hi hz0 hz1 hz2 rfl (by decide) _ k (flatB (bs.take k)) rfl HOA.out.row ⟨wr.heap.size, 0, none⟩ 1 1 (cells6 e) rfl rfl (six_at wr e _) (cells6_one e) (by unfold maxLen; omega) (by omega) ?c5 ?_))
      case c5 => have := HB.out.size; simp; omega
      intro v2 z hown2 hgrow hnil
      clear hnil
      have HO2 : Hk (OwnB8 z w.heap.size v2 (k + 1) (bs.take (k + 1))) := ⟨⟨by simp [HL.out]; omega, by rw [flatB_take (by rw [HL.out]; exact hlt), HE.out]; exact hown2⟩⟩
      have HB2 : Hk (Below w.heap.size w z) := ⟨(HB.out.alloc HB.out.size _).grown hgrow (by have := HB.out.size; simp; omega) (fun g hg => (HOA.out.lt g hg).1)⟩
      clear hown2 hgrow HOA HO hc hf hl' hn' hm'
      go_wp2
      exact ⟨⟨k + 1, by go_num, by omega, HO2, HB2⟩, by simp [intOf]; omega⟩
    · obtain rfl : k = n := by omega
      go_wp2
      go_ret
      exact ⟨_, rfl, by have := HO.out; rwa [List.take_of_length_le (by rw [HL.out]; exact Nat.le_refl _)] at this, HB.out⟩
set_option maxRecDepth 100000 in
theorem eqbd_yes (a a' : Option Addr) (n c c' B B' : Nat) (bs : List Bd) (w : World) (h : Bq w B a n bs) (h' : Bq w B' a' n bs) (hn : n ≤ 1099511627776) :
    Calls Try.prog 21 #[.slice a n c, .slice a' n c'] w fun e w' => e = .returned (.bool true) ∧ ∃ m, w' = w.drewN m := by
  have H := Hk.mk h
  have H' := Hk.mk h'
  clear h h'
  go_enter Try.func21, Try.ntmps21
  go_wp2
  go_loopw [5] (fun i wr => ∃ k : Nat, k ≤ n ∧ i = .int .i64 k ∧ Hk (∃ m, wr = w.drewN m)) (fun i _ => n - (intOf i).toNat)
  case atStart => exact ⟨0, Nat.zero_le _, rfl, ⟨0, rfl⟩⟩
  case round =>
    obtain ⟨k, hk, rfl, HB⟩ := hrel
    by_cases hlt : k < n
    · obtain ⟨m, hm⟩ := HB.out
      have HQ := H.out.drewN m
      have HQ' := H'.out.drewN m
      rw [← hm] at HQ HQ'
      obtain ⟨b, off, rfl, hbl, p0, p1, p2, p3, p4, p5⟩ := HQ.six hlt
      obtain ⟨b', off', rfl, hbl', q0, q1, q2, q3, q4, q5⟩ := HQ'.six hlt
      clear HQ HQ' hm
      generalize bs.getD k default = e at *
      have i1 : (0 : Int) ≤ (k : Int) := by omega
      have i2 : (k : Int) < (n : Int) := by omega
      go_wp2
      go_quiet (fail)
      go_wp2
      go_roundw
      case rel => exact ⟨k + 1, by omega, by go_num, ⟨by obtain ⟨m, rfl⟩ := HB.out; exact ⟨_, by rw [World.drewN_drewN]⟩⟩⟩
      case measure => simp [intOf]; omega
    · have hkn : k = n := by omega
      subst hkn
      go_wp2
      go_ret
      exact ⟨rfl, HB.out⟩
theorem bq_news {w : World} {B n : Nat} {ad : Addr} {bs : List Bd} (h : Bq w B (some ad) n bs) : ∀ j u, (flatB bs)[j]? = some u → w.cell? (ad.add j) = some u := by
  intro j u hj
  have hjl : j < bs.length * 6 := by
    rcases Nat.lt_or_ge j (bs.length * 6) with h0 | h0
    · exact h0
    · rw [List.getElem?_eq_none (by rw [flatB_len]; exact h0)] at hj; cases hj
  have hk : j / 6 < n := by have := h.len; omega
  obtain ⟨b, off, e, _, hc⟩ := h.rd (by omega)
  obtain rfl : ad = ⟨b, off, none⟩ := by injection e
  have h1 := hc (j / 6) hk (j % 6) (Nat.mod_lt _ (by omega))
  have h2 := flatB_at bs (j / 6) (j % 6) (by have := h.len; omega) (Nat.mod_lt _ (by omega))
  rw [show j / 6 * 6 + j % 6 = j by omega, hj] at h2
  rw [show off + j / 6 * 6 + j % 6 = off + j by omega] at h1
  have h3 : (⟨b, off, none⟩ : Addr).add j = ⟨b, off + j, none⟩ := by unfold Addr.add; split <;> simp_all
  rw [h3, h1, h2]
set_option maxRecDepth 100000 in
theorem clone8_any (a : Option Addr) (n c B : Nat) (bs : List Bd) (X : World) (h : Bq X B a n bs) (hB : B ≤ X.heap.size) (hn : n ≤ 1099511627776) :
    Calls Try.prog 68 #[.slice a n c] X fun e z => ∃ v, e = .returned v ∧ OwnB8 z X.heap.size v n bs ∧ Below X.heap.size X z := by
  have HH := Hk.mk h
  cases a with
  | none =>
    obtain rfl : n = 0 := by
      rcases Nat.eq_zero_or_pos n with h0 | h0
      · exact h0
      · obtain ⟨_, _, e, _⟩ := h.rd h0; cases e
    obtain rfl : bs = [] := List.eq_nil_of_length_eq_zero h.len
    clear h HH
    have q : ∀ w : World, (binOp .eql 25 (.slice none 0 c) (.slice none 0 0)).run Try.prog w = .ok (.bool true) w := fun w => Lib.run_eql_slice_nil w _ _ none 0 c 0 0 Try.underlying25
    go_enter Try.func68, Try.ntmps68
    go_wp2
    go_ret
    exact ⟨_, rfl, OwnB8.nil _ _, Below.refl _ _⟩
  | some ad =>
    obtain ⟨i0, hi, hz0, hz1, hz2⟩ := info_parts info_bd
    have q : ∀ w : World, (binOp .eql 25 (.slice (some ad) n c) (.slice none 0 0)).run Try.prog w = .ok (.bool false) w := fun w => Lib.run_eql_slice_nil w _ _ (some ad) n c 0 0 Try.underlying25
    have HN := Hk.mk (bq_news (h.below ((Below.refl X.heap.size X).alloc (Nat.le_refl _) (.cells #[] 35)) hB))
    have hlen := h.len
    have HF := Hk.mk (show (flatB bs).length = n * 6 by rw [flatB_len, hlen])
    have HL := Hk.mk hlen
    have hown : (X.alloc (.cells #[] 35)).ownsRow X.heap.size 35 6 (.slice (some ⟨X.heap.size, 0, none⟩) 0 0) 0 [] := ⟨rfl, Or.inr ⟨X.heap.size, 0, #[], rfl, Nat.le_refl _, heap_alloc_new X _, Nat.le_refl _, by unfold maxLen; omega, rfl, rfl⟩⟩
    have HOW := Hk.mk hown
    clear h hlen hown
    go_enter Try.func68, Try.ntmps68
    go_wp2_with (at_builtin; go_must (refine wpList_append_own _ rfl _ _ 25 rfl X.heap.size 35 i0 (.agg #[.int .i64 0, .int .i64 0, .int .i64 0, .int .i64 0, .int .i64 0, .int .i64 0]) 6 48 Try.underlying25 hi hz0 hz1 hz2 rfl (by decide) _ 0 [] rfl HOW.out ad n c (flatB bs) rfl HF.out HN.out (flatB_one bs) (by unfold maxLen; omega) (by omega) ?c5 ?_))
    case c5 => simp
    intro v z hown2 hgrow hnil
    clear hnil
    have HO2 : Hk (OwnB8 z X.heap.size v n bs) := ⟨⟨HL.out, by simpa using hown2⟩⟩
    have HB2 : Hk (Below X.heap.size X z) := ⟨((Below.refl X.heap.size X).alloc (Nat.le_refl _) (.cells #[] 35)).grown hgrow (by simp) (fun g hg => by simp [Value.ownBlock] at hg; omega)⟩
    clear hown2 hgrow HOW
    go_wp2
    go_ret
    exact ⟨_, rfl, HO2.out, HB2.out⟩
end Go.Proofs.Ytjjodfdmbiebnaa
/- Layer 8: one of a list of buildings taken away in place. -/
namespace Go.Proofs.Ytjjodfdmbiebnaa
open Go.RowKit Go.Deep
set_option linter.unusedVariables false
set_option linter.unusedSimpArgs false
theorem setCells_heap {g : Nat} {T : TypeId} : ∀ (vs : List Value) (o : Nat) (w : World) (cur : Array Value), w.heap[g]? = some (.cells cur T (0, 0)) → ∃ cur' : Array Value, (w.setCells g o vs).heap[g]? = some (.cells cur' T (0, 0)) ∧ cur'.size = cur.size
  | [], _, w, cur, h => ⟨cur, h, rfl⟩
  | v :: vs, o, w, cur, h => by
    have hlt := lt_of_block h
    have h1 : (w.setCell ⟨g, o, none⟩ v).heap[g]? = some (.cells (cur.setIfInBounds o v) T (0, 0)) := by
      have h' : w.heap[g] = .cells cur T (0, 0) := by simpa [Array.getElem?_eq_getElem hlt] using h
      show (w.heap.modify g _)[g]? = _
      rw [Array.getElem?_eq_getElem (by simpa using hlt), Array.getElem_modify_self, h']
      rfl
    obtain ⟨cur', h2, h3⟩ := setCells_heap vs (o + 1) (w.setCell ⟨g, o, none⟩ v) _ h1
    exact ⟨cur', h2, by rw [h3]; simp⟩
theorem cell_cur {w : World} {g : Nat} {T : TypeId} {cur : Array Value} (h : w.heap[g]? = some (.cells cur T (0, 0))) (k : Nat) : w.cell? ⟨g, k, none⟩ = cur[k]? := by simp [World.cell?, h]
theorem froz_cur {w : World} {g : Nat} {T : TypeId} {cur : Array Value} (h : w.heap[g]? = some (.cells cur T (0, 0))) (k : Nat) : w.frozen? ⟨g, k, none⟩ = false := by simp [World.frozen?, h]
theorem zero_bd (w : World) : (zeroValue 35).run Try.prog w = .ok (.agg #[.int .i64 0, .int .i64 0, .int .i64 0, .int .i64 0, .int .i64 0, .int .i64 0]) w := by kernel_rfl
theorem run_clear_six (w : World) (ty : TypeId) (b o c : Nat) (hc : ∀ j, j < 6 → (w.cell? ⟨b, o + j, none⟩).isSome = true) (hf : ∀ j, j < 6 → w.frozen? ⟨b, o + j, none⟩ = false) :
    (Builtin.clear_ #[25] ty #[.slice (some ⟨b, o, none⟩) 1 c]).run Try.prog w = .ok (.tuple #[]) (w.setCells b o [Value.int .i64 0, Value.int .i64 0, Value.int .i64 0, Value.int .i64 0, Value.int .i64 0, Value.int .i64 0]) := by
  have hst := run_storeCells_cells (P := Try.prog) b o [Value.int .i64 0, Value.int .i64 0, Value.int .i64 0, Value.int .i64 0, Value.int .i64 0, Value.int .i64 0] 0 w (by simpa using hc) (by simpa using hf) (by intro v hv'; simp at hv'; subst hv'; rfl)
  simp only [Nat.add_zero] at hst
  have hzc : (Builtin.zeroCells (Value.cells (.agg #[.int .i64 0, .int .i64 0, .int .i64 0, .int .i64 0, .int .i64 0, .int .i64 0])) 1).toList = [Value.int .i64 0, Value.int .i64 0, Value.int .i64 0, Value.int .i64 0, Value.int .i64 0, Value.int .i64 0] := by simp [Builtin.zeroCells, Value.cells]; rfl
  simp [Builtin.clear_, run_underlying Try.underlying25, zero_bd, hzc, hst]
theorem flatB_takeL {bs : List Bd} {i : Nat} : flatB (bs.take i) = (flatB bs).take (i * 6) := by
  by_cases h : i ≤ bs.length
  · have e : flatB bs = flatB (bs.take i) ++ flatB (bs.drop i) := by rw [← flatB_app, List.take_append_drop]
    rw [e, List.take_left' (by rw [flatB_len]; simp; omega)]
  · rw [List.take_of_length_le (by omega), List.take_of_length_le (by rw [flatB_len]; omega)]
theorem flatB_dropL {bs : List Bd} {i : Nat} : flatB (bs.drop i) = (flatB bs).drop (i * 6) := by
  by_cases h : i ≤ bs.length
  · have e : flatB bs = flatB (bs.take i) ++ flatB (bs.drop i) := by rw [← flatB_app, List.take_append_drop]
    rw [e, List.drop_left' (by rw [flatB_len]; simp; omega)]
  · rw [List.drop_eq_nil_of_le (by omega), List.drop_eq_nil_of_le (by rw [flatB_len]; omega)]
    rfl
/-- What the block holds when one is taken away. -/
theorem own_del {W X1 X2 : World} {base g n c i : Nat} {bs : List Bd} (h : OwnB8 W base (.slice (some ⟨g, 0, none⟩) n c) n bs) (hi : i < n) (h1 : X1 = W.setCells g (i * 6) (flatB (bs.drop (i + 1)))) (h2 : X2 = X1.setCells g ((n - 1) * 6) [Value.int .i64 0, Value.int .i64 0, Value.int .i64 0, Value.int .i64 0, Value.int .i64 0, Value.int .i64 0]) :
    OwnB8 X2 base (.slice (some ⟨g, 0, none⟩) (n - 1) c) (n - 1) (bs.take i ++ bs.drop (i + 1)) := by
  have hl := h.len
  have hel : (bs.take i ++ bs.drop (i + 1)).length = n - 1 := by simp; omega
  obtain ⟨hrl, ⟨e, _⟩ | ⟨g', cap, cur, e, hg, hh, hc, hm, hs, ht⟩⟩ := h.row
  · cases e
  injection e with e1 e2 e3
  injection e1 with e1
  injection e1 with e1
  subst e1 e3
  obtain ⟨cur1, hh1, hs1⟩ := setCells_heap (flatB (bs.drop (i + 1))) (i * 6) W cur hh
  rw [← h1] at hh1
  obtain ⟨cur2, hh2, hs2⟩ := setCells_heap [Value.int .i64 0, Value.int .i64 0, Value.int .i64 0, Value.int .i64 0, Value.int .i64 0, Value.int .i64 0] ((n - 1) * 6) X1 cur1 hh1
  rw [← h2] at hh2
  have hdl : (flatB (bs.drop (i + 1))).length = (n - (i + 1)) * 6 := by rw [flatB_len]; simp [hl]
  refine ⟨hel, by rw [flatB_len, hel], Or.inr ⟨g, c, cur2, rfl, hg, hh2, by omega, hm, by omega, ?_⟩⟩
  apply List.ext_getElem?
  intro t
  by_cases htl : t < (n - 1) * 6
  · rw [List.getElem?_take_of_lt htl, Array.getElem?_toList, ← cell_cur hh2 t, h2, World.cell?_setCells_out g [Value.int .i64 0, Value.int .i64 0, Value.int .i64 0, Value.int .i64 0, Value.int .i64 0, Value.int .i64 0] ((n - 1) * 6) X1 ⟨g, t, none⟩ (fun _ _ => Or.inl htl), flatB_app, flatB_takeL]
    have htk : ((flatB bs).take (i * 6)).length = i * 6 := by rw [List.length_take, flatB_len]; omega
    by_cases hti : t < i * 6
    · rw [h1, World.cell?_setCells_out g _ (i * 6) W ⟨g, t, none⟩ (fun _ _ => Or.inl hti), cell_cur hh t, List.getElem?_append_left (by omega), List.getElem?_take_of_lt hti, ← ht, List.getElem?_take_of_lt (by omega), Array.getElem?_toList]
    · obtain ⟨d, rfl⟩ : ∃ d, t = i * 6 + d := ⟨t - i * 6, by omega⟩
      have hd : d < (flatB (bs.drop (i + 1))).length := by omega
      rw [h1, World.cell?_setCells_in g _ (i * 6) W (fun j hj => by rw [cell_cur hh]; rw [Array.getElem?_eq_getElem (by omega)]; rfl) d hd]
      rw [List.getElem?_append_right (by omega), htk, show i * 6 + d - i * 6 = d by omega, List.getElem?_eq_getElem hd]
  · rw [List.getElem?_eq_none (by simp; omega), List.getElem?_eq_none (by rw [flatB_len, hel]; omega)]
set_option maxRecDepth 100000 in
set_option maxHeartbeats 1600000 in
theorem del8 (base g n c i : Nat) (bs : List Bd) (X : World) (h : OwnB8 X base (.slice (some ⟨g, 0, none⟩) n c) n bs) (hn : n ≤ 1099511627776) (hi : i < n) :
    Calls Try.prog 70 #[.slice (some ⟨g, 0, none⟩) n c, .int .i64 (i : Int), .int .i64 ((i : Int) + 1)] X fun e z => e = .returned (.slice (some ⟨g, 0, none⟩) (n - 1) c) ∧ OwnB8 z base (.slice (some ⟨g, 0, none⟩) (n - 1) c) (n - 1) (bs.take i ++ bs.drop (i + 1)) ∧ Below base X z := by
  obtain ⟨a', c', e, hnc, hcm, hbq, hb0⟩ := h.bq
  injection e with e1 e2 e3
  subst e1 e3
  have hcm' : c ≤ 9223372036854775807 := by unfold maxLen at hcm; omega
  have t0 : (0 : Int) ≤ (i : Int) := by omega
  have t1 : (i : Int) + 1 ≤ (n : Int) := by omega
  have t2 : (i : Int) + 1 ≤ (c : Int) := by omega
  have t3 : (n : Int) ≤ (c : Int) := by omega
  have t4 : (i : Int) ≤ (c : Int) := by omega
  have t5 : (0 : Int) ≤ (i : Int) + 1 := by omega
  obtain ⟨i0, hi0, hz0, hz1, hz2⟩ := info_parts info_bd
  have hl := h.len
  obtain ⟨news, hnews⟩ : ∃ news, news = flatB (bs.drop (i + 1)) := ⟨_, rfl⟩
  have hlen : news.length = (n - (i + 1)) * 6 := by rw [hnews, flatB_len]; simp [hl]
  have hrow := h.row.2
  obtain ⟨cur, hh, hs⟩ : ∃ cur : Array Value, X.heap[g]? = some (.cells cur 35 (0, 0)) ∧ cur.size = c * 6 := by
    rcases hrow with ⟨e, _⟩ | ⟨g', cap, cur, e, _, hh, _, _, hs, _⟩
    · cases e
    · injection e with e1 e2 e3
      injection e1 with e1
      injection e1 with e1
      subst e1 e3
      exact ⟨cur, hh, hs⟩
  clear hrow
  have hbase : base ≤ g := (hb0 g 0 rfl).1
  obtain ⟨A, hA, hsrc⟩ : ∃ A : Addr, (if c = i + 1 then some (⟨g, 0, none⟩ : Addr) else some ⟨g, (i + 1) * 6, none⟩) = some A ∧ Hk (∀ t u, news[t]? = some u → X.drew.cell? (A.add t) = some u) := by
    by_cases hci : c = i + 1
    · refine ⟨⟨g, 0, none⟩, by simp [hci], ⟨fun t u hu => ?_⟩⟩
      have : news.length = 0 := by rw [hlen, show n - (i + 1) = 0 by omega]
      rw [List.length_eq_zero_iff.1 this] at hu
      simp at hu
    · refine ⟨⟨g, (i + 1) * 6, none⟩, by simp [hci], ⟨?_⟩⟩
      have hq : Bq X X.heap.size (some ⟨g, (i + 1) * 6, none⟩) (n - (i + 1)) (bs.drop (i + 1)) := ⟨by simp [hl], fun hp => by
        obtain ⟨b, off, e, hlt, hcell⟩ := hbq.rd (by omega)
        injection e with e
        injection e with e1 e2
        subst e1 e2
        refine ⟨g, (i + 1) * 6, rfl, hlt, fun k hk q hq => ?_⟩
        have := hcell (i + 1 + k) (by omega) q hq
        rw [show 0 + (i + 1 + k) * 6 + q = (i + 1) * 6 + k * 6 + q by omega] at this
        rw [this]
        simp [List.getD]⟩
      intro t u hu
      rw [hnews] at hu
      exact bq_news hq t u hu
  have s1 : Hk (news.length = (n - (i + 1)) * 6) := ⟨hlen⟩
  have s2 : Hk (∀ u ∈ news, u.oneCell' = true) := ⟨by rw [hnews]; exact flatB_one _⟩
  have s3 : Hk (∀ t, t < news.length → (X.drew.cell? ⟨g, 0 + i * 6 + t, none⟩).isSome = true ∧ X.drew.frozen? ⟨g, 0 + i * 6 + t, none⟩ = false) := by
    refine ⟨fun t ht => ?_⟩
    rw [hlen] at ht
    refine ⟨?_, froz_cur (w := X) hh _⟩
    show (X.cell? _).isSome = true
    rw [cell_cur hh, Array.getElem?_eq_getElem (by omega)]
    rfl
  obtain ⟨W1, hW1⟩ : ∃ W1, W1 = X.drew.setCells g (0 + i * 6) news := ⟨_, rfl⟩
  obtain ⟨cur1, hh1, hs1⟩ := setCells_heap news (0 + i * 6) X.drew cur hh
  rw [← hW1] at hh1
  have hcl : ∀ ty, (Builtin.clear_ #[25] ty #[.slice (some ⟨g, (i + (n - (i + 1))) * 6, none⟩) (n - (i + (n - (i + 1)))) (c - (i + (n - (i + 1))))]).run Try.prog W1 = .ok (.tuple #[]) (W1.setCells g ((i + (n - (i + 1))) * 6) [Value.int .i64 0, Value.int .i64 0, Value.int .i64 0, Value.int .i64 0, Value.int .i64 0, Value.int .i64 0]) := fun ty => by
    rw [show n - (i + (n - (i + 1))) = 1 by omega]
    exact run_clear_six W1 ty g _ _ (fun j hj => by rw [cell_cur hh1, Array.getElem?_eq_getElem (by omega)]; rfl) (fun j hj => froz_cur hh1 _)
  have FIN : Hk (OwnB8 (W1.setCells g ((i + (n - (i + 1))) * 6) [Value.int .i64 0, Value.int .i64 0, Value.int .i64 0, Value.int .i64 0, Value.int .i64 0, Value.int .i64 0]) base (.slice (some ⟨g, 0, none⟩) (n - 1) c) (n - 1) (bs.take i ++ bs.drop (i + 1)) ∧ Below base X (W1.setCells g ((i + (n - (i + 1))) * 6) [Value.int .i64 0, Value.int .i64 0, Value.int .i64 0, Value.int .i64 0, Value.int .i64 0, Value.int .i64 0])) := by
    refine ⟨⟨own_del (W := X.drew) ⟨h.len, h.row⟩ hi (X1 := W1) (by rw [hW1, hnews, Nat.zero_add]) (by rw [show i + (n - (i + 1)) = n - 1 by omega]), ?_⟩⟩
    rw [hW1]
    exact Lib.below_setCells g hbase _ _ (Lib.below_setCells g hbase _ _ (Below.refl _ _).drew)
  have HW : Hk (W1 = X.drew.setCells g (0 + i * 6) news) := ⟨hW1⟩
  have HN1 : Hk (n - 1 = i + (n - (i + 1))) := ⟨by omega⟩
  have hic : i ≤ c := by omega
  have hjc : i + 1 ≤ c := by omega
  clear hW1 hh1 hs1 hh hs cur1 cur hnews hlen hbq hb0 h
  go_enter Try.func70, Try.ntmps70
  go_upto_region 5 with (fail)
  go_region_law (refine step_append_room rfl (.tmp 22) (.tmp 25) 25 rfl 35 i0 6 Try.underlying25 hi0 hz1 g 0 i c (by simp [Act.eval, Act.put]) A (n - (i + 1)) (c - (i + 1)) news (by simp [Act.eval, Act.put]) s1.out hsrc.out s2.out (by omega) s3.out ?_; rw [← HW.out])
  go_wp2
  go_ret
  exact ⟨by rw [HN1.out]; rfl, FIN.out.1, FIN.out.2⟩
end Go.Proofs.Ytjjodfdmbiebnaa
/- Layer 8: Insert into a list of buildings where there is room, and where there is none (under way). -/
namespace Go.Proofs.Ytjjodfdmbiebnaa
open Go.RowKit Go.Deep
set_option linter.unusedVariables false
set_option linter.unusedSimpArgs false
theorem run_copy_six (w : World) (ty : TypeId) (b o dLen dCap : Nat) (a : Addr) (sLen sCap k : Nat) (cs : List Value) (hk : Nat.min sLen dLen = k) (hn : cs.length = k * 6)
    (hsrc : ∀ j v, cs[j]? = some v → w.cell? (a.add j) = some v) (hc : ∀ j, j < cs.length → (w.cell? ⟨b, o + j, none⟩).isSome = true) (hf : ∀ j, j < cs.length → w.frozen? ⟨b, o + j, none⟩ = false) (h1 : ∀ v ∈ cs, v.oneCell' = true) :
    (Builtin.copy_ #[25, 25] ty #[.slice (some ⟨b, o, none⟩) dLen dCap, .slice (some a) sLen sCap]).run Try.prog w = .ok (goInt k) (w.setCells b o cs) := by
  have hl := run_loadCells_list (P := Try.prog) w a cs hsrc
  have hst := run_storeCells_cells (P := Try.prog) b o cs 0 w (by simpa using hc) (by simpa using hf) h1
  obtain ⟨i0, hi, hz0, hz1, hz2⟩ := info_parts info_bd
  rw [hn] at hl
  simp [Builtin.copy_, run_underlying Try.underlying25, Builtin.lenOf, Builtin.firstCells, sizeOf, typeInfo, hi, hz1, hk, hl, hst]
/-- What the block holds when one is put in where there is room: first the rest moves up, then the one is laid. -/
theorem own_ins {W X1 X2 : World} {base g n c i : Nat} {bs : List Bd} {d : Bd} (h : OwnB8 W base (.slice (some ⟨g, 0, none⟩) n c) n bs) (hi : i ≤ n) (hr : n + 1 ≤ c) (hsz : ∀ j, j < (n + 1) * 6 → (W.cell? ⟨g, j, none⟩).isSome = true) (h1 : X1 = W.setCells g ((i + 1) * 6) (flatB (bs.drop i))) (h2 : X2 = X1.setCells g (i * 6) (flatB [d])) :
    OwnB8 X2 base (.slice (some ⟨g, 0, none⟩) (n + 1) c) (n + 1) (bs.take i ++ [d] ++ bs.drop i) := by
  have hl := h.len
  have hel : (bs.take i ++ [d] ++ bs.drop i).length = n + 1 := by simp; omega
  obtain ⟨hrl, ⟨e, _⟩ | ⟨g', cap, cur, e, hg, hh, hc, hm, hs, ht⟩⟩ := h.row
  · cases e
  injection e with e1 e2 e3
  injection e1 with e1
  injection e1 with e1
  subst e1 e3
  obtain ⟨cur1, hh1, hs1⟩ := setCells_heap (flatB (bs.drop i)) ((i + 1) * 6) W cur hh
  rw [← h1] at hh1
  obtain ⟨cur2, hh2, hs2⟩ := setCells_heap (flatB [d]) (i * 6) X1 cur1 hh1
  rw [← h2] at hh2
  have hdl : (flatB (bs.drop i)).length = (n - i) * 6 := by rw [flatB_len]; simp [hl]
  have hd1 : (flatB [d]).length = 6 := by rw [flatB_len]; rfl
  have hsW : ∀ j, j < (n + 1) * 6 → j < cur.size := fun j hj => by
    have := hsz j hj
    rw [cell_cur hh] at this
    cases hq : cur[j]? with
    | none => rw [hq] at this; cases this
    | some v => exact (Array.getElem?_eq_some_iff.1 hq).1
  refine ⟨hel, by rw [flatB_len, hel], Or.inr ⟨g, c, cur2, rfl, hg, hh2, by omega, hm, by omega, ?_⟩⟩
  apply List.ext_getElem?
  intro t
  have htk : ((flatB bs).take (i * 6)).length = i * 6 := by rw [List.length_take, flatB_len]; omega
  by_cases htl : t < (n + 1) * 6
  · rw [List.getElem?_take_of_lt htl, Array.getElem?_toList, ← cell_cur hh2 t, h2, flatB_app, flatB_app, flatB_takeL]
    by_cases hti : t < i * 6
    · rw [World.cell?_setCells_out g _ (i * 6) X1 ⟨g, t, none⟩ (fun _ _ => Or.inl hti), h1, World.cell?_setCells_out g _ ((i + 1) * 6) W ⟨g, t, none⟩ (fun _ _ => Or.inl (by show t < _; omega)), cell_cur hh t,
        List.getElem?_append_left (by rw [List.length_append]; omega), List.getElem?_append_left (by omega), List.getElem?_take_of_lt hti, ← ht, List.getElem?_take_of_lt (by omega), Array.getElem?_toList]
    · by_cases htj : t < (i + 1) * 6
      · obtain ⟨q, rfl⟩ : ∃ q, t = i * 6 + q := ⟨t - i * 6, by omega⟩
        rw [World.cell?_setCells_in g _ (i * 6) X1 (fun j hj => by rw [cell_cur hh1, Array.getElem?_eq_getElem (by rw [hs1]; exact hsW _ (by omega))]; rfl) q (by omega),
          List.getElem?_append_left (by rw [List.length_append]; omega), List.getElem?_append_right (by omega), htk, show i * 6 + q - i * 6 = q by omega, List.getElem?_eq_getElem (by omega)]
      · obtain ⟨q, rfl⟩ : ∃ q, t = (i + 1) * 6 + q := ⟨t - (i + 1) * 6, by omega⟩
        have hq : q < (flatB (bs.drop i)).length := by omega
        rw [World.cell?_setCells_out g _ (i * 6) X1 ⟨g, (i + 1) * 6 + q, none⟩ (fun _ _ => Or.inr (by show i * 6 + _ ≤ (i + 1) * 6 + q; omega)), h1,
          World.cell?_setCells_in g _ ((i + 1) * 6) W (fun j hj => by rw [cell_cur hh, Array.getElem?_eq_getElem (hsW _ (by omega))]; rfl) q hq,
          List.getElem?_append_right (by rw [List.length_append]; omega), List.length_append, htk, hd1, show (i + 1) * 6 + q - (i * 6 + 6) = q by omega, List.getElem?_eq_getElem hq]
  · rw [List.getElem?_eq_none (by simp; omega), List.getElem?_eq_none (by rw [flatB_len, hel]; omega)]
theorem size_bd (w : World) : (Go.sizeOf 35).run Try.prog w = .ok 6 w := by kernel_rfl
theorem shape_cur {w : World} {g : Nat} {T : TypeId} {cur : Array Value} (h : w.heap[g]? = some (.cells cur T (0, 0))) : w.shape? g = some (T, cur.size) := by simp [World.shape?, h]
set_option maxRecDepth 100000 in
set_option maxHeartbeats 1600000 in
theorem ins8_room (d : Bd) (S base g n c i : Nat) (bs : List Bd) (X : World) (h : OwnB8 X base (.slice (some ⟨g, 0, none⟩) n c) n bs) (hk : Bk X S #[.int .i64 d.i, .int .i64 d.o, .int .i64 d.x, .int .i64 d.y, .int .i64 d.w, .int .i64 d.h]) (hS : S ≠ g) (hn : n ≤ 1099511627776) (hi : i < n) (hr : n + 1 ≤ c) :
    Calls Try.prog 67 #[.slice (some ⟨g, 0, none⟩) n c, .int .i64 (i : Int), .slice (some ⟨S, 0, none⟩) 1 1] X fun e z => e = .returned (.slice (some ⟨g, 0, none⟩) (n + 1) c) ∧ OwnB8 z base (.slice (some ⟨g, 0, none⟩) (n + 1) c) (n + 1) (bs.take i ++ [d] ++ bs.drop i) ∧ Below base X z := by
  obtain ⟨a', c', e, hnc, hcm, hbq, hb0⟩ := h.bq
  injection e with e1 e2 e3
  subst e1 e3
  have hcm' : c ≤ 9223372036854775807 := by unfold maxLen at hcm; omega
  have hl := h.len
  obtain ⟨TS, hSh⟩ := hk.bl
  obtain ⟨cur, hh, hs, ht⟩ : ∃ cur : Array Value, X.heap[g]? = some (.cells cur 35 (0, 0)) ∧ cur.size = c * 6 ∧ cur.toList.take (n * 6) = flatB bs := by
    rcases h.row.2 with ⟨e, _⟩ | ⟨g', cap, cur, e, _, hh, _, _, hs, ht⟩
    · cases e
    · injection e with e1 e2 e3
      injection e1 with e1
      injection e1 with e1
      subst e1 e3
      exact ⟨cur, hh, hs, ht⟩
  have hbase : base ≤ g := (hb0 g 0 rfl).1
  obtain ⟨W1, hW1⟩ : ∃ W1, W1 = X.drew.setCells g ((i + 1) * 6) (flatB (bs.drop i)) := ⟨_, rfl⟩
  have hdl : (flatB (bs.drop i)).length = (n - i) * 6 := by rw [flatB_len]; simp [hl]
  obtain ⟨cur1, hh1, hs1⟩ := setCells_heap (flatB (bs.drop i)) ((i + 1) * 6) X.drew cur hh
  rw [← hW1] at hh1
  have hov : ∀ lb cb, (callFunc 86 #[.slice (some ⟨S, 0, none⟩) 1 1, .slice (some ⟨g, (i + 1) * 6, none⟩) lb cb]).run Try.prog X = .ok (.value (.bool false)) X := fun lb cb => by
    rw [run_callFunc_extern Try.func86 (by kernel_rfl) (by kernel_rfl) (by kernel_rfl) (e := Extern.SlicesOverlaps.overlaps #[25, 25] #[4]) (by kernel_rfl),
      Lib.run_overlaps_apart X 25 4 35 Try.underlying25 6 size_bd ⟨S, 0, none⟩ ⟨g, (i + 1) * 6, none⟩ 1 1 lb cb hS TS 35 6 cur.size (shape_cur hSh) (shape_cur hh) (by omega) (froz_cur hSh _) (froz_cur hSh _)]
    rfl
  have hcp1 : ∀ ty dc sc, (Builtin.copy_ #[25, 25] ty #[.slice (some ⟨g, (i + 1) * 6, none⟩) (n - i) dc, .slice (some ⟨g, i * 6, none⟩) (n + 1 - i) sc]).run Try.prog X.drew = .ok (goInt ((n - i : Nat) : Int)) W1 := fun ty dc sc => by
    rw [hW1]
    exact run_copy_six X.drew ty g ((i + 1) * 6) (n - i) dc ⟨g, i * 6, none⟩ (n + 1 - i) sc (n - i) (flatB (bs.drop i)) (by simp only [Nat.min_def]; split <;> omega) hdl
      (fun j v hj => by
        rw [flatB_dropL, List.getElem?_drop, ← ht] at hj
        rw [Addr.add_lit]
        show X.cell? _ = _
        rw [cell_cur hh]
        rw [List.getElem?_take] at hj
        split at hj
        · rwa [Array.getElem?_toList] at hj
        · cases hj)
      (fun j hj => by show (X.cell? _).isSome = true; rw [cell_cur hh, Array.getElem?_eq_getElem (by omega)]; rfl) (fun j hj => froz_cur (w := X) hh _) (flatB_one _)
  have hcp2 : ∀ (W : World), (∀ x, W.cell? x = W1.cell? x) → (∀ x, W.frozen? x = W1.frozen? x) → ∀ ty dc, (Builtin.copy_ #[25, 25] ty #[.slice (some ⟨g, i * 6, none⟩) (n + 1 - i) dc, .slice (some ⟨S, 0, none⟩) 1 1]).run Try.prog W = .ok (goInt 1) (W.setCells g (i * 6) (flatB [d])) := fun W hWc hWf ty dc =>
    run_copy_six W ty g (i * 6) (n + 1 - i) dc ⟨S, 0, none⟩ 1 1 1 (flatB [d]) (by simp only [Nat.min_def]; split <;> omega) rfl
      (fun j v hj => by
        rw [Addr.add_lit, hWc, hW1, World.cell?_setCells_out g _ _ _ _ (fun h _ => absurd h hS)]
        show X.cell? _ = _
        rw [cell_cur hSh, Nat.zero_add]
        simpa [flatB, cells6] using hj)
      (fun j hj => by
        rw [show (flatB [d]).length = 6 from rfl] at hj
        rw [hWc, cell_cur hh1, Array.getElem?_eq_getElem (by omega)]; rfl) (fun j hj => by rw [hWf]; exact froz_cur hh1 _) (flatB_one _)
  have FIN : Hk (∀ X1 X2 : World, X1 = W1 ∨ X1 = W1.drew → X2 = X1.setCells g (i * 6) (flatB [d]) → OwnB8 X2 base (.slice (some ⟨g, 0, none⟩) (n + 1) c) (n + 1) (bs.take i ++ [d] ++ bs.drop i) ∧ Below base X X2) := by
    have hB1 : Below base X W1 := by
      rw [hW1]
      exact Lib.below_setCells g hbase _ _ (Below.refl _ _).drew
    have key : ∀ V X1 : World, V.heap = X.heap → X1 = V.setCells g ((i + 1) * 6) (flatB (bs.drop i)) → OwnB8 (X1.setCells g (i * 6) (flatB [d])) base (.slice (some ⟨g, 0, none⟩) (n + 1) c) (n + 1) (bs.take i ++ [d] ++ bs.drop i) := fun V X1 hV h1 =>
      own_ins (W := V) (by
        refine ⟨h.len, h.row.1, ?_⟩
        rcases h.row.2 with h2 | ⟨g', cap, cur, e, hg, hq, r⟩
        · exact .inl h2
        · exact .inr ⟨g', cap, cur, e, hg, by rw [hV]; exact hq, r⟩) (by omega) hr (fun j hj => by rw [cell_cur (w := V) (by rw [hV]; exact hh), Array.getElem?_eq_getElem (by omega)]; rfl) h1 rfl
    refine ⟨fun X1 X2 o e2 => ?_⟩
    subst e2
    rcases o with rfl | rfl
    · exact ⟨key X.drew _ rfl hW1, Lib.below_setCells g hbase _ _ hB1⟩
    · exact ⟨key X.drew.drew _ rfl (by rw [hW1, drew_setCells]), Lib.below_setCells g hbase _ _ hB1.drew⟩
  have hb1 : (0 : Int) ≤ (i : Int) + 1 := by omega
  have hb2 : ¬ (c = i + 1) := by omega
  have hb4 : ¬ (c = i) := by omega
  have hz2 : ¬ ((i : Int) = (n : Int)) := by omega
  have hin : i ≤ n := by omega
  have hb3 : (i : Int) ≤ (n : Int) + 1 := by omega
  have htn : ((i : Int) + 1).toNat = i + 1 := by omega
  have hw1 : IntKind.i64.wrap ((i : Int) + 1) = (i : Int) + 1 := by rw [IntKind.wrap_i64]; omega
  have mixed : Try.prog.follows Departure.mixedOrders = true := by kernel_rfl
  have HW1 := Hk.mk hW1
  clear hW1 hh1 hs1 hh hs ht hdl hbq hb0 h hk hSh
  go_enter Try.func67, Try.ntmps67
  go_wp2_with (simp only [hov])
  go_region_law_o (refine step_copy_runI rfl _ _ 25 25 rfl _ _ (by simp [Act.eval, Act.put]) (by simp [Act.eval, Act.put]) (hcp1 _ _ _) ?_)
  go_wp2_with (at_builtin; refine wpList_copy_runI _ rfl _ _ 25 25 rfl _ _ rfl rfl (hcp2 _ (fun _ => rfl) (fun _ => rfl) _ _) ?_)
  go_ret
  first
    | exact ⟨rfl, FIN.out _ _ (Or.inl rfl) rfl⟩
    | exact ⟨rfl, FIN.out _ _ (Or.inr rfl) rfl⟩
set_option maxRecDepth 100000 in
set_option maxHeartbeats 800000 in
theorem ins8_end (d : Bd) (S base g n c : Nat) (bs : List Bd) (X : World) (h : OwnB8 X base (.slice (some ⟨g, 0, none⟩) n c) n bs) (hk : Bk X S #[.int .i64 d.i, .int .i64 d.o, .int .i64 d.x, .int .i64 d.y, .int .i64 d.w, .int .i64 d.h]) (hn : n ≤ 1099511627776) (hb : base ≤ X.heap.size) :
    Calls Try.prog 67 #[.slice (some ⟨g, 0, none⟩) n c, .int .i64 (n : Int), .slice (some ⟨S, 0, none⟩) 1 1] X fun e z => ∃ v, e = .returned v ∧ OwnB8 z base v (n + 1) (bs ++ [d]) ∧ Below base X z := by
  obtain ⟨a', c', e, hnc, hcm, hbq, hb0⟩ := h.bq
  injection e with e1 e2 e3
  subst e1 e3
  have hcm' : c ≤ 9223372036854775807 := by unfold maxLen at hcm; omega
  have hl := Hk.mk h.len
  have HBk := Hk.mk hk
  have hbase : Hk (base ≤ g) := ⟨(hb0 g 0 rfl).1⟩
  obtain ⟨i0, hi, hz0, hz1, hz2⟩ := info_parts info_bd
  have hrow := Hk.mk h.row
  have hb3 : (n : Int) ≤ (c : Int) := by omega
  have hc1 : Hk (∀ (j : Nat) (u : Value), ([.int .i64 d.i, .int .i64 d.o, .int .i64 d.x, .int .i64 d.y, .int .i64 d.w, .int .i64 d.h] : List Value)[j]? = some u → X.cell? (Addr.add ⟨S, 0, none⟩ j) = some u) := by
    refine ⟨fun j u hj => ?_⟩
    rw [Addr.add_lit, Nat.zero_add, HBk.out.c j]
    simpa using hj
  have hc2 : Hk (∀ u ∈ ([.int .i64 d.i, .int .i64 d.o, .int .i64 d.x, .int .i64 d.y, .int .i64 d.w, .int .i64 d.h] : List Value), u.oneCell' = true) := by
    refine ⟨fun u hu => ?_⟩
    simp at hu
    rcases hu with rfl | rfl | rfl | rfl | rfl | rfl <;> rfl
  have hcn : n ≤ c := hnc
  have FIN : Hk (∀ v z, z.ownsRow base 35 6 v (n + 1) (flatB bs ++ ([.int .i64 d.i, .int .i64 d.o, .int .i64 d.x, .int .i64 d.y, .int .i64 d.w, .int .i64 d.h] : List Value)) → X.grownBy z (some g) → OwnB8 z base v (n + 1) (bs ++ [d]) ∧ Below base X z) :=
    ⟨fun v z ho hg => ⟨⟨by simp [hl.out], by rw [flatB_app]; simpa [flatB, cells6] using ho⟩, (Below.refl _ _).grown hg hb (fun k hk => by injection hk with hk; rw [← hk]; exact hbase.out)⟩⟩
  clear hbq hb0 h hk
  go_enter Try.func67, Try.ntmps67
  go_wp2_with (at_builtin; go_must (refine wpList_append_own _ rfl _ _ 25 rfl base 35 i0 (.agg #[.int .i64 0, .int .i64 0, .int .i64 0, .int .i64 0, .int .i64 0, .int .i64 0]) 6 48 Try.underlying25 hi hz0 hz1 hz2 rfl (by decide) _ n (flatB bs) rfl hrow.out ⟨S, 0, none⟩ 1 1 [.int .i64 d.i, .int .i64 d.o, .int .i64 d.x, .int .i64 d.y, .int .i64 d.w, .int .i64 d.h] rfl rfl hc1.out hc2.out (by unfold maxLen; omega) (by omega) hb ?_); intro v z hown2 hgrow hnil; have HF := Hk.mk (FIN.out v z hown2 hgrow); clear hnil hown2 hgrow)
  all_goals
    go_ret
    exact ⟨_, rfl, HF.out.1, HF.out.2⟩
/-- What the new block holds where there was no room: what stood ahead, then the one, then the rest. -/
theorem own_ins_new {W X1 V X2 : World} {base g n c i : Nat} {bs : List Bd} {d : Bd} {ROW : Array Value} (hl : bs.length = n) (hi : i ≤ n) (hr : n + 1 ≤ c) (hcm : c ≤ maxLen) (hbg : base ≤ g) (hh : W.heap[g]? = some (.cells ROW 35 (0, 0))) (hs : ROW.size = c * 6)
    (hR : ∀ t, t < i * 6 → ROW[t]? = (flatB bs)[t]?) (h1 : X1 = W.setCells g (i * 6) (flatB [d])) (hV : V.heap = X1.heap) (h2 : X2 = V.setCells g ((i + 1) * 6) (flatB (bs.drop i))) :
    OwnB8 X2 base (.slice (some ⟨g, 0, none⟩) (n + 1) c) (n + 1) (bs.take i ++ [d] ++ bs.drop i) := by
  have hel : (bs.take i ++ [d] ++ bs.drop i).length = n + 1 := by simp; omega
  obtain ⟨cur1, hh1, hs1⟩ := setCells_heap (flatB [d]) (i * 6) W ROW hh
  rw [← h1] at hh1
  have hhV : V.heap[g]? = some (.cells cur1 35 (0, 0)) := by rw [hV]; exact hh1
  obtain ⟨cur2, hh2, hs2⟩ := setCells_heap (flatB (bs.drop i)) ((i + 1) * 6) V cur1 hhV
  rw [← h2] at hh2
  have hdl : (flatB (bs.drop i)).length = (n - i) * 6 := by rw [flatB_len]; simp [hl]
  have hd1 : (flatB [d]).length = 6 := by rw [flatB_len]; rfl
  refine ⟨hel, by rw [flatB_len, hel], Or.inr ⟨g, c, cur2, rfl, hbg, hh2, by omega, hcm, by omega, ?_⟩⟩
  apply List.ext_getElem?
  intro t
  have htk : ((flatB bs).take (i * 6)).length = i * 6 := by rw [List.length_take, flatB_len]; omega
  by_cases htl : t < (n + 1) * 6
  · rw [List.getElem?_take_of_lt htl, Array.getElem?_toList, ← cell_cur hh2 t, h2, flatB_app, flatB_app, flatB_takeL]
    by_cases hti : t < (i + 1) * 6
    · rw [World.cell?_setCells_out g _ ((i + 1) * 6) V ⟨g, t, none⟩ (fun _ _ => Or.inl hti), cell_cur hhV, ← cell_cur hh1, h1, List.getElem?_append_left (by rw [List.length_append]; omega)]
      by_cases htj : t < i * 6
      · rw [World.cell?_setCells_out g _ (i * 6) W ⟨g, t, none⟩ (fun _ _ => Or.inl htj), cell_cur hh, List.getElem?_append_left (by omega), List.getElem?_take_of_lt htj, hR t htj]
      · obtain ⟨q, rfl⟩ : ∃ q, t = i * 6 + q := ⟨t - i * 6, by omega⟩
        rw [World.cell?_setCells_in g _ (i * 6) W (fun j hj => by rw [cell_cur hh, Array.getElem?_eq_getElem (by omega)]; rfl) q (by omega),
          List.getElem?_append_right (by omega), htk, show i * 6 + q - i * 6 = q by omega, List.getElem?_eq_getElem (by omega)]
    · obtain ⟨q, rfl⟩ : ∃ q, t = (i + 1) * 6 + q := ⟨t - (i + 1) * 6, by omega⟩
      have hq : q < (flatB (bs.drop i)).length := by omega
      rw [World.cell?_setCells_in g _ ((i + 1) * 6) V (fun j hj => by rw [cell_cur hhV, Array.getElem?_eq_getElem (by omega)]; rfl) q hq,
        List.getElem?_append_right (by rw [List.length_append]; omega), List.length_append, htk, hd1, show (i + 1) * 6 + q - (i * 6 + 6) = q by omega, List.getElem?_eq_getElem hq]
  · rw [List.getElem?_eq_none (by simp; omega), List.getElem?_eq_none (by rw [flatB_len, hel]; omega)]
theorem drewSet_cell (X : World) (o : Obj) (b k : Nat) (L : List Value) : ∀ x, (((X.alloc o).drew.setCells b k L).drew).cell? x = ((X.drew.alloc o).setCells b k L).cell? x := fun x => rfl
theorem drewSet_froz (X : World) (o : Obj) (b k : Nat) (L : List Value) : ∀ x, (((X.alloc o).drew.setCells b k L).drew).frozen? x = ((X.drew.alloc o).setCells b k L).frozen? x := fun x => rfl
set_option maxRecDepth 100000 in
set_option maxHeartbeats 1600000 in
theorem ins8_grow (d : Bd) (S base g n c i : Nat) (bs : List Bd) (X : World) (h : OwnB8 X base (.slice (some ⟨g, 0, none⟩) n c) n bs) (hk : Bk X S #[.int .i64 d.i, .int .i64 d.o, .int .i64 d.x, .int .i64 d.y, .int .i64 d.w, .int .i64 d.h]) (hn : n ≤ 1099511627776) (hb : base ≤ X.heap.size) (hi : i < n) (hr : c < n + 1) :
    Calls Try.prog 67 #[.slice (some ⟨g, 0, none⟩) n c, .int .i64 (i : Int), .slice (some ⟨S, 0, none⟩) 1 1] X fun e z => ∃ v, e = .returned v ∧ OwnB8 z base v (n + 1) (bs.take i ++ [d] ++ bs.drop i) ∧ Below base X z := by
  obtain ⟨a', c', e, hnc, hcm, hbq, hb0⟩ := h.bq
  injection e with e1 e2 e3
  subst e1 e3
  have hcm' : c ≤ 9223372036854775807 := by unfold maxLen at hcm; omega
  have hl := h.len
  obtain ⟨TS, hSh⟩ := hk.bl
  obtain ⟨cur, hh, hs, ht⟩ : ∃ cur : Array Value, X.heap[g]? = some (.cells cur 35 (0, 0)) ∧ cur.size = c * 6 ∧ cur.toList.take (n * 6) = flatB bs := by
    rcases h.row.2 with ⟨e, _⟩ | ⟨g', cap, cur, e, _, hh, _, _, hs, ht⟩
    · cases e
    · injection e with e1 e2 e3
      injection e1 with e1
      injection e1 with e1
      subst e1 e3
      exact ⟨cur, hh, hs, ht⟩
  obtain ⟨i0, hi0, hz0, hz1, hz2⟩ := info_parts info_bd
  have hfl : (flatB bs).length = n * 6 := by rw [flatB_len, hl]
  have hct : ∀ t, t < n * 6 → cur[t]? = (flatB bs)[t]? := fun t h => by rw [← ht, List.getElem?_take_of_lt h, Array.getElem?_toList]
  have hold : (Builtin.firstCells i0.size i (.slice (some ⟨g, 0, none⟩) i c)).run Try.prog X.drew = .ok (flatB (bs.take i)).toArray X.drew := by
    rw [hz1]
    exact run_firstCells_some X.drew 6 i ⟨g, 0, none⟩ i c (flatB (bs.take i)) (by rw [flatB_len]; simp; omega) (fun j v hj => by
      rw [Addr.add_lit, Nat.zero_add]
      show X.cell? _ = _
      rw [flatB_takeL, List.getElem?_take] at hj
      split at hj
      · rw [cell_cur hh, hct j (by omega)]; exact hj
      · cases hj)
  have hik : i + (n + 1 - i) = n + 1 := by omega
  have hrz : ∀ ty, (Builtin.append_ #[25, 3] ty #[.slice (some ⟨g, 0, none⟩) i c, .int .i64 ((n : Int) + 1 - (i : Int))]).run Try.prog X =
      .ok (.slice (some ⟨X.heap.size, 0, none⟩) (n + 1) (grownCap X (n + 1) c 35)) (X.drew.alloc (.cells ((flatB (bs.take i)).toArray ++ Builtin.zeroCells (Value.cells (.agg #[.int .i64 0, .int .i64 0, .int .i64 0, .int .i64 0, .int .i64 0, .int .i64 0])) (n + 1 - i) ++ Builtin.zeroCells (Value.cells (.agg #[.int .i64 0, .int .i64 0, .int .i64 0, .int .i64 0, .int .i64 0, .int .i64 0])) (grownCap X (n + 1) c 35 - (n + 1))) 35)) := fun ty => by
    have h := Lib.run_append_grow_zeros X 25 3 ty 35 i0 _ .i64 .i64 Try.underlying25 Try.underlying3 hi0 hz0 (some ⟨g, 0, none⟩) i c (flatB (bs.take i)) hold (n + 1 - i) (by omega) (by omega) (by omega) (by omega) (by rw [hz2]; omega) (by rw [hz2, hik]; exact growslice_fits hr (by omega))
    rw [hik] at h
    rw [show (n : Int) + 1 - (i : Int) = ((n + 1 - i : Nat) : Int) by omega]
    exact h
  obtain ⟨G, hG⟩ : ∃ G, G = grownCap X (n + 1) c 35 := ⟨_, rfl⟩
  obtain ⟨ROW, hROW⟩ : ∃ ROW : Array Value, ROW = (flatB (bs.take i)).toArray ++ Builtin.zeroCells (Value.cells (.agg #[.int .i64 0, .int .i64 0, .int .i64 0, .int .i64 0, .int .i64 0, .int .i64 0])) (n + 1 - i) ++ Builtin.zeroCells (Value.cells (.agg #[.int .i64 0, .int .i64 0, .int .i64 0, .int .i64 0, .int .i64 0, .int .i64 0])) (G - (n + 1)) := ⟨_, rfl⟩
  rw [← hG] at hrz
  rw [← hROW] at hrz
  have hGn : n + 1 ≤ G := by rw [hG]; exact grownCap_ge X _ _ _
  have hGm : G ≤ maxLen := by rw [hG]; exact grownCap_le_maxLen X (n + 1) c 35 (by unfold maxLen; omega)
  have hG63 : G ≤ 9223372036854775807 := by unfold maxLen at hGm; omega
  have htl : (flatB (bs.take i)).length = i * 6 := by rw [flatB_len]; simp; omega
  have hRs : ROW.size = G * 6 := by
    rw [hROW]
    simp [Builtin.zeroCells, Value.cells, htl]
    omega
  have hRt : ∀ t, t < i * 6 → ROW[t]? = (flatB bs)[t]? := fun t h => by
    rw [hROW, Array.getElem?_append_left (by simp [htl]; omega), Array.getElem?_append_left (by simp [htl]; omega), List.getElem?_toArray, flatB_takeL, List.getElem?_take_of_lt h]
  obtain ⟨W1, hW1⟩ : ∃ W1, W1 = X.drew.alloc (.cells ROW 35) := ⟨_, rfl⟩
  rw [← hW1] at hrz
  have hgX : g < X.heap.size := lt_of_block hh
  have hSX : S < X.heap.size := lt_of_block hSh
  have hgN : g ≠ X.heap.size := by omega
  have hSN : S ≠ X.heap.size := by omega
  have hhN : W1.heap[X.heap.size]? = some (.cells ROW 35 (0, 0)) := by rw [hW1]; show (X.heap.push _)[X.heap.size]? = _; exact Array.getElem?_push_size
  have hOld : ∀ b j, b < X.heap.size → W1.cell? ⟨b, j, none⟩ = X.cell? ⟨b, j, none⟩ := fun b j hb => by rw [hW1, World.cell?_alloc_past (w := X.drew) _ b j hb]; rfl
  obtain ⟨L1, hL1⟩ : ∃ L1, L1 = flatB [d] := ⟨_, rfl⟩
  obtain ⟨cur1, hh1, hs1⟩ := setCells_heap L1 (i * 6) W1 ROW hhN
  have hd1 : L1.length = 6 := by rw [hL1, flatB_len]; rfl
  have hdl : (flatB (bs.drop i)).length = (n - i) * 6 := by rw [flatB_len]; simp [hl]
  have hcpA : ∀ (W : World), (∀ x, W.cell? x = W1.cell? x) → (∀ x, W.frozen? x = W1.frozen? x) → ∀ ty dc, (Builtin.copy_ #[25, 25] ty #[.slice (some ⟨X.heap.size, i * 6, none⟩) (n + 1 - i) dc, .slice (some ⟨S, 0, none⟩) 1 1]).run Try.prog W = .ok (goInt 1) (W.setCells X.heap.size (i * 6) L1) := fun W hWc hWf ty dc =>
    run_copy_six W ty X.heap.size (i * 6) (n + 1 - i) dc ⟨S, 0, none⟩ 1 1 1 L1 (by simp only [Nat.min_def]; split <;> omega) hd1
      (fun j v hj => by
        rw [Addr.add_lit, hWc, hOld _ _ hSX, cell_cur hSh, Nat.zero_add]
        rw [hL1] at hj
        simpa [flatB, cells6] using hj)
      (fun j hj => by rw [hWc, cell_cur hhN, Array.getElem?_eq_getElem (by omega)]; rfl) (fun j hj => by rw [hWf]; exact froz_cur hhN _) (by rw [hL1]; exact flatB_one _)
  have hcpB : ∀ (W : World), (∀ x, W.cell? x = (W1.setCells X.heap.size (i * 6) L1).cell? x) → (∀ x, W.frozen? x = (W1.setCells X.heap.size (i * 6) L1).frozen? x) → ∀ ty dc sc, (Builtin.copy_ #[25, 25] ty #[.slice (some ⟨X.heap.size, (i + 1) * 6, none⟩) (n - i) dc, .slice (some ⟨g, i * 6, none⟩) (n - i) sc]).run Try.prog W = .ok (goInt ((n - i : Nat) : Int)) (W.setCells X.heap.size ((i + 1) * 6) (flatB (bs.drop i))) := fun W hWc hWf ty dc sc =>
    run_copy_six W ty X.heap.size ((i + 1) * 6) (n - i) dc ⟨g, i * 6, none⟩ (n - i) sc (n - i) (flatB (bs.drop i)) (by simp only [Nat.min_def]; split <;> omega) hdl
      (fun j v hj => by
        rw [Addr.add_lit, hWc, World.cell?_setCells_out _ _ _ _ _ (fun h _ => absurd h hgN), hOld _ _ hgX, cell_cur hh]
        rw [flatB_dropL, List.getElem?_drop] at hj
        have hlt : i * 6 + j < n * 6 := by
          have := (List.getElem?_eq_some_iff.1 hj).1
          omega
        rw [hct _ hlt]
        exact hj)
      (fun j hj => by rw [hWc, cell_cur hh1, Array.getElem?_eq_getElem (by omega)]; rfl) (fun j hj => by rw [hWf]; exact froz_cur hh1 _) (flatB_one _)
  have FIN : Hk (∀ X1 V X2 : World, X1 = (X.drew.alloc (.cells ROW 35)).setCells X.heap.size (i * 6) L1 ∨ X1 = (X.alloc (.cells ROW 35)).drew.setCells X.heap.size (i * 6) L1 → V = X1 ∨ V = X1.drew → X2 = V.setCells X.heap.size ((i + 1) * 6) (flatB (bs.drop i)) → OwnB8 X2 base (.slice (some ⟨X.heap.size, 0, none⟩) (n + 1) G) (n + 1) (bs.take i ++ [d] ++ bs.drop i) ∧ Below base X X2) := by
    have hBa : Below base X (X.drew.alloc (.cells ROW 35)) := (Below.refl base X).drew.alloc hb _
    have hBb : Below base X (X.alloc (.cells ROW 35)).drew := ((Below.refl base X).alloc hb _).drew
    have hA : (X.drew.alloc (.cells ROW 35)).heap[X.heap.size]? = some (.cells ROW 35 (0, 0)) := by rw [← hW1]; exact hhN
    refine ⟨fun X1 V X2 o o2 e2 => ?_⟩
    subst e2
    have hV : V.heap = X1.heap := by rcases o2 with rfl | rfl <;> rfl
    have hBV : Below base X X1 → Below base X V := fun q => by
      rcases o2 with rfl | rfl
      · exact q
      · exact q.drew
    rcases o with e1 | e1
    · exact ⟨own_ins_new hl (by omega) hGn hGm hb hA hRs hRt (by rw [← hL1]; exact e1) hV rfl, Lib.below_setCells _ hb _ _ (hBV (by rw [e1]; exact Lib.below_setCells _ hb _ _ hBa))⟩
    · exact ⟨own_ins_new (W := (X.alloc (.cells ROW 35)).drew) hl (by omega) hGn hGm hb hA hRs hRt (by rw [← hL1]; exact e1) hV rfl, Lib.below_setCells _ hb _ _ (hBV (by rw [e1]; exact Lib.below_setCells _ hb _ _ hBb))⟩
  clear hL1
  have hz2 : ¬ ((i : Int) = (n : Int)) := by omega
  have hz3 : (c : Int) < (n : Int) + 1 := by omega
  have hGi : ¬ (G = i) := by omega
  have hGim : ¬ (G = i + 1) := by omega
  have hci : ¬ (c = i) := by omega
  subst hW1
  have hE1 : ∀ x, ((X.alloc (.cells ROW 35)).drew).cell? x = (X.drew.alloc (.cells ROW 35)).cell? x := fun x => rfl
  have hE2 : ∀ x, ((X.alloc (.cells ROW 35)).drew).frozen? x = (X.drew.alloc (.cells ROW 35)).frozen? x := fun x => rfl
  have hF1 : ∀ x, (((X.alloc (.cells ROW 35)).drew.setCells X.heap.size (i * 6) L1).drew).cell? x = ((X.drew.alloc (.cells ROW 35)).setCells X.heap.size (i * 6) L1).cell? x := drewSet_cell X _ _ _ _
  have hF2 : ∀ x, (((X.alloc (.cells ROW 35)).drew.setCells X.heap.size (i * 6) L1).drew).frozen? x = ((X.drew.alloc (.cells ROW 35)).setCells X.heap.size (i * 6) L1).frozen? x := drewSet_froz X _ _ _ _
  have hw1 : IntKind.i64.wrap ((i : Int) + 1) = (i : Int) + 1 := by rw [IntKind.wrap_i64]; omega
  have hb1 : (0 : Int) ≤ (i : Int) + 1 := by omega
  have hin : i ≤ n := by omega
  have htn : ((i : Int) + 1).toNat = i + 1 := by omega
  have hb3 : (i : Int) ≤ (n : Int) := by omega
  have mixed : Try.prog.follows Departure.mixedOrders = true := by kernel_rfl
  clear hik hold hROW hG hRs hRt hct hfl ht hs hh hSh hbq hb0 h hk hhN hOld hh1 hs1 cur1 hd1 hdl htl
  go_enter Try.func67, Try.ntmps67
  go_wp2_with (first
    | (at_builtin; refine Lib.wpList_append_run _ rfl _ _ _ _ rfl _ _ rfl rfl _ _ (hrz _) ?_)
    | (at_builtin; refine wpList_copy_runI _ rfl _ _ 25 25 rfl _ _ rfl rfl (hcpA _ hE1 hE2 _ _) ?_)
    | (at_builtin; refine wpList_copy_runI _ rfl _ _ 25 25 rfl _ _ rfl rfl (hcpB _ (fun _ => rfl) (fun _ => rfl) _ _ _) ?_))
  first
    | (go_region_law_o (refine step_copy_runI rfl _ _ 25 25 rfl (.slice (some ⟨X.heap.size, (i + 1) * 6, none⟩) (n - i) (G - (i + 1))) (.slice (some ⟨g, i * 6, none⟩) (n - i) (c - i)) (by simp [Act.eval, Act.put]) (by simp [Act.eval, Act.put]) (hcpB _ hF1 hF2 3 (G - (i + 1)) (c - i)) ?_); go_wp2; go_ret)
    | go_ret
  first
    | exact ⟨_, rfl, FIN.out _ _ _ (Or.inl rfl) (Or.inl rfl) rfl⟩
    | exact ⟨_, rfl, FIN.out _ _ _ (Or.inl rfl) (Or.inr rfl) rfl⟩
    | exact ⟨_, rfl, FIN.out _ _ _ (Or.inr rfl) (Or.inl rfl) rfl⟩
    | exact ⟨_, rfl, FIN.out _ _ _ (Or.inr rfl) (Or.inr rfl) rfl⟩
end Go.Proofs.Ytjjodfdmbiebnaa
/- Layer 8: one of a list of buildings taken away: the reference's Drop, and package build's. -/
namespace Go.Proofs.Ytjjodfdmbiebnaa
open Go.RowKit Go.Deep
set_option linter.unusedVariables false
set_option linter.unusedSimpArgs false
theorem OwnB8.form {w : World} {base n : Nat} {v : Value} {bs : List Bd} (h : OwnB8 w base v n bs) (hn : 0 < n) : ∃ g c, v = .slice (some ⟨g, 0, none⟩) n c ∧ base ≤ g := by
  rcases h.row.2 with ⟨_, h0⟩ | ⟨g, cap, cur, e, hg, _⟩
  · omega
  · exact ⟨g, cap, e, hg⟩
theorem bq_tail {w : World} {B n b off i : Nat} {bs : List Bd} (h : Bq w B (some ⟨b, off, none⟩) n bs) (hi : i ≤ n) : Bq w B (some ⟨b, off + i * 6, none⟩) (n - i) (bs.drop i) :=
  ⟨by simp [h.len], fun hp => by
    obtain ⟨b', off', e, hlt, hc⟩ := h.rd (by omega)
    injection e with e
    injection e with e1 e2
    subst e1 e2
    refine ⟨b, off + i * 6, rfl, hlt, fun k hk q hq => ?_⟩
    have := hc (i + k) (by omega) q hq
    rw [show off + (i + k) * 6 + q = off + i * 6 + k * 6 + q by omega] at this
    rw [this]
    simp [List.getD]⟩
theorem bq_head {w : World} {B n i : Nat} {a : Option Addr} {bs : List Bd} (h : Bq w B a n bs) (hi : i ≤ n) : Bq w B a i (bs.take i) :=
  ⟨by simp [h.len]; omega, fun hp => by
    obtain ⟨b, off, e, hlt, hc⟩ := h.rd (by omega)
    refine ⟨b, off, e, hlt, fun k hk q hq => ?_⟩
    rw [getD_takeB hk]
    exact hc k (by omega) q hq⟩
set_option maxRecDepth 100000 in
theorem rdrop_no (a : Option Addr) (n c B : Nat) (bs : List Bd) (id : Int) (w : World) (h : Bq w B a n bs) (hB : B ≤ w.heap.size) (hn : n ≤ 1099511627776) (hnc : n ≤ c) (hcc : c ≤ 9223372036854775807) (hid : Hk (∀ k, k < n → (bs.getD k default).i ≠ id)) :
    Calls Try.prog 25 #[.slice a n c, .int .i64 id] w fun e w' => e = .returned (.tuple #[.slice none 0 0, .bool false]) ∧ Below w.heap.size w w' := by
  have HH := Hk.mk h
  clear h
  go_enter Try.func25, Try.ntmps25
  go_wp2
  go_loop [6] (fun i => ∃ k : Nat, i = .int .i64 k ∧ k ≤ n) (fun i => n - (intOf i).toNat)
  case atStart => exact ⟨0, rfl, Nat.zero_le _⟩
  case round =>
    obtain ⟨k, rfl, hk⟩ := hrel
    by_cases hlt : k < n
    · obtain ⟨b, off, rfl, hbl, p0, p1, p2, p3, p4, p5⟩ := HH.out.six hlt
      have hne := hid.out k hlt
      generalize bs.getD k default = e at *
      have t0 : (0 : Int) ≤ (k : Int) := by omega
      have t1 : (k : Int) < (n : Int) := by omega
      have de : (e.i == id) = false := by simpa using hne
      go_wp2
      go_round
      case rel => exact ⟨k + 1, by go_num, by omega⟩
      case measure => simp [intOf]; omega
    · go_wp2
      go_ret2
      exact ⟨rfl, Below.refl _ _⟩
set_option maxRecDepth 100000 in
set_option maxHeartbeats 800000 in
theorem rdrop_yes (a : Option Addr) (n c B : Nat) (bs : List Bd) (id : Int) (w : World) (h : Bq w B a n bs) (hB : B ≤ w.heap.size) (hn : n ≤ 1099511627776) (hnc : n ≤ c) (hcc : c ≤ 9223372036854775807) (k0 : Nat) (hk0 : k0 < n) (hat : Hk ((bs.getD k0 default).i = id)) (hid : Hk (∀ k, k < k0 → (bs.getD k default).i ≠ id)) :
    Calls Try.prog 25 #[.slice a n c, .int .i64 id] w fun e w' => ∃ v, e = .returned (.tuple #[v, .bool true]) ∧ OwnB8 w' w.heap.size v (n - 1) (bs.take k0 ++ bs.drop (k0 + 1)) ∧ Below w.heap.size w w' := by
  obtain ⟨i0, hi, hz0, hz1, hz2⟩ := info_parts info_bd
  have HH := Hk.mk h
  have HL := Hk.mk h.len
  clear h
  go_enter Try.func25, Try.ntmps25
  go_wp2
  go_loop [6] (fun i => ∃ k : Nat, i = .int .i64 k ∧ k ≤ k0) (fun i => n - (intOf i).toNat)
  case atStart => exact ⟨0, rfl, Nat.zero_le _⟩
  case round =>
    obtain ⟨k, rfl, hk⟩ := hrel
    have hlt : k < n := by omega
    obtain ⟨b, off, rfl, hbl, p0, p1, p2, p3, p4, p5⟩ := HH.out.six hlt
    have t0 : (0 : Int) ≤ (k : Int) := by omega
    have t1 : (k : Int) < (n : Int) := by omega
    by_cases hkk : k = k0
    · subst hkk
      have hae := hat.out
      obtain ⟨e, he⟩ : ∃ e, bs.getD k default = e := ⟨_, rfl⟩
      rw [he] at p0 p1 p2 p3 p4 p5 hae
      have de : (e.i == id) = true := by simpa using hae
      clear he hae
      have t2 : (k : Int) ≤ (c : Int) := by omega
      have t3 : (0 : Int) ≤ (k : Int) + 1 := by omega
      have t4 : (k : Int) + 1 ≤ (n : Int) := by omega
      have HQH := Hk.mk (bq_head HH.out (i := k) (by omega))
      obtain ⟨A, hA, hnw⟩ : ∃ A : Addr, (if c = k + 1 then some (⟨b, off, none⟩ : Addr) else some ⟨b, off + (k + 1) * 6, none⟩) = some A ∧ Hk (∀ X, Below w.heap.size w X → ∀ j u, (flatB (bs.drop (k + 1)))[j]? = some u → X.cell? (A.add j) = some u) := by
        by_cases hci : c = k + 1
        · refine ⟨⟨b, off, none⟩, by simp [hci], ⟨fun X hX j u hu => ?_⟩⟩
          have : bs.drop (k + 1) = [] := List.drop_eq_nil_of_le (by rw [HL.out]; omega)
          rw [this] at hu
          simp [flatB] at hu
        · exact ⟨⟨b, off + (k + 1) * 6, none⟩, by simp [hci], ⟨fun X hX => bq_news ((bq_tail HH.out (i := k + 1) (by omega)).below hX hB)⟩⟩
      have HLN : Hk ((flatB (bs.drop (k + 1))).length = (n - (k + 1)) * 6) := ⟨by rw [flatB_len]; simp [HL.out]⟩
      have HN1 : Hk (k + (n - (k + 1)) = n - 1) := ⟨by omega⟩
      go_wp2_with (first
        | (go_at_call 15; (with_reducible refine (copyb_any _ k c B (bs.take k) _ HQH.out hB (by omega)).mono ?_); rintro e' z ⟨v, rfl, ho, hb⟩; have HO := Hk.mk ho; have HB := Hk.mk hb; clear ho hb)
        | (at_builtin; go_must (refine wpList_append_own _ rfl _ _ 25 rfl w.heap.size 35 i0 (.agg #[.int .i64 0, .int .i64 0, .int .i64 0, .int .i64 0, .int .i64 0, .int .i64 0]) 6 48 Try.underlying25 hi hz0 hz1 hz2 rfl (by decide) _ k (flatB (bs.take k)) rfl HO.out.row A (n - (k + 1)) (c - (k + 1)) (flatB (bs.drop (k + 1))) rfl HLN.out (hnw.out _ HB.out) (flatB_one _) (by unfold maxLen; omega) (by omega) HB.out.size ?_)))
      intro v2 z2 hown2 hgrow hnil
      clear hnil
      have HO2 : Hk (OwnB8 z2 w.heap.size v2 (n - 1) (bs.take k ++ bs.drop (k + 1))) := ⟨⟨by simp [HL.out]; omega, by rw [flatB_app, ← HN1.out]; exact hown2⟩⟩
      have HB2 : Hk (Below w.heap.size w z2) := ⟨HB.out.grown hgrow HB.out.size (fun g hg => (HO.out.lt g hg).1)⟩
      clear hown2 hgrow
      go_wp2
      go_ret2
      exact ⟨_, rfl, HO2.out, HB2.out⟩
    · have hne := hid.out k (by omega)
      generalize bs.getD k default = e at *
      have de : (e.i == id) = false := by simpa using hne
      go_wp2
      go_round
      case rel => exact ⟨k + 1, by go_num, by omega⟩
      case measure => simp [intOf]; omega
set_option maxRecDepth 100000 in
theorem drop_form (a : Option Addr) (n c B : Nat) (bs : List Bd) (id : Int) (w : World) (h : Bq w B a n bs) (hB : B ≤ w.heap.size) (hn : n ≤ 1099511627776) (hnc : n ≤ c) (hcc : c ≤ 9223372036854775807) (HA : Hk (¬ ascB bs)) :
    Calls Try.prog 26 #[.slice a n c, .int .i64 id] w fun e w' => e = .returned (.tuple #[.slice none 0 0, .int .i64 1]) ∧ Below w.heap.size w w' := by
  have HH := Hk.mk h
  clear h
  go_enter Try.func26, Try.ntmps26
  go_wp2_with (go_at_call 69; (with_reducible refine (asc8_no a n c B bs _ HH.out hn HA).mono ?_); rintro e z ⟨rfl, m, rfl⟩)
  go_ret2
  exact ⟨rfl, below_drewN (Below.refl _ _) _⟩
set_option maxRecDepth 100000 in
theorem drop_none (a : Option Addr) (n c B : Nat) (bs : List Bd) (id : Int) (w : World) (h : Bq w B a n bs) (hB : B ≤ w.heap.size) (hn : n ≤ 1099511627776) (hnc : n ≤ c) (hcc : c ≤ 9223372036854775807) (HA : Hk (ascB bs)) (hid : Hk (∀ k, k < n → (bs.getD k default).i ≠ id)) :
    Calls Try.prog 26 #[.slice a n c, .int .i64 id] w fun e w' => e = .returned (.tuple #[.slice none 0 0, .int .i64 3]) ∧ Below w.heap.size w w' := by
  have HH := Hk.mk h
  clear h
  go_enter Try.func26, Try.ntmps26
  go_upto_region 4 with (first | (go_at_call 69; (with_reducible refine (asc8_yes a n c B bs _ HH.out hn HA).mono ?_); rintro e z ⟨rfl, m, rfl⟩) | (go_at_call 60; have HBm : B ≤ (w.drewN m).heap.size := hB; (with_reducible refine (place_any a n c B bs id _ (HH.out.drewN m) HBm hn HA.out).mono ?_); clear HBm; rintro e z ⟨⟨i, d, rfl, hd, k1, k2, k3⟩, hb⟩; have HD := Hk.mk hd; have H2 := Hk.mk k2; have H3 := Hk.mk k3; have HB : Hk (Below w.heap.size w z) := ⟨(below_drewN (Below.refl w.heap.size w) m).trans hb⟩; clear hd k2 k3 hb))
  cases d
  case true => exact absurd (HD.out.1 rfl).2 (hid.out i (HD.out.1 rfl).1)
  clear HD H2 H3
  go_wp2_with fail
  go_ret2
  exact ⟨rfl, HB.out⟩
set_option maxRecDepth 100000 in
theorem drop_yes (a : Option Addr) (n c B : Nat) (bs : List Bd) (id : Int) (w : World) (h : Bq w B a n bs) (hB : B ≤ w.heap.size) (hn : n ≤ 1099511627776) (hnc : n ≤ c) (hcc : c ≤ 9223372036854775807) (HA : Hk (ascB bs)) (k0 : Nat) (hk0 : k0 < n) (hat : Hk ((bs.getD k0 default).i = id)) :
    Calls Try.prog 26 #[.slice a n c, .int .i64 id] w fun e w' => ∃ v, e = .returned (.tuple #[v, .int .i64 0]) ∧ OwnB8 w' w.heap.size v (n - 1) (bs.take k0 ++ bs.drop (k0 + 1)) ∧ Below w.heap.size w w' := by
  have HH := Hk.mk h
  have HL := Hk.mk h.len
  clear h
  go_enter Try.func26, Try.ntmps26
  go_upto_region 4 with (first | (go_at_call 69; (with_reducible refine (asc8_yes a n c B bs _ HH.out hn HA).mono ?_); rintro e z ⟨rfl, m, rfl⟩) | (go_at_call 60; have HBm : B ≤ (w.drewN m).heap.size := hB; (with_reducible refine (place_any a n c B bs id _ (HH.out.drewN m) HBm hn HA.out).mono ?_); clear HBm; rintro e z ⟨⟨i, d, rfl, hd, k1, k2, k3⟩, hb⟩; have HD := Hk.mk hd; have H2 := Hk.mk k2; have H3 := Hk.mk k3; have HB : Hk (Below w.heap.size w z) := ⟨(below_drewN (Below.refl w.heap.size w) m).trans hb⟩; clear hd k2 k3 hb))
  have hik : i = k0 := by
    have h1 : k0 < i → False := fun hc => by have := H2.out k0 hc; have := hat.out; omega
    have h2 : i < k0 → False := fun hc => by
      have h5 := H3.out i (Nat.le_refl _) (by omega)
      obtain ⟨d', hd'⟩ : ∃ d', k0 = i + d' + 1 := ⟨k0 - i - 1, by omega⟩
      have h6 := asc_lt HA.out d' i (by rw [HL.out]; omega)
      rw [← hd'] at h6
      have := hat.out
      omega
    rcases Nat.lt_trichotomy i k0 with h | h | h
    · exact (h2 h).elim
    · exact h
    · exact (h1 h).elim
  subst hik
  have hdt : d = true := HD.out.2 ⟨hk0, hat.out⟩
  subst hdt
  clear HD H2 H3
  have HQ : Hk (Bq z B a n bs) := ⟨HH.out.below HB.out hB⟩
  have HBz : Hk (B ≤ z.heap.size) := ⟨by have := HB.out.size; omega⟩
  go_wp2_with (first
    | (go_at_call 68; (with_reducible refine (clone8_any a n c B bs _ HQ.out HBz.out hn).mono ?_); rintro e z2 ⟨v, rfl, ho, hb2⟩; obtain ⟨g, cv, rfl, hgb⟩ := ho.form (by omega); have HO := Hk.mk ho; have HB2 := Hk.mk (HB.out.trans (hb2.mono HB.out.size)); have HGB : Hk (w.heap.size ≤ z.heap.size) := ⟨HB.out.size⟩; clear ho hb2 hgb)
    | (go_at_call 70; (with_reducible refine (del8 z.heap.size g n cv i bs _ HO.out hn hk0).mono ?_); rintro e z3 ⟨rfl, ho3, hb3⟩; have HO3 := Hk.mk (ho3.weak HGB.out); have HB3 := Hk.mk (HB2.out.trans (hb3.mono HGB.out)); clear ho3 hb3))
  go_ret2
  exact ⟨_, rfl, HO3.out, HB3.out⟩
theorem own8_bq {w : World} {base n c : Nat} {a : Option Addr} {bs : List Bd} (h : OwnB8 w base (.slice a n c) n bs) : Bq w w.heap.size a n bs := by
  obtain ⟨a', c', e, _, _, hq, _⟩ := h.bq
  injection e with e1 e2 e3
  subst e1
  exact hq
end Go.Proofs.Ytjjodfdmbiebnaa
