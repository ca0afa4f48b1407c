import Derived.Test.YtifnmgbeepgfiaaCn
import Derived.Maps.AppendAt
import Derived.Test.YtifnmgbeepgfiaaCg
import Derived.Deep.QuietTactic
import Derived.BigQuiet
import Derived.Deep.RegionWith
import Derived.Deep.RegionHeld3
import Derived.Deep.DeepCutAuto
import Derived.Deep.DeepFit
import Derived.Outline
/- Plain words of layer 22: which commands may be. -/
namespace Go.Proofs.Ytifnmgbeepgfiaa
/-- What a command has beside its player, its number and its kind. -/
structure CF where
  n : Int
  u : List Int
  t : Int
  w : Int
  h : Int
  x : Int
  y : Int
def ascL (last : Int) : List Int → Bool
  | [] => true
  | a :: l => decide (last < a ∧ a ≤ 1099511627776) && ascL a l
def risL : List Int → Bool
  | [] => true
  | [_] => true
  | a :: b :: l => decide (a < b) && risL (b :: l)
def btwL (lo hi : Int) (l : List Int) : Bool := decide (∀ a ∈ l, lo ≤ a ∧ a ≤ hi)
def idsB (l : List Int) : Bool := decide (1 ≤ l.length ∧ l.length ≤ 64) && ascL 0 l
def vB (q : Int) (f : CF) : Bool :=
  if q = 0 then decide (0 ≤ f.n ∧ f.n < 4) else if q = 1 then decide (1 ≤ f.n ∧ f.n ≤ 1099511627776) else if q = 2 then idsB f.u else
  if q = 3 then decide (0 ≤ f.t ∧ f.t ≤ 16383) else if q = 4 then decide (1 ≤ f.w ∧ f.w ≤ 4 ∧ 1 ≤ f.h ∧ f.h ≤ 4) else
  decide (-1099511627776 ≤ f.x ∧ f.x ≤ 1099511627776 ∧ -1099511627776 ≤ f.y ∧ f.y ≤ 1099511627776)
def eC (q : Int) (f : CF) : CF :=
  if q = 0 then { f with n := 0 } else if q = 1 then { f with n := 0 } else if q = 2 then { f with u := [] } else if q = 3 then { f with t := 0 } else if q = 4 then { f with w := 0, h := 0 } else { f with x := 0, y := 0 }
def remB (f : CF) : Bool := decide (f.n = 0 ∧ f.u = [] ∧ f.t = 0 ∧ f.w = 0 ∧ f.h = 0 ∧ f.x = 0 ∧ f.y = 0)
def chkL : List Int → CF → Bool
  | [], f => remB f
  | q :: l, f => vB q f && chkL l (eC q f)
def partsL (k : Int) : List Int :=
  if k = 1 then [0, 5] else if k = 2 then [2, 3] else if k = 3 then [2] else if k = 4 then [3, 4] else if k = 5 then [1] else if k = 6 then [2, 1] else if k = 7 then [1, 3] else []
def baseB (p s : Int) : Bool := decide (1 ≤ p ∧ p ≤ 8 ∧ 0 ≤ s ∧ s ≤ 1099511627776)
def okC (p s k : Int) (f : CF) : Bool := (!(partsL k).isEmpty && baseB p s) && chkL (partsL k) f
theorem partsL_bd (k : Int) : (partsL k).length ≤ 2 ∧ ∀ q ∈ partsL k, 0 ≤ q ∧ q ≤ 5 := by
  unfold partsL
  (repeat' split) <;> simp
theorem partsL_none {k : Int} (h : k < 1 ∨ 7 < k) : partsL k = [] := by
  unfold partsL
  (repeat' split) <;> first | omega | rfl
theorem partsL_some {k : Int} (h1 : 1 ≤ k) (h2 : k ≤ 7) : 1 ≤ (partsL k).length := by
  unfold partsL
  (repeat' split) <;> simp; omega
theorem asc_ge {l : List Int} : ∀ {a : Int}, ascL a l = true → ∀ b ∈ l, a < b ∧ b ≤ 1099511627776 := by
  induction l with
  | nil => intro a _ b hb; simp at hb
  | cons c l ih =>
    intro a h b hb
    unfold ascL at h
    simp at h
    rcases List.mem_cons.1 hb with rfl | hb
    · omega
    · have := ih h.2 b hb; omega
theorem ris_asc (l : List Int) : ∀ (a : Int), (ascL a l = true) ↔ (risL l = true ∧ (∀ b ∈ l, b ≤ 1099511627776) ∧ (∀ b ∈ l.head?, a < b)) := by
  induction l with
  | nil => intro a; simp [ascL, risL]
  | cons c l ih =>
    intro a
    rw [ascL]
    simp only [Bool.and_eq_true, decide_eq_true_eq, ih c]
    cases l with
    | nil => simp [risL]; omega
    | cons d l =>
      simp only [risL, Bool.and_eq_true, decide_eq_true_eq, List.mem_cons, List.head?_cons, Option.mem_def, Option.some.injEq, forall_eq_or_imp, forall_eq']
      constructor
      · rintro ⟨⟨h1, h2⟩, h3, h4, h5⟩
        exact ⟨⟨h5, h3⟩, ⟨h2, h4⟩, h1⟩
      · rintro ⟨⟨h1, h2⟩, ⟨h3, h4⟩, h5⟩
        exact ⟨⟨h5, h3⟩, h2, h4, h1⟩
theorem ids_eq (l : List Int) : (risL l && btwL 1 1099511627776 l) = ascL 0 l := by
  rw [Bool.eq_iff_iff]
  simp only [Bool.and_eq_true]
  constructor
  · rintro ⟨h1, h2⟩
    unfold btwL at h2
    simp at h2
    refine (ris_asc l 0).2 ⟨h1, fun b hb => (h2 b hb).2, fun b hb => ?_⟩
    have := (h2 b (List.mem_of_mem_head? hb)).1
    omega
  · intro h
    refine ⟨((ris_asc l 0).1 h).1, ?_⟩
    unfold btwL
    simp
    intro b hb
    have := asc_ge h b hb
    omega
/-- The reference's word. -/
def refC (p s k : Int) (f : CF) : Bool :=
  baseB p s && (
  if k = 1 then vB 0 f && vB 5 f && decide (f.u = [] ∧ f.t = 0 ∧ f.w = 0 ∧ f.h = 0)
  else if k = 2 then vB 2 f && vB 3 f && decide (f.n = 0 ∧ f.w = 0 ∧ f.h = 0 ∧ f.x = 0 ∧ f.y = 0)
  else if k = 3 then vB 2 f && decide (f.n = 0 ∧ f.t = 0 ∧ f.w = 0 ∧ f.h = 0 ∧ f.x = 0 ∧ f.y = 0)
  else if k = 4 then vB 3 f && vB 4 f && decide (f.n = 0 ∧ f.u = [] ∧ f.x = 0 ∧ f.y = 0)
  else if k = 5 then vB 1 f && decide (f.u = [] ∧ f.t = 0 ∧ f.w = 0 ∧ f.h = 0 ∧ f.x = 0 ∧ f.y = 0)
  else if k = 6 then vB 2 f && vB 1 f && decide (f.t = 0 ∧ f.w = 0 ∧ f.h = 0 ∧ f.x = 0 ∧ f.y = 0)
  else if k = 7 then vB 1 f && vB 3 f && decide (f.u = [] ∧ f.w = 0 ∧ f.h = 0 ∧ f.x = 0 ∧ f.y = 0)
  else false)
theorem refC_eq (p s k : Int) (f : CF) : okC p s k f = refC p s k f := by
  unfold okC refC partsL
  (repeat' split) <;> subst_vars <;> simp [chkL, remB, eC, vB] <;> cases baseB p s <;> simp <;> (rw [Bool.eq_iff_iff]; simp; try grind)
end Go.Proofs.Ytifnmgbeepgfiaa
/- Layer 22: lists of numbers: rising, within bounds, compared, copied. -/
namespace Go.Proofs.Ytifnmgbeepgfiaa
open Go.RowKit
set_option linter.unusedVariables false
theorem drop_getD {xs : List Int} {k : Nat} (h : k < xs.length) : xs.drop k = xs.getD k 0 :: xs.drop (k + 1) := by
  rw [List.drop_eq_getElem_cons h]; simp [List.getD, List.getElem?_eq_getElem h]
theorem rb {a b : Bool} (h : a = b) : Ending.returned (.bool a) = .returned (.bool b) := by rw [h]
theorem Nq.at_ {w : World} {B n : Nat} {a : Option Addr} {xs : List Int} (h : Nq w B a n xs) (hn : 0 < n) : ∃ b off, a = some ⟨b, off, none⟩ ∧ b < B ∧ ∀ k, k < n → w.cell? ⟨b, off + k, none⟩ = some (.int .i64 (xs.getD k 0)) := h.rd hn
theorem btw_cons {lo hi a : Int} {l : List Int} : btwL lo hi (a :: l) = (decide (lo ≤ a ∧ a ≤ hi) && btwL lo hi l) := by
  unfold btwL
  rw [Bool.eq_iff_iff]
  simp
/-- Two slices of numbers compared. -/
theorem eqi_as (r : Bool) (a a' : Option Addr) (n n' c c' : Nat) (xs ys : List Int) (w : World) (h : Nq w w.heap.size a n xs) (h' : Nq w w.heap.size a' n' ys) (hn : n ≤ 1099511627776) (hn' : n' ≤ 1099511627776) (E : Hk (decide (xs = ys) = r)) :
    Calls Try.prog 12 #[.slice a n c, .slice a' n' c'] w fun e w' => e = .returned (.bool r) ∧ ∃ m, w' = w.drewN m := by
  have H := Hk.mk h
  have H' := Hk.mk h'
  have l1 := h.len
  have l2 := h'.len
  clear h h'
  by_cases hne : n = n'
  · subst hne
    have e0 : ((n : Int) == (n : Int)) = true := by simp
    go_enter Try.func12, Try.ntmps12
    go_wp2
    go_loopw [5] (fun i wr => ∃ k : Nat, k ≤ n ∧ i = .int .i64 k ∧ Hk (xs.take k = ys.take k) ∧ Hk (∃ m, wr = w.drewN m)) (fun i _ => n - (intOf i).toNat)
    case atStart => exact ⟨0, Nat.zero_le _, rfl, ⟨rfl⟩, ⟨0, rfl⟩⟩
    case round =>
      obtain ⟨k, hk, rfl, HT, HB⟩ := hrel
      by_cases hlt : k < n
      · obtain ⟨b, off, rfl, hbl, hc⟩ := H.out.at_ (by omega)
        obtain ⟨b', off', rfl, hbl', hc'⟩ := H'.out.at_ (by omega)
        have hcx : wr.cell? ⟨b, off + k, none⟩ = some (.int .i64 (xs.getD k 0)) := by obtain ⟨m, rfl⟩ := HB.out; exact hc k hlt
        have hcy : wr.cell? ⟨b', off' + k, none⟩ = some (.int .i64 (ys.getD k 0)) := by obtain ⟨m, rfl⟩ := HB.out; exact hc' k hlt
        clear hc hc'
        have hx : xs.take (k + 1) = xs.take k ++ [xs.getD k 0] := by rw [List.take_succ_eq_append_getElem (by omega)]; simp [List.getD, List.getElem?_eq_getElem (show k < xs.length by omega)]
        have hy : ys.take (k + 1) = ys.take k ++ [ys.getD k 0] := by rw [List.take_succ_eq_append_getElem (by omega)]; simp [List.getD, List.getElem?_eq_getElem (show k < ys.length by omega)]
        have HX := Hk.mk hx
        have HY := Hk.mk hy
        clear hx hy l1 l2
        generalize xs.getD k 0 = x at *
        generalize ys.getD k 0 = y at *
        have i1 : (0 : Int) ≤ (k : Int) := by omega
        have i2 : (k : Int) < (n : Int) := by omega
        by_cases q : x = y
        · subst q
          have b1 : (x == x) = true := by simp
          go_wp2
          go_quiet (fail)
          go_wp2
          go_roundw
          case rel => exact ⟨k + 1, by omega, by go_num, ⟨by rw [HX.out, HY.out, HT.out]⟩, ⟨by obtain ⟨m, rfl⟩ := HB.out; exact ⟨_, by rw [World.drewN_drewN]⟩⟩⟩
          case measure => simp [intOf]; omega
        · have b1 : (x == y) = false := by simp; omega
          have R : Hk (false = r) := ⟨by
            rw [← E.out]
            symm
            simp only [decide_eq_false_iff_not]
            intro e
            have h1 := HX.out
            rw [e, HY.out] at h1
            have := List.append_inj_right' h1 rfl
            simp at this; omega⟩
          go_wp2
          go_quiet (fail)
          go_wp2
          go_ret
          exact ⟨rb R.out, by obtain ⟨m, rfl⟩ := HB.out; exact ⟨_, by rw [World.drewN_drewN]⟩⟩
      · have hkn : k = n := by omega
        subst hkn
        have R : Hk (true = r) := ⟨by
          rw [← E.out]
          have h1 := HT.out
          rw [List.take_of_length_le (by omega), List.take_of_length_le (by omega)] at h1
          simp [h1]⟩
        go_wp2
        go_ret
        exact ⟨rb R.out, HB.out⟩
  · have b1 : ((n : Int) == (n' : Int)) = false := by simp; omega
    have b2 : ((n : Int) != (n' : Int)) = true := by simp; omega
    have R : Hk (false = r) := ⟨by
      rw [← E.out]; symm; simp only [decide_eq_false_iff_not]; intro e; rw [e] at l1; omega⟩
    clear l1 l2
    go_enter Try.func12, Try.ntmps12
    go_wp2
    go_ret
    exact ⟨rb R.out, 0, rfl⟩
/-- A value that owns these numbers. -/
def OwnI (w : World) (base : Nat) (v : Value) (n : Nat) (xs : List Int) : Prop := xs.length = n ∧ w.ownsRow base 3 1 v n (xs.map (Value.int .i64))
theorem OwnI.lt {w : World} {base n : Nat} {v : Value} {xs : List Int} (h : OwnI w base v n xs) : ∀ k, v.ownBlock = some k → base ≤ k ∧ k < w.heap.size := h.2.lt
theorem OwnI.nil (w : World) (base : Nat) : OwnI w base (.slice none 0 0) 0 [] := ⟨rfl, World.ownsRow_nil _ _ _ _⟩
theorem OwnI.nq {w : World} {base n : Nat} {v : Value} {xs : List Int} (h : OwnI w base v n xs) : ∃ a c, v = .slice a n c ∧ n ≤ c ∧ Nq w w.heap.size a n xs := by
  obtain ⟨h1, h3⟩ := h
  have h3' := h3
  rcases h3.2 with ⟨rfl, rfl⟩ | ⟨g, cap, cur, rfl, hg, hh, hc, hm, hs, ht⟩
  · exact ⟨none, 0, rfl, by omega, ⟨h1, fun h => absurd h (by omega)⟩⟩
  · refine ⟨_, _, rfl, hc, ⟨h1, fun hn => ⟨g, 0, rfl, lt_of_block hh, fun k hk => ?_⟩⟩⟩
    have := h3'.cellAt k (by omega)
    rw [Nat.zero_add, this]
    simp [List.getElem?_map, List.getD, List.getElem?_eq_getElem (show k < xs.length by omega)]
theorem OwnI.below {w w' : World} {base n : Nat} {v : Value} {xs : List Int} (h : OwnI w base v n xs) (hb : Below w.heap.size w w') : OwnI w' base v n xs := by
  refine ⟨h.1, h.2.kept (row := none) ⟨hb.os, hb.tape, hb.output, hb.size, fun i hi _ => hb.block i hi⟩ ?_⟩
  cases h' : v.ownBlock
  · exact .inl rfl
  · exact .inr (by simp)
theorem OwnI.drewN {w : World} {base n : Nat} {v : Value} {xs : List Int} (h : OwnI w base v n xs) (k : Nat) : OwnI (w.drewN k) base v n xs := h
theorem info_i : (Try.prog.info? 3).map (fun i => (i.zero, i.size, i.bytes)) = some (some (.int .i64 0), 1, 8) := by kernel_rfl
theorem take_mapi (xs : List Int) (k : Nat) (h : k < xs.length) : List.take k (List.map (Value.int .i64) xs) ++ [.int .i64 (xs[k]?.getD 0)] = (xs.take (k + 1)).map (Value.int .i64) := by
  rw [List.take_succ_eq_append_getElem h, List.map_append, List.map_take]
  simp [List.getElem?_eq_getElem h]
/-- Numbers copied lie in new memory. -/
theorem copyi_any (a : Option Addr) (n c : Nat) (xs : List Int) (w : World) (h : Nq w w.heap.size a n xs) (hn : n ≤ 1099511627776) :
    Calls Try.prog 17 #[.slice a n c] w fun e w' => ∃ v, e = .returned v ∧ OwnI w' w.heap.size v n xs ∧ Below w.heap.size w w' := by
  obtain ⟨i0, hi, hz0, hz1, hz2⟩ := info_parts info_i
  have H := Hk.mk h
  clear h
  go_enter Try.func17, Try.ntmps17
  go_wp2
  go_loopw [3, 4] (fun m i wr => ∃ k : Nat, k ≤ n ∧ i = .int .i64 k ∧ Hk (wr.ownsRow w.heap.size 3 1 m k ((xs.take k).map (Value.int .i64))) ∧ Hk (Below w.heap.size w wr)) (fun _ i _ => n - (intOf i).toNat)
  case atStart => exact ⟨0, Nat.zero_le _, rfl, ⟨World.ownsRow_nil _ _ _ _⟩, ⟨Below.refl _ _⟩⟩
  case round =>
    obtain ⟨k, hk, rfl, HO, HB⟩ := hrel
    by_cases hlt : k < n
    · obtain ⟨b, off, rfl, hbl, hc⟩ := H.out.at_ (by omega)
      have hcx := (HB.out.cell (p := ⟨b, off + k, none⟩) hbl).trans (hc k hlt)
      have hsz := HB.out.size
      have hown := HO.out
      clear hc
      go_wp2_with (at_builtin; refine wpList_append_own _ rfl _ _ 23 rfl w.heap.size 3 i0 (.int .i64 0) 1 8 Try.underlying23 hi hz0 hz1 hz2 rfl (by decide) _ _ _ rfl (hown.alloc _) ⟨wr.heap.size, 0, none⟩ 1 1 [.int .i64 (xs.getD k 0)] rfl rfl ?c1 ?c2 ?c3 ?c4 ?c5 ?_)
      case c1 =>
        intro j u hj
        match j, hj with
        | 0, hj => simp at hj; subst hj; simp [Addr.add]
      case c2 => intro u hu; simp at hu; subst hu; rfl
      case c3 => unfold maxLen; omega
      case c4 => omega
      case c5 => simp; omega
      · intro v' w1 hown' hgrow _
        rw [take_mapi xs k (by rw [H.out.len]; exact hlt)] at hown'
        have HO2 := Hk.mk hown'
        have HB2 := Hk.mk ((HB.out.alloc hsz (.cells #[.int .i64 (xs.getD k 0)] 3)).grown hgrow (by simp; omega) (fun g hg => (hown.lt g hg).1))
        clear hown' hgrow hown HO HB hcx
        go_wp2
        go_roundw
        case rel => exact ⟨k + 1, by omega, by go_num, HO2, HB2⟩
        case measure => simp [intOf]; omega
    · have hkn : k = n := by omega
      subst hkn
      go_wp2
      go_ret
      exact ⟨_, rfl, ⟨H.out.len, by have := HO.out; rwa [List.take_of_length_le (by rw [H.out.len]; omega)] at this⟩, HB.out⟩
end Go.Proofs.Ytifnmgbeepgfiaa
/- Layer 10: the reference's Redo. -/
namespace Go.Proofs.Ytifnmgbeepgfiaa
open Go.ChangeShapes Go.WideShapes Go.ChangeAt Go.RowKit Go.Deep
set_option linter.unusedVariables false
set_option linter.unusedSimpArgs false
def redoP (W : Int) (t : Nat) (F : Nat → Int) (ps : List Int) (i k : Nat) : Int := if k < i ∧ secB W t k = true then F k else ps.getD k 0
theorem redoP_next {W : Int} {t : Nat} {F : Nat → Int} {ps : List Int} {i : Nat} (h : secB W t i = true) (k : Nat) : redoP W t F ps (i + 1) k = updP (redoP W t F ps i) i (F i) k := by
  unfold redoP updP
  by_cases e : k = i
  · subst e
    rw [if_pos ⟨by omega, h⟩, if_pos rfl]
  · rw [if_neg e]
    show (if k < i + 1 ∧ secB W t k = true then F k else ps.getD k 0) = if k < i ∧ secB W t k = true then F k else ps.getD k 0
    by_cases c : k < i ∧ secB W t k = true
    · rw [if_pos c, if_pos ⟨by omega, c.2⟩]
    · rw [if_neg c, if_neg (fun q => c ⟨by omega, q.2⟩)]
theorem redoP_skip {W : Int} {t : Nat} {F : Nat → Int} {ps : List Int} {i : Nat} (h : secB W t i = false) (k : Nat) : redoP W t F ps (i + 1) k = redoP W t F ps i k := by
  unfold redoP
  by_cases c : k < i ∧ secB W t k = true
  · rw [if_pos c, if_pos ⟨by omega, c.2⟩]
  · rw [if_neg c, if_neg (fun q => ?_)]
    by_cases e : k = i
    · subst e; rw [h] at q; cases q.2
    · exact c ⟨by omega, q.2⟩
set_option maxRecDepth 1000000 in
set_option maxHeartbeats 6400000 in
theorem rredo_any (W H : Int) (t fb fo n fc pc : Nat) (pa : Option Addr) (ps : List Int) (fr : Nat → Bool) (w : World) (w1 : 1 ≤ W) (w2 : W ≤ 128) (h1 : 1 ≤ H) (h2 : H ≤ 128) (hn : (n : Int) = W * H) (htn : t < n) (hF : ∀ k, k < n → w.cell? ⟨fb, fo + k, none⟩ = some (.bool (fr k))) (hfl : fb < w.heap.size) (hP : Nq w w.heap.size pa n ps) :
    Calls Try.prog 16 #[.int .i64 W, .int .i64 H, .slice (some ⟨fb, fo, none⟩) n fc, .slice pa n pc, .int .i64 t] w fun e w' => ∃ J jc F, e = .returned (.slice (some ⟨J, 0, none⟩) n jc) ∧ w.heap.size ≤ J ∧ IsPart n (nbN W n fr) fr F ∧ Arp w' J n jc (fun k => if (secB W t) k = true then F k else ps.getD k 0) ∧ Below w.heap.size w w' := by
  have n16 : n ≤ 16384 := by have := mul_bd w1 w2 h1 h2; omega
  have HFF := Hk.mk hF
  have HN := Hk.mk hn
  have HPP := Hk.mk hP
  have t0 : (0 : Int) ≤ (t : Int) := by omega
  have t3 : (t : Int) ≤ 16384 := by omega
  have n1 : 0 < n := by omega
  obtain ⟨ot, hot⟩ : ∃ o, Fx.ofS W (t : Nat) = o := ⟨_, rfl⟩
  have EOT := Hk.mk hot
  clear hF hn hP hot
  go_enter Try.func16, Try.ntmps16
  go_wp2_with (first
    | (go_at_call 8; (with_reducible refine (rparts_any W H fb fo n fc fr _ w1 w2 h1 h2 HN.out HFF.out hfl).mono ?_); rintro e z ⟨I, F, rfl, hg1, hA1, hp1, hb⟩; have HA1 := Hk.mk hA1; have HP1 := Hk.mk hp1; have HB := Hk.mk hb; have HI := Hk.mk hg1; clear hA1 hp1 hg1 hb)
    | (go_at_call 17; (with_reducible refine (copyi_any pa n pc ps _ ((HPP.out.below HB.out (Nat.le_refl _)).mono HB.out.size) (by omega)).mono ?_); rintro e z2 ⟨v, rfl, ho, hb⟩; obtain ⟨J, jc, rfl, hJ0⟩ := own_open8 ho.2 n1; have HJ : Hk (Arp _ J n jc (redoP W t F ps 0)) := ⟨Arp.own ho.2 (fun k hk => by unfold redoP; rw [if_neg (by omega)]; have := ho.1; simp [List.getD, show k < ps.length by omega])⟩; have HIJ : Hk (I < J) := ⟨Nat.lt_of_lt_of_le HA1.out.lt hJ0⟩; replace HA1 := Hk.mk (HA1.out.later hb); have HJ0 : Hk (w.heap.size ≤ J) := ⟨Nat.le_trans HB.out.size hJ0⟩; replace HB := Hk.mk (HB.out.trans (hb.mono HB.out.size)); clear ho hb hJ0))
  have HA1 := HA1
  have HJ := HJ
  have HIJ := HIJ
  obtain ⟨wo, rfl⟩ : ∃ wo : World, wo = z2 := ⟨z2, rfl⟩
  go_loopw [13] (fun jj wr => ∃ i : Nat, jj = .int .i64 i ∧ i ≤ n ∧ Hk (Arp wr J n jc (redoP W t F ps i)) ∧ Hk (Arr wr I n 3 (fun k => .int .i64 (F k))) ∧ Hk (Below w.heap.size w wr)) (fun jj _ => n - (intOf jj).toNat)
  case atStart => exact ⟨0, rfl, by omega, HJ, HA1, HB⟩
  case round =>
    clear HJ HA1 HB
    obtain ⟨i, rfl, hi, HJ, HA1, HB⟩ := hrel
    by_cases hil : i < n
    · have i0 : (0 : Int) ≤ (i : Int) := by omega
      have i1 : (i : Int) < (n : Int) := by omega
      have i2 : (i : Int) ≤ 16384 := by omega
      obtain ⟨oi, hoi⟩ : ∃ o, Fx.ofS W (i : Nat) = o := ⟨_, rfl⟩
      have EOI := Hk.mk hoi
      have hsec : oi = ot ↔ secB W t i = true := by
        rw [← hoi, ← EOT.out, ofS_iff w1]
        unfold secB
        rw [decide_eq_true_iff]
        unfold secS
        constructor
        · rintro ⟨a, b⟩; exact ⟨a.symm, b.symm⟩
        · rintro ⟨a, b⟩; exact ⟨a.symm, b.symm⟩
      have HS := Hk.mk hsec
      clear hoi hsec
      by_cases heq : oi = ot
      · have hz := HS.out.1 heq
        have ci := HA1.out.cell hil
        have fj := HJ.out.frozen i
        have cj := HJ.out.cell hil
        have HJ2 : ∀ q, Hk (Arp ((wr.drewN q).setCell ⟨J, i, none⟩ (.int .i64 (F i))) J n jc (redoP W t F ps (i + 1))) := fun q => ⟨((HJ.out.drewN q).put hil (F i)).congr fun k hk => redoP_next hz k⟩
        have HA2 : ∀ q, Hk (Arr ((wr.drewN q).setCell ⟨J, i, none⟩ (.int .i64 (F i))) I n 3 (fun k => .int .i64 (F k))) := fun q => ⟨(HA1.out.drewN q).far _ _ (Nat.ne_of_lt HIJ.out)⟩
        have HB2 := fun q => Hk.mk ((below_drewN HB.out q).setCell (p := ⟨J, i, none⟩) HJ0.out (.int .i64 (F i)))
        clear hz HS HJ HA1
        subst heq
        as_aux_lemma =>
          go_wp2_with (first
            | (go_at_call 23; (with_reducible refine (rsof_qas W (i : Nat) oi _ w1 w2 i0 i2 EOI).mono ?_); rintro e z ⟨rfl, m1, hz1⟩; subst hz1)
            | (go_at_call 23; (with_reducible refine (rsof_qas W (t : Nat) oi _ w1 w2 t0 t3 EOT).mono ?_); rintro e z ⟨rfl, m2, hz2⟩; subst hz2))
          exact ⟨⟨i + 1, by go_num, by omega, by first | exact HJ2 _ | (rw [World.drewN_drewN]; exact HJ2 _), by first | exact HA2 _ | (rw [World.drewN_drewN]; exact HA2 _), by first | exact HB2 _ | (rw [World.drewN_drewN]; exact HB2 _)⟩, by simp [intOf]; omega⟩
      · have hz : secB W t i = false := by
          cases e : secB W t i
          · rfl
          · exact absurd (HS.out.2 e) heq
        have HJ2 : Hk (Arp wr J n jc (redoP W t F ps (i + 1))) := ⟨HJ.out.congr fun k hk => redoP_skip hz k⟩
        clear hz HS HJ
        as_aux_lemma =>
          go_wp2_with (first
            | (go_at_call 23; (with_reducible refine (rsof_qas W (i : Nat) oi _ w1 w2 i0 i2 EOI).mono ?_); rintro e z ⟨rfl, m1, hz1⟩; subst hz1)
            | (go_at_call 23; (with_reducible refine (rsof_qas W (t : Nat) ot _ w1 w2 t0 t3 EOT).mono ?_); rintro e z ⟨rfl, m2, hz2⟩; subst hz2))
          exact ⟨⟨i + 1, by go_num, by omega, by first | exact ⟨HJ2.out.drewN _⟩ | exact ⟨(HJ2.out.drewN _).drewN _⟩, by first | exact ⟨HA1.out.drewN _⟩ | exact ⟨(HA1.out.drewN _).drewN _⟩, by first | exact ⟨below_drewN HB.out _⟩ | exact ⟨below_drewN (below_drewN HB.out _) _⟩⟩, by simp [intOf]; omega⟩
    · obtain rfl : i = n := by omega
      clear hil
      have HJ2 : Hk (Arp wr J i jc (fun k => if (secB W t) k = true then F k else ps.getD k 0)) := ⟨HJ.out.congr fun k hk => by
        unfold redoP
        by_cases c : secB W t k = true
        · rw [if_pos c, if_pos ⟨hk, c⟩]
        · rw [if_neg c, if_neg (fun q => c q.2)]⟩
      as_aux_lemma =>
        go_wp2_with fail
        go_ret
        exact ⟨J, jc, F, rfl, HJ0.out, HP1.out, HJ2.out, HB.out⟩
end Go.Proofs.Ytifnmgbeepgfiaa
/- Layer 10: any parts with those of one sector reckoned anew, where they are refused. -/
namespace Go.Proofs.Ytifnmgbeepgfiaa
open Go.ChangeShapes Go.WideShapes Go.ChangeAt Go.RowKit Go.Deep
set_option linter.unusedVariables false
set_option linter.unusedSimpArgs false
theorem nq_later10 {w z : World} {n : Nat} {a : Option Addr} {xs : List Int} (h : Nq w w.heap.size a n xs) (hb : Below w.heap.size w z) : Nq z z.heap.size a n xs := (h.below hb (Nat.le_refl _)).mono hb.size
theorem nqD10 {w : World} {n : Nat} {a : Option Addr} {xs : List Int} (h : Nq w w.heap.size a n xs) : Nq w.drew w.drew.heap.size a n xs := ⟨h.len, h.rd⟩
theorem nq_to {w z : World} {B n m : Nat} {a : Option Addr} {xs : List Int} (h : Nq w B a n xs) (e : z = w.drewN m) : Nq z B a n xs := by subst e; exact h.drewN m
set_option maxRecDepth 100000 in
set_option maxHeartbeats 6400000 in
theorem sectorRedo_no (W H : Int) (fa : Option Addr) (fn fc : Nat) (fr : Nat → Bool) (tb toff : Nat) (tn tc : Nat) (ts : List Int) (pa : Option Addr) (pn pc : Nat) (ps : List Int) (w : World) (hfn : fn ≤ 9223372036854775807) (htn : tn ≤ 9223372036854775807) (hpn : pn ≤ 9223372036854775807) (hfr : Rd w w.heap.size fa fn (fun k => .bool (fr k))) (hts : Nq w w.heap.size (some ⟨tb, toff, none⟩) tn ts) (hps : Nq w w.heap.size (pa) pn ps) (HV : Hk (heavyS fn tn pn = false)) (MM : Hk (mayS W H fn = false)) :
    Calls Try.prog 4 #[.agg #[.int .i64 W, .int .i64 H, .slice fa fn fc, .slice (some ⟨tb, toff, none⟩) tn tc, .slice (pa) pn pc]] w fun e w' => e = .returned (.bool true) ∧ Below w.heap.size w w' := by
  have HWB : Hk (Below w.heap.size w (w.alloc (.cells #[.int .i64 W, .int .i64 H, .slice fa fn fc, .slice (some ⟨tb, toff, none⟩) tn tc, .slice (pa) pn pc] 25))) := ⟨(Below.refl _ _).alloc (Nat.le_refl _) _⟩
  have hNW : (w.heap.size + 1) ≤ (w.alloc (.cells #[.int .i64 W, .int .i64 H, .slice fa fn fc, .slice (some ⟨tb, toff, none⟩) tn tc, .slice (pa) pn pc] 25)).heap.size := by simp
  have HB : Hk (Below (w.heap.size + 1) (w.alloc (.cells #[.int .i64 W, .int .i64 H, .slice fa fn fc, .slice (some ⟨tb, toff, none⟩) tn tc, .slice (pa) pn pc] 25)) (w.alloc (.cells #[.int .i64 W, .int .i64 H, .slice fa fn fc, .slice (some ⟨tb, toff, none⟩) tn tc, .slice (pa) pn pc] 25))) := ⟨Below.refl _ _⟩
  have HTR : Hk (∀ X, Below (w.heap.size + 1) (w.alloc (.cells #[.int .i64 W, .int .i64 H, .slice fa fn fc, .slice (some ⟨tb, toff, none⟩) tn tc, .slice (pa) pn pc] 25)) X → Below w.heap.size w X) := ⟨fun X hX => HWB.out.trans (hX.mono (by omega))⟩
  have hfs : fn ≤ 900 ∧ tn ≤ 60 ∧ pn ≤ 2000 := by have := HV.out; unfold heavyS at this; simp at this; omega
  have RF : Hk (mayS W H fn = false ∨ (mayS W H fn = true ∧ ¬ (pn : Int) = W * H)) := ⟨Or.inl MM.out⟩
  have HPS := Hk.mk (fun (X : World) (hX : Below (w.heap.size + 1) (w.alloc (.cells #[.int .i64 W, .int .i64 H, .slice fa fn fc, .slice (some ⟨tb, toff, none⟩) tn tc, .slice (pa) pn pc] 25)) X) => hps.below (HTR.out X hX) (Nat.le_refl _))
  clear hfr hps
  obtain ⟨hc, hf, hl, hn', hm⟩ := kw_rules HB.out hNW
  go_enter Try.func4, Try.ntmps4
  go_wp2_with (go_at_call 6; (with_reducible refine (heavy10_as false W H fa (some ⟨tb, toff, none⟩) (pa) fn fc tn tc pn pc _ hfn htn hpn HV).mono ?_); rintro e z ⟨rfl, hb⟩; replace HB := Hk.mk (kw_step HB.out hNW hb); clear hb; clear hc hf hl hn' hm; obtain ⟨hc, hf, hl, hn', hm⟩ := kw_rules HB.out hNW)
  obtain ⟨M0, hM0⟩ : ∃ M : Nat, M = min tn 10 := ⟨_, rfl⟩
  go_loopw [3] (fun i wr => ∃ k : Nat, i = .int .i64 k ∧ k ≤ M0 ∧ Hk (Below (w.heap.size + 1) (w.alloc (.cells #[.int .i64 W, .int .i64 H, .slice fa fn fc, .slice (some ⟨tb, toff, none⟩) tn tc, .slice (pa) pn pc] 25)) wr)) (fun i _ => M0 - (intOf i).toNat)
  case atStart => exact ⟨0, rfl, by omega, HB⟩
  case round =>
    clear HB
    obtain ⟨k, rfl, hk, HB⟩ := hrel
    clear hc hf hl hn' hm
    obtain ⟨hc, hf, hl, hn', hm⟩ := kw_rules HB.out hNW
    have k0 : (0 : Int) ≤ (k : Int) := by omega
    by_cases hlt : k < tn
    · have k1 : (k : Int) < (tn : Int) := by omega
      have dk : decide ((k : Int) < (tn : Int)) = true := by simpa using hlt
      by_cases hlt2 : k < 10
      · have k2 : (k : Int) < 10 := by omega
        have dk3 : decide ((k : Int) < 10) = true := by simp; omega
        obtain ⟨tb', toff', hta, htb, hcell⟩ := hts.rd (by omega)
        injection hta with hta
        injection hta with hta1 hta2
        subst hta1 hta2
        have tc0 := hcell k hlt
        have htb1 : tb < w.heap.size + 1 := by omega
        obtain ⟨q, hqe⟩ : ∃ q, ts.getD k 0 = q := ⟨_, rfl⟩
        rw [hqe] at tc0
        clear hqe hcell
        as_aux_lemma =>
          go_upto_region 9 with (go_at_call 7; (with_reducible refine (form10_no W H fa (some ⟨tb, toff, none⟩) (pa) fn fc tn tc pn pc _ MM).mono ?_); rintro e z ⟨rfl, hb⟩; replace HB := Hk.mk (kw_step HB.out hNW hb); clear hb; clear hc hf hl hn' hm; obtain ⟨hc, hf, hl, hn', hm⟩ := kw_rules HB.out hNW)
          clear hc hf hl hn' hm
          go_quiet (fail)
          replace HB := Hk.mk (below_drewN HB.out nq)
          generalize World.drewN _ nq = VR at *
          obtain ⟨hc, hf, hl, hn', hm⟩ := kw_rules HB.out hNW
          go_upto_region 14 with (go_at_call 17; (with_reducible refine (copyi_any pa pn pc ps _ ((HPS.out _ HB.out).mono (hszA HB.out)) (by omega)).mono ?_); rintro e z ⟨v, rfl, ho, hb⟩; obtain ⟨a2, c2, rfl, hc2, hq2⟩ := ho.nq; have HQ2 := Hk.mk hq2; clear ho hq2 hc2; replace HB := Hk.mk (kw_step HB.out hNW hb); clear hb; clear hc hf hl hn' hm; obtain ⟨hc, hf, hl, hn', hm⟩ := kw_rules HB.out hNW)
          refine wp_region_held_drew (S := (fun X => (∀ b o, b < (w.heap.size + 1) → X.cell? ⟨b, o, none⟩ = ((w.alloc (.cells #[.int .i64 W, .int .i64 H, .slice fa fn fc, .slice (some ⟨tb, toff, none⟩) tn tc, .slice (pa) pn pc] 25))).cell? ⟨b, o, none⟩) ∧ Below (w.heap.size + 1) (w.alloc (.cells #[.int .i64 W, .int .i64 H, .slice fa fn fc, .slice (some ⟨tb, toff, none⟩) tn tc, .slice (pa) pn pc] 25)) X)) (by kernel_rfl) ?_ (fun hHeld => ?_)
          · exact kw_S (kw_drew HB.out)
          refine wpAnyH_take (i := 0) (v := ?_) rfl (by kernel_rfl) (by kernel_rfl) (by kernel_rfl) (fun _ _ _ h => h) (Or.inl ⟨by rfl, fun wX hSw => ?_⟩) (by assumption) ?_
          rotate_left
          · (try dsimp only at hSw); go_simp; try with_reducible rfl
          (try simp only [Act.put, List.getElem_toArray, List.getElem_cons_succ, List.getElem_cons_zero, List.setIfInBounds_toArray, List.set_cons_zero, List.set_cons_succ])
          refine wpAnyH_take (i := 1) (v := ?_) rfl (by kernel_rfl) (by kernel_rfl) (by kernel_rfl) (fun _ _ _ h => h) (Or.inl ⟨by rfl, fun wX hSw => ?_⟩) (by assumption) ?_
          rotate_left
          · (try dsimp only at hSw); go_simp; try with_reducible rfl
          (try simp only [Act.put, List.getElem_toArray, List.getElem_cons_succ, List.getElem_cons_zero, List.setIfInBounds_toArray, List.set_cons_zero, List.set_cons_succ])
          refine wpAnyH_take (i := 2) (v := ?_) rfl (by kernel_rfl) (by kernel_rfl) (by kernel_rfl) (fun _ _ _ h => h) (Or.inl ⟨by rfl, fun wX hSw => ?_⟩) (by assumption) ?_
          rotate_left
          · (try dsimp only at hSw); go_simp; try with_reducible rfl
          (try simp only [Act.put, List.getElem_toArray, List.getElem_cons_succ, List.getElem_cons_zero, List.setIfInBounds_toArray, List.set_cons_zero, List.set_cons_succ])
          refine wpAnyH_take (i := 3) (v := ?_) rfl (by kernel_rfl) (by kernel_rfl) (by kernel_rfl) (fun _ _ _ h => h) (Or.inl ⟨by rfl, fun wX hSw => ?_⟩) (by assumption) ?_
          rotate_left
          · (try dsimp only at hSw); go_simp; try with_reducible rfl
          (try simp only [Act.put, List.getElem_toArray, List.getElem_cons_succ, List.getElem_cons_zero, List.setIfInBounds_toArray, List.set_cons_zero, List.set_cons_succ])
          refine wpAnyH_take (i := 4) (v := ?_) rfl (by kernel_rfl) (by kernel_rfl) (by kernel_rfl) (fun _ _ _ h => h) (Or.inl ⟨by rfl, fun wX hSw => ?_⟩) (by assumption) ?_
          rotate_left
          · (try dsimp only at hSw); go_simp; try with_reducible rfl
          (try simp only [Act.put, List.getElem_toArray, List.getElem_cons_succ, List.getElem_cons_zero, List.setIfInBounds_toArray, List.set_cons_zero, List.set_cons_succ])
          refine wpAnyH_take (i := 5) (v := ?_) rfl (by kernel_rfl) (by kernel_rfl) (by kernel_rfl) (fun _ _ _ h => h) (Or.inl ⟨by rfl, fun wX hSw => ?_⟩) (by assumption) ?_
          rotate_left
          · (try dsimp only at hSw); go_simp; try with_reducible rfl
          (try simp only [Act.put, List.getElem_toArray, List.getElem_cons_succ, List.getElem_cons_zero, List.setIfInBounds_toArray, List.set_cons_zero, List.set_cons_succ])
          refine wpAnyH_take (i := 6) (v := ?_) rfl (by kernel_rfl) (by kernel_rfl) (by kernel_rfl) (fun _ _ _ h => h) (Or.inl ⟨by rfl, fun wX hSw => ?_⟩) (by assumption) ?_
          rotate_left
          · (try dsimp only at hSw); go_simp; try with_reducible rfl
          (try simp only [Act.put, List.getElem_toArray, List.getElem_cons_succ, List.getElem_cons_zero, List.setIfInBounds_toArray, List.set_cons_zero, List.set_cons_succ])
          refine wpAnyH_take (i := 7) (v := ?_) rfl (by kernel_rfl) (by kernel_rfl) (by kernel_rfl) (fun _ _ _ h => h) (Or.inl ⟨by rfl, fun wX hSw => ?_⟩) (by assumption) ?_
          rotate_left
          · (try dsimp only at hSw); go_simp; try with_reducible rfl
          (try simp only [Act.put, List.getElem_toArray, List.getElem_cons_succ, List.getElem_cons_zero, List.setIfInBounds_toArray, List.set_cons_zero, List.set_cons_succ])
          refine wpAnyH_take (i := 8) (v := ?_) rfl (by kernel_rfl) (by kernel_rfl) (by kernel_rfl) (fun _ _ _ h => h) (Or.inl ⟨by rfl, fun wX hSw => ?_⟩) (by assumption) ?_
          rotate_left
          · (try dsimp only at hSw); go_simp; try with_reducible rfl
          (try simp only [Act.put, List.getElem_toArray, List.getElem_cons_succ, List.getElem_cons_zero, List.setIfInBounds_toArray, List.set_cons_zero, List.set_cons_succ])
          refine wpAnyH_take (i := 9) (v := ?_) rfl (by kernel_rfl) (by kernel_rfl) (by kernel_rfl) (fun _ _ _ h => h) (Or.inl ⟨by rfl, fun wX hSw => ?_⟩) (by assumption) ?_
          rotate_left
          · (try dsimp only at hSw); go_simp; try with_reducible rfl
          (try simp only [Act.put, List.getElem_toArray, List.getElem_cons_succ, List.getElem_cons_zero, List.setIfInBounds_toArray, List.set_cons_zero, List.set_cons_succ])
          refine wpAnyH_take (i := 10) (v := ?_) rfl (by kernel_rfl) (by kernel_rfl) (by kernel_rfl) (fun _ _ _ h => h) (Or.inl ⟨by rfl, fun wX hSw => ?_⟩) (by assumption) ?_
          rotate_left
          · (try dsimp only at hSw); go_simp; try with_reducible rfl
          (try simp only [Act.put, List.getElem_toArray, List.getElem_cons_succ, List.getElem_cons_zero, List.setIfInBounds_toArray, List.set_cons_zero, List.set_cons_succ])
          refine wpAnyH_take (i := 11) (v := ?_) rfl (by kernel_rfl) (by kernel_rfl) (by kernel_rfl) (fun _ _ _ h => h) (Or.inl ⟨by rfl, fun wX hSw => ?_⟩) (by assumption) ?_
          rotate_left
          · (try dsimp only at hSw); go_simp; try with_reducible rfl
          (try simp only [Act.put, List.getElem_toArray, List.getElem_cons_succ, List.getElem_cons_zero, List.setIfInBounds_toArray, List.set_cons_zero, List.set_cons_succ])
          refine wpAnyH_ready (rs := [12]) (by kernel_rfl) (by simp) ?_
          refine AllReadyH.cons rfl (fun K hK => ?_) (AllReadyH.nil)
          go_simp
          ((go_at_call 18; (with_reducible refine (sredo_form W H q fa a2 fn fc pn c2 _ RF).mono ?_); rintro e z ⟨rfl, hb⟩; have HQ3 : Hk (Nq z z.heap.size a2 pn ps) := ⟨by first | exact nq_later10 HQ2.out hb | exact nq_later10 (nqD10 HQ2.out) hb⟩; replace HQ2 := HQ3; clear HQ3; have hB2 : Hk (Below (w.heap.size + 1) (w.alloc (.cells #[.int .i64 W, .int .i64 H, .slice fa fn fc, .slice (some ⟨tb, toff, none⟩) tn tc, .slice (pa) pn pc] 25)) z) := ⟨by first | exact kw_step HB.out hNW hb | exact kw_step HB.out.drew hNW hb⟩; clear hb; replace HB := hB2; clear hB2; clear hc hf hl hn' hm; obtain ⟨hc, hf, hl, hn', hm⟩ := kw_rules HB.out hNW))
          refine hK.out _ _ ?_ (fun hHeld => ?_)
          · exact kw_S HB.out
          clear hK K
          (try simp only [Act.put, List.getElem_toArray, List.getElem_cons_succ, List.getElem_cons_zero, List.setIfInBounds_toArray, List.set_cons_zero, List.set_cons_succ])
          refine wpAnyH_take (i := 13) (v := ?_) rfl (by kernel_rfl) (by kernel_rfl) (by kernel_rfl) (fun _ _ _ h => h) (Or.inl ⟨by rfl, fun wX hSw => ?_⟩) (by assumption) ?_
          rotate_left
          · (try dsimp only at hSw); go_simp; try with_reducible rfl
          (try simp only [Act.put, List.getElem_toArray, List.getElem_cons_succ, List.getElem_cons_zero, List.setIfInBounds_toArray, List.set_cons_zero, List.set_cons_succ])
          refine wpAnyH_take (i := 14) (v := ?_) rfl (by kernel_rfl) (by kernel_rfl) (by kernel_rfl) (fun _ _ _ h => h) (Or.inl ⟨by rfl, fun wX hSw => ?_⟩) (by assumption) ?_
          rotate_left
          · (try dsimp only at hSw); go_simp; try with_reducible rfl
          (try simp only [Act.put, List.getElem_toArray, List.getElem_cons_succ, List.getElem_cons_zero, List.setIfInBounds_toArray, List.set_cons_zero, List.set_cons_succ])
          refine wpAnyH_take (i := 15) (v := ?_) rfl (by kernel_rfl) (by kernel_rfl) (by kernel_rfl) (fun _ _ _ h => h) (Or.inl ⟨by rfl, fun wX hSw => ?_⟩) (by assumption) ?_
          rotate_left
          · (try dsimp only at hSw); go_simp; try with_reducible rfl
          (try simp only [Act.put, List.getElem_toArray, List.getElem_cons_succ, List.getElem_cons_zero, List.setIfInBounds_toArray, List.set_cons_zero, List.set_cons_succ])
          refine wpAnyH_take (i := 16) (v := ?_) rfl (by kernel_rfl) (by kernel_rfl) (by kernel_rfl) (fun _ _ _ h => h) (Or.inl ⟨by rfl, fun wX hSw => ?_⟩) (by assumption) ?_
          rotate_left
          · (try dsimp only at hSw); go_simp; try with_reducible rfl
          (try simp only [Act.put, List.getElem_toArray, List.getElem_cons_succ, List.getElem_cons_zero, List.setIfInBounds_toArray, List.set_cons_zero, List.set_cons_succ])
          refine wpAnyH_take (i := 17) (v := ?_) rfl (by kernel_rfl) (by kernel_rfl) (by kernel_rfl) (fun _ _ _ h => h) (Or.inl ⟨by rfl, fun wX hSw => ?_⟩) (by assumption) ?_
          rotate_left
          · (try dsimp only at hSw); go_simp; try with_reducible rfl
          (try simp only [Act.put, List.getElem_toArray, List.getElem_cons_succ, List.getElem_cons_zero, List.setIfInBounds_toArray, List.set_cons_zero, List.set_cons_succ])
          refine wpAnyH_done (by kernel_rfl) ?_ _
          as_aux_lemma =>
            go_wp2_with (first | (go_at_call 11; (with_reducible refine (num10_any _ _).mono ?_); rintro e z ⟨rfl, rfl⟩) | (go_at_call 12; (with_reducible refine (eqn_yes none none 0 0 0 0 0 [] _ (Nq.nil _ _ _) (Nq.nil _ _ _) (by omega)).mono ?_); rintro e z ⟨rfl, mm, hz⟩; replace HQ2 := Hk.mk (nq_to HQ2.out hz); replace HB := Hk.mk (below_to HB.out hz); clear hz; clear hc hf hl hn' hm; obtain ⟨hc, hf, hl, hn', hm⟩ := kw_rules HB.out hNW) | (go_at_call 12; (with_reducible refine (eqn_yes a2 pa pn c2 pc _ _ ps _ HQ2.out (HPS.out _ HB.out) (by omega)).mono ?_); rintro e z ⟨rfl, mm, hz⟩; replace HB := Hk.mk (below_to HB.out hz); clear hz; clear hc hf hl hn' hm; obtain ⟨hc, hf, hl, hn', hm⟩ := kw_rules HB.out hNW))
            exact ⟨⟨k + 1, by go_num, by omega, HB⟩, by simp [intOf]; omega⟩
      · obtain rfl : k = M0 := by omega
        have dk3 : decide ((k : Int) < 10) = false := by simp; omega
        clear hM0
        as_aux_lemma =>
          go_wp2_with (go_at_call 15; (with_reducible refine (wakes10_any _).mono ?_); rintro e z ⟨rfl, hb⟩; replace HB := Hk.mk (kw_step HB.out hNW hb); clear hb; clear hc hf hl hn' hm; obtain ⟨hc, hf, hl, hn', hm⟩ := kw_rules HB.out hNW)
          go_ret
          exact ⟨rfl, HTR.out _ HB.out⟩
    · obtain rfl : k = M0 := by omega
      have dk : decide ((k : Int) < (tn : Int)) = false := by simpa using hlt
      clear hM0
      as_aux_lemma =>
        go_wp2_with (go_at_call 15; (with_reducible refine (wakes10_any _).mono ?_); rintro e z ⟨rfl, hb⟩; replace HB := Hk.mk (kw_step HB.out hNW hb); clear hb; clear hc hf hl hn' hm; obtain ⟨hc, hf, hl, hn', hm⟩ := kw_rules HB.out hNW)
        go_ret
        exact ⟨rfl, HTR.out _ HB.out⟩
end Go.Proofs.Ytifnmgbeepgfiaa
/- Layer 10: any parts with those of one sector reckoned anew, where there are too many or too few. -/
namespace Go.Proofs.Ytifnmgbeepgfiaa
open Go.ChangeShapes Go.WideShapes Go.ChangeAt Go.RowKit Go.Deep
set_option linter.unusedVariables false
set_option linter.unusedSimpArgs false
set_option maxRecDepth 100000 in
set_option maxHeartbeats 6400000 in
theorem sectorRedo_wrong (W H : Int) (fa : Option Addr) (fn fc : Nat) (fr : Nat → Bool) (tb toff : Nat) (tn tc : Nat) (ts : List Int) (pa : Option Addr) (pn pc : Nat) (ps : List Int) (w : World) (hfn : fn ≤ 9223372036854775807) (htn : tn ≤ 9223372036854775807) (hpn : pn ≤ 9223372036854775807) (hfr : Rd w w.heap.size fa fn (fun k => .bool (fr k))) (hts : Nq w w.heap.size (some ⟨tb, toff, none⟩) tn ts) (hps : Nq w w.heap.size (pa) pn ps) (HV : Hk (heavyS fn tn pn = false)) (MM : Hk (mayS W H fn = true)) (hpm : ¬ pn = fn) :
    Calls Try.prog 4 #[.agg #[.int .i64 W, .int .i64 H, .slice fa fn fc, .slice (some ⟨tb, toff, none⟩) tn tc, .slice (pa) pn pc]] w fun e w' => e = .returned (.bool true) ∧ Below w.heap.size w w' := by
  have HWB : Hk (Below w.heap.size w (w.alloc (.cells #[.int .i64 W, .int .i64 H, .slice fa fn fc, .slice (some ⟨tb, toff, none⟩) tn tc, .slice (pa) pn pc] 25))) := ⟨(Below.refl _ _).alloc (Nat.le_refl _) _⟩
  have hNW : (w.heap.size + 1) ≤ (w.alloc (.cells #[.int .i64 W, .int .i64 H, .slice fa fn fc, .slice (some ⟨tb, toff, none⟩) tn tc, .slice (pa) pn pc] 25)).heap.size := by simp
  have HB : Hk (Below (w.heap.size + 1) (w.alloc (.cells #[.int .i64 W, .int .i64 H, .slice fa fn fc, .slice (some ⟨tb, toff, none⟩) tn tc, .slice (pa) pn pc] 25)) (w.alloc (.cells #[.int .i64 W, .int .i64 H, .slice fa fn fc, .slice (some ⟨tb, toff, none⟩) tn tc, .slice (pa) pn pc] 25))) := ⟨Below.refl _ _⟩
  have HTR : Hk (∀ X, Below (w.heap.size + 1) (w.alloc (.cells #[.int .i64 W, .int .i64 H, .slice fa fn fc, .slice (some ⟨tb, toff, none⟩) tn tc, .slice (pa) pn pc] 25)) X → Below w.heap.size w X) := ⟨fun X hX => HWB.out.trans (hX.mono (by omega))⟩
  have hfs : fn ≤ 900 ∧ tn ≤ 60 ∧ pn ≤ 2000 := by have := HV.out; unfold heavyS at this; simp at this; omega
  obtain ⟨⟨w1, w2, h1, h2⟩, hn⟩ := mayS_yes MM.out
  have RF : Hk (mayS W H fn = false ∨ (mayS W H fn = true ∧ ¬ (pn : Int) = W * H)) := ⟨Or.inr ⟨MM.out, fun e => hpm (by rw [← hn] at e; omega)⟩⟩
  have e1 : IntKind.i64.wrap (W * H) = (fn : Int) := by rw [← hn]; exact wr_in' (by omega)
  have hpm2 : ¬ (pn : Int) = (fn : Int) := by omega
  have hned : decide ((pn : Int) = (fn : Int)) = false := decide_eq_false hpm2
  have HPS := Hk.mk (fun (X : World) (hX : Below (w.heap.size + 1) (w.alloc (.cells #[.int .i64 W, .int .i64 H, .slice fa fn fc, .slice (some ⟨tb, toff, none⟩) tn tc, .slice (pa) pn pc] 25)) X) => hps.below (HTR.out X hX) (Nat.le_refl _))
  clear hfr hps hn
  obtain ⟨hc, hf, hl, hn', hm⟩ := kw_rules HB.out hNW
  go_enter Try.func4, Try.ntmps4
  go_wp2_with (go_at_call 6; (with_reducible refine (heavy10_as false W H fa (some ⟨tb, toff, none⟩) (pa) fn fc tn tc pn pc _ hfn htn hpn HV).mono ?_); rintro e z ⟨rfl, hb⟩; replace HB := Hk.mk (kw_step HB.out hNW hb); clear hb; clear hc hf hl hn' hm; obtain ⟨hc, hf, hl, hn', hm⟩ := kw_rules HB.out hNW)
  obtain ⟨M0, hM0⟩ : ∃ M : Nat, M = min tn 10 := ⟨_, rfl⟩
  go_loopw [3] (fun i wr => ∃ k : Nat, i = .int .i64 k ∧ k ≤ M0 ∧ Hk (Below (w.heap.size + 1) (w.alloc (.cells #[.int .i64 W, .int .i64 H, .slice fa fn fc, .slice (some ⟨tb, toff, none⟩) tn tc, .slice (pa) pn pc] 25)) wr)) (fun i _ => M0 - (intOf i).toNat)
  case atStart => exact ⟨0, rfl, by omega, HB⟩
  case round =>
    clear HB
    obtain ⟨k, rfl, hk, HB⟩ := hrel
    clear hc hf hl hn' hm
    obtain ⟨hc, hf, hl, hn', hm⟩ := kw_rules HB.out hNW
    have k0 : (0 : Int) ≤ (k : Int) := by omega
    by_cases hlt : k < tn
    · have k1 : (k : Int) < (tn : Int) := by omega
      have dk : decide ((k : Int) < (tn : Int)) = true := by simpa using hlt
      by_cases hlt2 : k < 10
      · have k2 : (k : Int) < 10 := by omega
        have dk3 : decide ((k : Int) < 10) = true := by simp; omega
        obtain ⟨tb', toff', hta, htb, hcell⟩ := hts.rd (by omega)
        injection hta with hta
        injection hta with hta1 hta2
        subst hta1 hta2
        have tc0 := hcell k hlt
        have htb1 : tb < w.heap.size + 1 := by omega
        obtain ⟨q, hqe⟩ : ∃ q, ts.getD k 0 = q := ⟨_, rfl⟩
        rw [hqe] at tc0
        clear hqe hcell
        as_aux_lemma =>
          go_upto_region 9 with (go_at_call 7; (with_reducible refine (form10_yes W H fa (some ⟨tb, toff, none⟩) (pa) fn fc tn tc pn pc _ MM).mono ?_); rintro e z ⟨rfl, hb⟩; replace HB := Hk.mk (kw_step HB.out hNW hb); clear hb; clear hc hf hl hn' hm; obtain ⟨hc, hf, hl, hn', hm⟩ := kw_rules HB.out hNW)
          clear hc hf hl hn' hm
          go_quiet (fail)
          replace HB := Hk.mk (below_drewN HB.out nq)
          generalize World.drewN _ nq = VR at *
          obtain ⟨hc, hf, hl, hn', hm⟩ := kw_rules HB.out hNW
          go_upto_region 14 with (go_at_call 17; (with_reducible refine (copyi_any pa pn pc ps _ ((HPS.out _ HB.out).mono (hszA HB.out)) (by omega)).mono ?_); rintro e z ⟨v, rfl, ho, hb⟩; obtain ⟨a2, c2, rfl, hc2, hq2⟩ := ho.nq; have HQ2 := Hk.mk hq2; clear ho hq2 hc2; replace HB := Hk.mk (kw_step HB.out hNW hb); clear hb; clear hc hf hl hn' hm; obtain ⟨hc, hf, hl, hn', hm⟩ := kw_rules HB.out hNW)
          refine wp_region_held_drew (S := (fun X => (∀ b o, b < (w.heap.size + 1) → X.cell? ⟨b, o, none⟩ = ((w.alloc (.cells #[.int .i64 W, .int .i64 H, .slice fa fn fc, .slice (some ⟨tb, toff, none⟩) tn tc, .slice (pa) pn pc] 25))).cell? ⟨b, o, none⟩) ∧ Below (w.heap.size + 1) (w.alloc (.cells #[.int .i64 W, .int .i64 H, .slice fa fn fc, .slice (some ⟨tb, toff, none⟩) tn tc, .slice (pa) pn pc] 25)) X)) (by kernel_rfl) ?_ (fun hHeld => ?_)
          · exact kw_S (kw_drew HB.out)
          refine wpAnyH_take (i := 0) (v := ?_) rfl (by kernel_rfl) (by kernel_rfl) (by kernel_rfl) (fun _ _ _ h => h) (Or.inl ⟨by rfl, fun wX hSw => ?_⟩) (by assumption) ?_
          rotate_left
          · (try dsimp only at hSw); go_simp; try with_reducible rfl
          (try simp only [Act.put, List.getElem_toArray, List.getElem_cons_succ, List.getElem_cons_zero, List.setIfInBounds_toArray, List.set_cons_zero, List.set_cons_succ])
          refine wpAnyH_take (i := 1) (v := ?_) rfl (by kernel_rfl) (by kernel_rfl) (by kernel_rfl) (fun _ _ _ h => h) (Or.inl ⟨by rfl, fun wX hSw => ?_⟩) (by assumption) ?_
          rotate_left
          · (try dsimp only at hSw); go_simp; try with_reducible rfl
          (try simp only [Act.put, List.getElem_toArray, List.getElem_cons_succ, List.getElem_cons_zero, List.setIfInBounds_toArray, List.set_cons_zero, List.set_cons_succ])
          refine wpAnyH_take (i := 2) (v := ?_) rfl (by kernel_rfl) (by kernel_rfl) (by kernel_rfl) (fun _ _ _ h => h) (Or.inl ⟨by rfl, fun wX hSw => ?_⟩) (by assumption) ?_
          rotate_left
          · (try dsimp only at hSw); go_simp; try with_reducible rfl
          (try simp only [Act.put, List.getElem_toArray, List.getElem_cons_succ, List.getElem_cons_zero, List.setIfInBounds_toArray, List.set_cons_zero, List.set_cons_succ])
          refine wpAnyH_take (i := 3) (v := ?_) rfl (by kernel_rfl) (by kernel_rfl) (by kernel_rfl) (fun _ _ _ h => h) (Or.inl ⟨by rfl, fun wX hSw => ?_⟩) (by assumption) ?_
          rotate_left
          · (try dsimp only at hSw); go_simp; try with_reducible rfl
          (try simp only [Act.put, List.getElem_toArray, List.getElem_cons_succ, List.getElem_cons_zero, List.setIfInBounds_toArray, List.set_cons_zero, List.set_cons_succ])
          refine wpAnyH_take (i := 4) (v := ?_) rfl (by kernel_rfl) (by kernel_rfl) (by kernel_rfl) (fun _ _ _ h => h) (Or.inl ⟨by rfl, fun wX hSw => ?_⟩) (by assumption) ?_
          rotate_left
          · (try dsimp only at hSw); go_simp; try with_reducible rfl
          (try simp only [Act.put, List.getElem_toArray, List.getElem_cons_succ, List.getElem_cons_zero, List.setIfInBounds_toArray, List.set_cons_zero, List.set_cons_succ])
          refine wpAnyH_take (i := 5) (v := ?_) rfl (by kernel_rfl) (by kernel_rfl) (by kernel_rfl) (fun _ _ _ h => h) (Or.inl ⟨by rfl, fun wX hSw => ?_⟩) (by assumption) ?_
          rotate_left
          · (try dsimp only at hSw); go_simp; try with_reducible rfl
          (try simp only [Act.put, List.getElem_toArray, List.getElem_cons_succ, List.getElem_cons_zero, List.setIfInBounds_toArray, List.set_cons_zero, List.set_cons_succ])
          refine wpAnyH_take (i := 6) (v := ?_) rfl (by kernel_rfl) (by kernel_rfl) (by kernel_rfl) (fun _ _ _ h => h) (Or.inl ⟨by rfl, fun wX hSw => ?_⟩) (by assumption) ?_
          rotate_left
          · (try dsimp only at hSw); go_simp; try with_reducible rfl
          (try simp only [Act.put, List.getElem_toArray, List.getElem_cons_succ, List.getElem_cons_zero, List.setIfInBounds_toArray, List.set_cons_zero, List.set_cons_succ])
          refine wpAnyH_take (i := 7) (v := ?_) rfl (by kernel_rfl) (by kernel_rfl) (by kernel_rfl) (fun _ _ _ h => h) (Or.inl ⟨by rfl, fun wX hSw => ?_⟩) (by assumption) ?_
          rotate_left
          · (try dsimp only at hSw); go_simp; try with_reducible rfl
          (try simp only [Act.put, List.getElem_toArray, List.getElem_cons_succ, List.getElem_cons_zero, List.setIfInBounds_toArray, List.set_cons_zero, List.set_cons_succ])
          refine wpAnyH_take (i := 8) (v := ?_) rfl (by kernel_rfl) (by kernel_rfl) (by kernel_rfl) (fun _ _ _ h => h) (Or.inl ⟨by rfl, fun wX hSw => ?_⟩) (by assumption) ?_
          rotate_left
          · (try dsimp only at hSw); go_simp; try with_reducible rfl
          (try simp only [Act.put, List.getElem_toArray, List.getElem_cons_succ, List.getElem_cons_zero, List.setIfInBounds_toArray, List.set_cons_zero, List.set_cons_succ])
          refine wpAnyH_take (i := 9) (v := ?_) rfl (by kernel_rfl) (by kernel_rfl) (by kernel_rfl) (fun _ _ _ h => h) (Or.inl ⟨by rfl, fun wX hSw => ?_⟩) (by assumption) ?_
          rotate_left
          · (try dsimp only at hSw); go_simp; try with_reducible rfl
          (try simp only [Act.put, List.getElem_toArray, List.getElem_cons_succ, List.getElem_cons_zero, List.setIfInBounds_toArray, List.set_cons_zero, List.set_cons_succ])
          refine wpAnyH_take (i := 10) (v := ?_) rfl (by kernel_rfl) (by kernel_rfl) (by kernel_rfl) (fun _ _ _ h => h) (Or.inl ⟨by rfl, fun wX hSw => ?_⟩) (by assumption) ?_
          rotate_left
          · (try dsimp only at hSw); go_simp; try with_reducible rfl
          (try simp only [Act.put, List.getElem_toArray, List.getElem_cons_succ, List.getElem_cons_zero, List.setIfInBounds_toArray, List.set_cons_zero, List.set_cons_succ])
          refine wpAnyH_take (i := 11) (v := ?_) rfl (by kernel_rfl) (by kernel_rfl) (by kernel_rfl) (fun _ _ _ h => h) (Or.inl ⟨by rfl, fun wX hSw => ?_⟩) (by assumption) ?_
          rotate_left
          · (try dsimp only at hSw); go_simp; try with_reducible rfl
          (try simp only [Act.put, List.getElem_toArray, List.getElem_cons_succ, List.getElem_cons_zero, List.setIfInBounds_toArray, List.set_cons_zero, List.set_cons_succ])
          refine wpAnyH_ready (rs := [12]) (by kernel_rfl) (by simp) ?_
          refine AllReadyH.cons rfl (fun K hK => ?_) (AllReadyH.nil)
          go_simp
          ((go_at_call 18; (with_reducible refine (sredo_form W H q fa a2 fn fc pn c2 _ RF).mono ?_); rintro e z ⟨rfl, hb⟩; have HQ3 : Hk (Nq z z.heap.size a2 pn ps) := ⟨by first | exact nq_later10 HQ2.out hb | exact nq_later10 (nqD10 HQ2.out) hb⟩; replace HQ2 := HQ3; clear HQ3; have hB2 : Hk (Below (w.heap.size + 1) (w.alloc (.cells #[.int .i64 W, .int .i64 H, .slice fa fn fc, .slice (some ⟨tb, toff, none⟩) tn tc, .slice (pa) pn pc] 25)) z) := ⟨by first | exact kw_step HB.out hNW hb | exact kw_step HB.out.drew hNW hb⟩; clear hb; replace HB := hB2; clear hB2; clear hc hf hl hn' hm; obtain ⟨hc, hf, hl, hn', hm⟩ := kw_rules HB.out hNW))
          refine hK.out _ _ ?_ (fun hHeld => ?_)
          · exact kw_S HB.out
          clear hK K
          (try simp only [Act.put, List.getElem_toArray, List.getElem_cons_succ, List.getElem_cons_zero, List.setIfInBounds_toArray, List.set_cons_zero, List.set_cons_succ])
          refine wpAnyH_take (i := 13) (v := ?_) rfl (by kernel_rfl) (by kernel_rfl) (by kernel_rfl) (fun _ _ _ h => h) (Or.inl ⟨by rfl, fun wX hSw => ?_⟩) (by assumption) ?_
          rotate_left
          · (try dsimp only at hSw); go_simp; try with_reducible rfl
          (try simp only [Act.put, List.getElem_toArray, List.getElem_cons_succ, List.getElem_cons_zero, List.setIfInBounds_toArray, List.set_cons_zero, List.set_cons_succ])
          refine wpAnyH_take (i := 14) (v := ?_) rfl (by kernel_rfl) (by kernel_rfl) (by kernel_rfl) (fun _ _ _ h => h) (Or.inl ⟨by rfl, fun wX hSw => ?_⟩) (by assumption) ?_
          rotate_left
          · (try dsimp only at hSw); go_simp; try with_reducible rfl
          (try simp only [Act.put, List.getElem_toArray, List.getElem_cons_succ, List.getElem_cons_zero, List.setIfInBounds_toArray, List.set_cons_zero, List.set_cons_succ])
          refine wpAnyH_take (i := 15) (v := ?_) rfl (by kernel_rfl) (by kernel_rfl) (by kernel_rfl) (fun _ _ _ h => h) (Or.inl ⟨by rfl, fun wX hSw => ?_⟩) (by assumption) ?_
          rotate_left
          · (try dsimp only at hSw); go_simp; try with_reducible rfl
          (try simp only [Act.put, List.getElem_toArray, List.getElem_cons_succ, List.getElem_cons_zero, List.setIfInBounds_toArray, List.set_cons_zero, List.set_cons_succ])
          refine wpAnyH_take (i := 16) (v := ?_) rfl (by kernel_rfl) (by kernel_rfl) (by kernel_rfl) (fun _ _ _ h => h) (Or.inl ⟨by rfl, fun wX hSw => ?_⟩) (by assumption) ?_
          rotate_left
          · (try dsimp only at hSw); go_simp; try with_reducible rfl
          (try simp only [Act.put, List.getElem_toArray, List.getElem_cons_succ, List.getElem_cons_zero, List.setIfInBounds_toArray, List.set_cons_zero, List.set_cons_succ])
          refine wpAnyH_take (i := 17) (v := ?_) rfl (by kernel_rfl) (by kernel_rfl) (by kernel_rfl) (fun _ _ _ h => h) (Or.inl ⟨by rfl, fun wX hSw => ?_⟩) (by assumption) ?_
          rotate_left
          · (try dsimp only at hSw); go_simp; try with_reducible rfl
          (try simp only [Act.put, List.getElem_toArray, List.getElem_cons_succ, List.getElem_cons_zero, List.setIfInBounds_toArray, List.set_cons_zero, List.set_cons_succ])
          refine wpAnyH_done (by kernel_rfl) ?_ _
          as_aux_lemma =>
            go_wp2_with (first | (go_at_call 11; (with_reducible refine (num10_any _ _).mono ?_); rintro e z ⟨rfl, rfl⟩) | (go_at_call 12; (with_reducible refine (eqn_yes none none 0 0 0 0 0 [] _ (Nq.nil _ _ _) (Nq.nil _ _ _) (by omega)).mono ?_); rintro e z ⟨rfl, mm, hz⟩; replace HQ2 := Hk.mk (nq_to HQ2.out hz); replace HB := Hk.mk (below_to HB.out hz); clear hz; clear hc hf hl hn' hm; obtain ⟨hc, hf, hl, hn', hm⟩ := kw_rules HB.out hNW) | (go_at_call 12; (with_reducible refine (eqn_yes a2 pa pn c2 pc _ _ ps _ HQ2.out (HPS.out _ HB.out) (by omega)).mono ?_); rintro e z ⟨rfl, mm, hz⟩; replace HB := Hk.mk (below_to HB.out hz); clear hz; clear hc hf hl hn' hm; obtain ⟨hc, hf, hl, hn', hm⟩ := kw_rules HB.out hNW))
            exact ⟨⟨k + 1, by go_num, by omega, HB⟩, by simp [intOf]; omega⟩
      · obtain rfl : k = M0 := by omega
        have dk3 : decide ((k : Int) < 10) = false := by simp; omega
        clear hM0
        as_aux_lemma =>
          go_wp2_with (go_at_call 15; (with_reducible refine (wakes10_any _).mono ?_); rintro e z ⟨rfl, hb⟩; replace HB := Hk.mk (kw_step HB.out hNW hb); clear hb; clear hc hf hl hn' hm; obtain ⟨hc, hf, hl, hn', hm⟩ := kw_rules HB.out hNW)
          go_ret
          exact ⟨rfl, HTR.out _ HB.out⟩
    · obtain rfl : k = M0 := by omega
      have dk : decide ((k : Int) < (tn : Int)) = false := by simpa using hlt
      clear hM0
      as_aux_lemma =>
        go_wp2_with (go_at_call 15; (with_reducible refine (wakes10_any _).mono ?_); rintro e z ⟨rfl, hb⟩; replace HB := Hk.mk (kw_step HB.out hNW hb); clear hb; clear hc hf hl hn' hm; obtain ⟨hc, hf, hl, hn', hm⟩ := kw_rules HB.out hNW)
        go_ret
        exact ⟨rfl, HTR.out _ HB.out⟩
end Go.Proofs.Ytifnmgbeepgfiaa
