import Derived.Deep.QuietTactic
import Derived.BigQuiet
import Derived.Deep.RegionWith
import Derived.Deep.RegionHeld3
import Derived.Deep.DeepCutAuto
import Derived.Deep.DeepFit
import Derived.Outline
import Derived.Test.YtdpblimhfmfbnaaGreatZvad
set_option linter.unusedVariables false
set_option linter.unusedSimpArgs false
namespace Go.Proofs.YtdpblimhfmfbnaaGreat
open Go.ChangeShapes Go.WideShapes Go.ChangeAt Go.RowKit Go.Deep
structure Pm where
 i : Int
 n : Int
 d : Int
 t : Int
 s : Int
 m : List In
 l : List In
 h : List Int
 a : List Int
 x : List Int
 b : Bool
structure Pv where
 i : Int
 n : Int
 d : Int
 t : Int
 s : Int
 ma : Option Addr
 mn : Nat
 mc : Nat
 ml : List Iv
 la : Option Addr
 ln : Nat
 lc : Nat
 ll : List Iv
 ha : Option Addr
 hn : Nat
 hc : Nat
 hl : List Int
 aa : Option Addr
 an : Nat
 ac : Nat
 al : List Int
 xa : Option Addr
 xn : Nat
 xc : Nat
 xl : List Int
 b : Bool
def Pv.ab (p : Pv) : Pm := ⟨p.i, p.n, p.d, p.t, p.s, abI p.ml, abI p.ll, p.hl, p.al, p.xl, p.b⟩
def Pv.cs (p : Pv) : List Value := [.int .i64 p.i, .int .i64 p.n, .int .i64 p.d, .int .i64 p.t, .int .i64 p.s, .slice p.ma p.mn p.mc, .slice p.la p.ln p.lc, .slice p.ha p.hn p.hc, .slice p.aa p.an p.ac, .slice p.xa p.xn p.xc, .bool p.b]
def shU : Sh Int := ⟨fun x => [.int .u64 x], 1, fun _ => rfl, fun x u hu => by
 simp at hu
 subst hu
 rfl⟩
structure PvD (w : World) (B : Nat) (p : Pv) : Prop where
 m : InD w B p.ma p.mn p.ml
 l : InD w B p.la p.ln p.ll
 h : Nq w B p.ha p.hn p.hl
 a : Nq w B p.aa p.an p.al
 x : Qv shU w B p.xa p.xn p.xl
theorem PvD.below {w w' : World} {B B' : Nat} {p : Pv} (h : PvD w B p) (hb : Below B' w w') (hB : B ≤ B') : PvD w' B p := ⟨h.m.below hb hB, h.l.below hb hB, h.h.below hb hB, h.a.below hb hB, h.x.below hb hB⟩
theorem PvD.mono {w : World} {B B' : Nat} {p : Pv} (h : PvD w B p) (hB : B ≤ B') : PvD w B' p := ⟨h.m.mono hB, h.l.mono hB, h.h.mono hB, h.a.mono hB, h.x.mono hB⟩
theorem PvD.later {w w' : World} {p : Pv} (h : PvD w w.heap.size p) (hb : Below w.heap.size w w') : PvD w' w'.heap.size p := (h.below hb (Nat.le_refl _)).mono hb.size
theorem PvD.drewN {w : World} {B : Nat} {p : Pv} (h : PvD w B p) (k : Nat) : PvD (w.drewN k) B p := ⟨h.m.drewN k, h.l.drewN k, h.h.drewN k, h.a.drewN k, h.x.drewN k⟩
structure PvS (p : Pv) : Prop where
 m : SmI p.ml
 l : SmI p.ll
 h : p.hn ≤ 1048576
 a : p.an ≤ 1048576
 x : p.xn ≤ 1048576
structure CntP (p : Pm) : Prop where
 n1 : 1 ≤ p.n
 n2 : p.n ≤ 8
 i1 : 1 ≤ p.i
 i2 : p.i ≤ p.n
 d1 : 1 ≤ p.d
 d2 : p.d ≤ 8
 t1 : 0 ≤ p.t
 t2 : p.t ≤ 1099511627776
 s1 : p.d - 1 ≤ p.s
 s2 : p.s ≤ p.t + p.d - 1
 s3 : p.s ≤ 1099511627776
structure KnP (p : Pm) : Prop where
 h1 : (p.h.length : Int) = p.n
 a1 : (p.a.length : Int) = p.n
 h2 : p.h.getD (p.i.toNat - 1) 0 = p.s
 a2 : p.a.getD (p.i.toNat - 1) 0 = p.s
 all : ∀ k, k < p.h.length → max p.d p.t - 1 ≤ p.h.getD k 0 ∧ p.h.getD k 0 ≤ p.t + 16 ∧ p.h.getD k 0 ≤ 1099511627776 ∧ p.d - 1 ≤ p.a.getD k 0 ∧ p.a.getD k 0 ≤ p.s
structure WtP (p : Pm) : Prop where
 o : ordN none p.l = true
 all : ∀ x, x ∈ p.l → p.t ≤ x.t ∧ x.p ≤ p.n ∧ x.t ≤ p.h.getD (x.p.toNat - 1) 0
def minL : List Int → Int
 | [] => 0
 | [x] => x
 | x :: y :: l => min x (minL (y :: l))
structure KpP (p : Pm) : Prop where
 n : (p.m.length : Int) = p.s - minL p.a
 all : ∀ (k : Nat) x, p.m[k]? = some x → okN x = true ∧ x.p = p.i ∧ x.t = minL p.a + 1 + k
structure OkP (p : Pm) : Prop where
 c : CntP p
 k : KnP p
 w : WtP p
 e : KpP p
 x1 : p.x.length ≤ 16
 x2 : (p.x.length : Int) ≤ p.t
theorem r_no {P : Prop} {r : Bool} (E : P ↔ r = true) (h : ¬ P) : r = false := by
 cases r
 ·rfl
 ·exact absurd (E.2 rfl) h
theorem no_as {P : Prop} {r : Bool} (E : P ↔ r = true) (h : ¬ P) : Ending.returned (.bool false) = .returned (.bool r) := by rw [r_no E h]
theorem yes_as {P : Prop} {r : Bool} (E : P ↔ r = true) (h : P) : Ending.returned (.bool true) = .returned (.bool r) := by rw [E.1 h]
theorem dec_as {P Q : Prop} [Decidable Q] {r : Bool} (E : P ↔ r = true) (h : Q ↔ P) : Ending.returned (.bool (decide Q)) = .returned (.bool r) := by
 congr 2
 cases r
 ·exact decide_eq_false fun q => by cases E.1 (h.1 q)
 ·exact decide_eq_true (h.2 (E.2 rfl))
theorem bool_as {P : Prop} {b r : Bool} (E : P ↔ r = true) (h : b = true ↔ P) : Ending.returned (.bool b) = .returned (.bool r) := by
 congr 2
 cases b <;> cases r <;> simp_all
theorem cnt_iff (p : Pv) : CntP p.ab ↔ (1 ≤ p.n ∧ p.n ≤ 8 ∧ 1 ≤ p.i ∧ p.i ≤ p.n ∧ 1 ≤ p.d ∧ p.d ≤ 8 ∧ 0 ≤ p.t ∧ p.t ≤ 1099511627776 ∧ p.d - 1 ≤ p.s ∧ p.s ≤ p.t + p.d - 1 ∧ p.s ≤ 1099511627776) :=
 ⟨fun h => ⟨h.n1, h.n2, h.i1, h.i2, h.d1, h.d2, h.t1, h.t2, h.s1, h.s2, h.s3⟩, fun ⟨a1, a2, a3, a4, a5, a6, a7, a8, a9, a10, a11⟩ => ⟨a1, a2, a3, a4, a5, a6, a7, a8, a9, a10, a11⟩⟩
end Go.Proofs.YtdpblimhfmfbnaaGreat
namespace Go.Proofs.YtdpblimhfmfbnaaGreat
open Go.ChangeShapes Go.WideShapes Go.ChangeAt Go.RowKit Go.Deep
theorem flt_U (l : List Int) : flt shU l = l.map (Value.int .u64) := by
 induction l with
 | nil => rfl
 | cons a l ih => rw [flt_cons, ih]; rfl
theorem info_u : (Tryz.prog.info? 41).map (fun i => (i.zero, i.size, i.bytes)) = some (some (.int .u64 0), 1, 8) := by kernel_rfl
theorem Qv.atu {w : World} {B n : Nat} {a : Option Addr} {xs : List Int} (h : Qv shU w B a n xs) (hn : 0 < n) : ∃ b off, a = some ⟨b, off, none⟩ ∧ b < B ∧ ∀ k, k < n → w.cell? ⟨b, off + k, none⟩ = some (.int .u64 (xs.getD k 0)) := by
 obtain ⟨b, off, e, hb, hc⟩ := h.rd hn
 refine ⟨b, off, e, hb, fun k hk => ?_⟩
 have hk' : k < xs.length := by rw [h.len]; exact hk
 have := hc k hk' 0 (by decide)
 rw [show off + k * shU.z + 0 = off + k by show off + k * 1 + 0 = off + k; omega] at this
 rw [this]
 simp [shU, List.getD, hk']
theorem equ_as (r : Bool) (a a' : Option Addr) (n n' c c' : Nat) (xs ys : List Int) (w : World) (h : Qv shU w w.heap.size a n xs) (h' : Qv shU w w.heap.size a' n' ys) (hn : n ≤ 1099511627776) (hn' : n' ≤ 1099511627776) (E : Hk (decide (xs = ys) = r)) :
  Calls Tryz.prog 74 #[.slice a n c, .slice a' n' c'] w fun e w' => e = .returned (.bool r) ∧ ∃ m, w' = w.drewN m := by
 have H := Hk.mk h
 have H' := Hk.mk h'
 have l1 := h.len
 have l2 := h'.len
 clear h h'
 by_cases hne : n = n'
 ·subst hne
  have e0 : ((n : Int) == (n : Int)) = true := by simp
  go_enter Tryz.func74, Tryz.ntmps74
  go_wp2
  go_loopw [5] (fun i wr => ∃ k : Nat, k ≤ n ∧ i = .int .i64 k ∧ Hk (xs.take k = ys.take k) ∧ Hk (∃ m, wr = w.drewN m)) (fun i _ => n - (intOf i).toNat)
  case atStart => exact ⟨0, Nat.zero_le _, rfl, ⟨rfl⟩, ⟨0, rfl⟩⟩
  case round =>
   obtain ⟨k, hk, rfl, HT, HB⟩ := hrel
   by_cases hlt : k < n
   ·obtain ⟨b, off, rfl, hbl, hc⟩ := H.out.atu (by omega)
    obtain ⟨b', off', rfl, hbl', hc'⟩ := H'.out.atu (by omega)
    have hcx : wr.cell? ⟨b, off + k, none⟩ = some (.int .u64 (xs.getD k 0)) := by obtain ⟨m, rfl⟩ := HB.out; exact hc k hlt
    have hcy : wr.cell? ⟨b', off' + k, none⟩ = some (.int .u64 (ys.getD k 0)) := by obtain ⟨m, rfl⟩ := HB.out; exact hc' k hlt
    clear hc hc'
    have hx : xs.take (k + 1) = xs.take k ++ [xs.getD k 0] := by rw [List.take_succ_eq_append_getElem (by omega)]; simp [List.getD, List.getElem?_eq_getElem (show k < xs.length by omega)]
    have hy : ys.take (k + 1) = ys.take k ++ [ys.getD k 0] := by rw [List.take_succ_eq_append_getElem (by omega)]; simp [List.getD, List.getElem?_eq_getElem (show k < ys.length by omega)]
    have HX := Hk.mk hx
    have HY := Hk.mk hy
    clear hx hy l1 l2
    generalize xs.getD k 0 = x at *
    generalize ys.getD k 0 = y at *
    have i1 : (0 : Int) ≤ (k : Int) := by omega
    have i2 : (k : Int) < (n : Int) := by omega
    by_cases q : x = y
    ·subst q
     have b1 : (x == x) = true := by simp
     go_wp2
     go_quiet (fail)
     go_wp2
     go_roundw
     case rel => exact ⟨k + 1, by omega, by go_num, ⟨by rw [HX.out, HY.out, HT.out]⟩, ⟨by obtain ⟨m, rfl⟩ := HB.out; exact ⟨_, by rw [World.drewN_drewN]⟩⟩⟩
     case measure => simp [intOf]; omega
    ·have b1 : (x == y) = false := by simp; omega
     have R : Hk (false = r) := ⟨by
      rw [← E.out]
      symm
      simp only [decide_eq_false_iff_not]
      intro e
      have h1 := HX.out
      rw [e, HY.out] at h1
      have := List.append_inj_right' h1 rfl
      simp at this; omega⟩
     go_wp2
     go_quiet (fail)
     go_wp2
     go_ret
     exact ⟨rb R.out, by obtain ⟨m, rfl⟩ := HB.out; exact ⟨_, by rw [World.drewN_drewN]⟩⟩
   ·have hkn : k = n := by omega
    subst hkn
    have R : Hk (true = r) := ⟨by
     rw [← E.out]
     have h1 := HT.out
     rw [List.take_of_length_le (by omega), List.take_of_length_le (by omega)] at h1
     simp [h1]⟩
    go_wp2
    go_ret
    exact ⟨rb R.out, HB.out⟩
 ·have b1 : ((n : Int) == (n' : Int)) = false := by simp; omega
  have b2 : ((n : Int) != (n' : Int)) = true := by simp; omega
  have R : Hk (false = r) := ⟨by
   rw [← E.out]; symm; simp only [decide_eq_false_iff_not]; intro e; rw [e] at l1; omega⟩
  clear l1 l2
  go_enter Tryz.func74, Tryz.ntmps74
  go_wp2
  go_ret
  exact ⟨rb R.out, 0, rfl⟩
theorem take_mapu (xs : List Int) (k : Nat) (h : k < xs.length) : List.take k (List.map (Value.int .u64) xs) ++ [.int .u64 (xs[k]?.getD 0)] = (xs.take (k + 1)).map (Value.int .u64) := by
 rw [List.take_succ_eq_append_getElem h, List.map_append, List.map_take]
 simp [List.getElem?_eq_getElem h]
theorem copyu_any (a : Option Addr) (n c : Nat) (xs : List Int) (w : World) (h : Qv shU w w.heap.size a n xs) (hn : n ≤ 1099511627776) :
  Calls Tryz.prog 28 #[.slice a n c] w fun e w' => ∃ v, e = .returned v ∧ Ow shU 41 w' w.heap.size v n xs ∧ Below w.heap.size w w' := by
 obtain ⟨i0, hi, hz0, hz1, hz2⟩ := info_parts info_u
 have H := Hk.mk h
 clear h
 go_enter Tryz.func28, Tryz.ntmps28
 go_wp2
 go_loopw [3, 4] (fun m i wr => ∃ k : Nat, k ≤ n ∧ i = .int .i64 k ∧ Hk (wr.ownsRow w.heap.size 41 1 m k ((xs.take k).map (Value.int .u64))) ∧ Hk (Below w.heap.size w wr)) (fun _ i _ => n - (intOf i).toNat)
 case atStart => exact ⟨0, Nat.zero_le _, rfl, ⟨World.ownsRow_nil _ _ _ _⟩, ⟨Below.refl _ _⟩⟩
 case round =>
  obtain ⟨k, hk, rfl, HO, HB⟩ := hrel
  by_cases hlt : k < n
  ·obtain ⟨b, off, rfl, hbl, hc⟩ := H.out.atu (by omega)
   have hcx := (HB.out.cell (p := ⟨b, off + k, none⟩) hbl).trans (hc k hlt)
   have hsz := HB.out.size
   have hown := HO.out
   clear hc
   go_wp2_with (at_builtin; refine wpList_append_own _ rfl _ _ 24 rfl w.heap.size 41 i0 (.int .u64 0) 1 8 Tryz.underlying24 hi hz0 hz1 hz2 rfl (by decide) _ _ _ rfl (hown.alloc _) ⟨wr.heap.size, 0, none⟩ 1 1 [.int .u64 (xs.getD k 0)] rfl rfl ?c1 ?c2 ?c3 ?c4 ?c5 ?_)
   case c1 =>
    intro j u hj
    match j, hj with
    | 0, hj => simp at hj; subst hj; simp [Addr.add]
   case c2 => intro u hu; simp at hu; subst hu; rfl
   case c3 => unfold maxLen; omega
   case c4 => omega
   case c5 => simp; omega
   ·intro v' w1 hown' hgrow _
    rw [take_mapu xs k (by rw [H.out.len]; exact hlt)] at hown'
    have HO2 := Hk.mk hown'
    have HB2 := Hk.mk ((HB.out.alloc hsz (.cells #[.int .u64 (xs.getD k 0)] 41)).grown hgrow (by simp; omega) (fun g hg => (hown.lt g hg).1))
    clear hown' hgrow hown HO HB hcx
    go_wp2
    go_roundw
    case rel => exact ⟨k + 1, by omega, by go_num, HO2, HB2⟩
    case measure => simp [intOf]; omega
  ·have hkn : k = n := by omega
   subst hkn
   go_wp2
   go_ret
   exact ⟨_, rfl, ⟨H.out.len, by rw [flt_U]; have := HO.out; rwa [List.take_of_length_le (by rw [H.out.len]; omega)] at this⟩, HB.out⟩
set_option maxRecDepth 100000 in
theorem cloneu_any (a : Option Addr) (n c B : Nat) (l : List Int) (X : World) (h : Qv shU X B a n l) (hB : B ≤ X.heap.size) (hn : n ≤ 1048576) :
  Calls Tryz.prog 88 #[.slice a n c] X fun e z => ∃ v, e = .returned v ∧ Ow shU 41 z X.heap.size v n l ∧ Below X.heap.size X z := by
 have HH := Hk.mk h
 cases a with
 | none =>
  obtain rfl : n = 0 := by
   rcases Nat.eq_zero_or_pos n with h0 | h0
   ·exact h0
   ·obtain ⟨_, _, e, _⟩ := h.rd h0; cases e
  obtain rfl : l = [] := List.eq_nil_of_length_eq_zero h.len
  clear h HH
  have q : ∀ w : World, (binOp .eql 24 (.slice none 0 c) (.slice none 0 0)).run Tryz.prog w = .ok (.bool true) w := fun w => Lib.run_eql_slice_nil w _ _ none 0 c 0 0 Tryz.underlying24
  go_enter Tryz.func88, Tryz.ntmps88
  go_wp2
  go_ret
  exact ⟨_, rfl, Ow.nil _ _, Below.refl _ _⟩
 | some ad =>
  obtain ⟨i0, hi, hz0, hz1, hz2⟩ := info_parts info_u
  have q : ∀ w : World, (binOp .eql 24 (.slice (some ad) n c) (.slice none 0 0)).run Tryz.prog w = .ok (.bool false) w := fun w => Lib.run_eql_slice_nil w _ _ (some ad) n c 0 0 Tryz.underlying24
  have HN := Hk.mk ((h.below ((Below.refl X.heap.size X).alloc (Nat.le_refl _) (.cells #[] 41)) hB).news (by decide))
  have hlen := h.len
  have HF := Hk.mk (show (flt shU l).length = n * 1 by rw [flt_len, hlen]; rfl)
  have HL := Hk.mk hlen
  have hown : (X.alloc (.cells #[] 41)).ownsRow X.heap.size 41 1 (.slice (some ⟨X.heap.size, 0, none⟩) 0 0) 0 [] := ⟨rfl, Or.inr ⟨X.heap.size, 0, #[], rfl, Nat.le_refl _, heap_alloc_new X _, Nat.le_refl _, by unfold maxLen; omega, rfl, rfl⟩⟩
  have HOW := Hk.mk hown
  clear h hlen hown
  go_enter Tryz.func88, Tryz.ntmps88
  go_wp2_with (at_builtin; go_must (refine wpList_append_own _ rfl _ _ 24 rfl X.heap.size 41 i0 (.int .u64 0) 1 8 Tryz.underlying24 hi hz0 hz1 hz2 rfl (by decide) _ 0 [] rfl HOW.out ad n c (flt shU l) rfl HF.out HN.out (flt_one shU l) (by unfold maxLen; omega) (by omega) ?c5 ?_))
  case c5 => simp
  intro v z hown2 hgrow hnil
  clear hnil
  have HO2 : Hk (Ow shU 41 z X.heap.size v n l) := ⟨⟨HL.out, hown2⟩⟩
  have HB2 : Hk (Below X.heap.size X z) := ⟨((Below.refl X.heap.size X).alloc (Nat.le_refl _) (.cells #[] 41)).grown hgrow (by simp) (fun g hg => by simp [Value.ownBlock] at hg; omega)⟩
  clear hown2 hgrow HOW
  go_wp2
  go_ret
  exact ⟨_, rfl, HO2.out, HB2.out⟩
end Go.Proofs.YtdpblimhfmfbnaaGreat
namespace Go.Proofs.YtdpblimhfmfbnaaGreat
open Go.ChangeShapes Go.WideShapes Go.ChangeAt Go.RowKit Go.Deep
structure PvO (w : World) (B : Nat) (p : Pv) : Prop where
 m : OwN w B (.slice p.ma p.mn p.mc) p.mn p.ml
 l : OwN w B (.slice p.la p.ln p.lc) p.ln p.ll
 h : OwnI w B (.slice p.ha p.hn p.hc) p.hn p.hl
 a : OwnI w B (.slice p.aa p.an p.ac) p.an p.al
 x : Ow shU 41 w B (.slice p.xa p.xn p.xc) p.xn p.xl
theorem OwnI.nq2 {w : World} {B n c : Nat} {a : Option Addr} {u : List Int} (h : OwnI w B (.slice a n c) n u) : Nq w w.heap.size a n u := by
 obtain ⟨a', c', e, _, hq⟩ := h.nq
 injection e with e1 e2 e3
 subst e1
 exact hq
theorem PvO.d {w : World} {B : Nat} {p : Pv} (h : PvO w B p) : PvD w w.heap.size p := ⟨h.m.d, h.l.d, h.h.nq2, h.a.nq2, h.x.qv⟩
theorem PvO.below {w z : World} {B : Nat} {p : Pv} (h : PvO w B p) (hb : Below w.heap.size w z) : PvO z B p := ⟨h.m.below hb, h.l.below hb, h.h.below hb, h.a.below hb, h.x.below hb⟩
theorem PvO.weak {w : World} {B B' : Nat} {p : Pv} (h : PvO w B p) (hb : B' ≤ B) : PvO w B' p := ⟨h.m.weak hb, h.l.weak hb, h.h.weak hb, h.a.weak hb, h.x.weak hb⟩
theorem OwN.up {M : Nat → Prop} {w w' : World} {base n : Nat} {v : Value} {l : List Iv} (h : OwN w base v n l) (k : Fr M w w') (hm : ∀ j, base ≤ j → ¬ M j) : OwN w' base v n l := ⟨h.o.fr k fun j hj => hm j (h.o.lt j hj).1, fun x hx => (h.u x hx).up k hm⟩
def CpP (w : World) (p : Pv) (e : Ending) (z : World) : Prop := ∃ q : Pv, e = .returned (.agg #[.int .i64 q.i, .int .i64 q.n, .int .i64 q.d, .int .i64 q.t, .int .i64 q.s, .slice q.ma q.mn q.mc, .slice q.la q.ln q.lc, .slice q.ha q.hn q.hc, .slice q.aa q.an q.ac, .slice q.xa q.xn q.xc, .bool q.b]) ∧ PvO z w.heap.size q ∧ q.ab = p.ab ∧ q.mn = p.mn ∧ q.ln = p.ln ∧ q.hn = p.hn ∧ q.an = p.an ∧ q.xn = p.xn ∧ Below w.heap.size w z
set_option maxRecDepth 100000 in
set_option maxHeartbeats 3200000 in
theorem copyp_any (p : Pv) (w : World) (h : PvD w w.heap.size p) (hs : PvS p) :
  Calls Tryz.prog 11 #[.agg #[.int .i64 p.i, .int .i64 p.n, .int .i64 p.d, .int .i64 p.t, .int .i64 p.s, .slice p.ma p.mn p.mc, .slice p.la p.ln p.lc, .slice p.ha p.hn p.hc, .slice p.aa p.an p.ac, .slice p.xa p.xn p.xc, .bool p.b]] w (CpP w p) := by
 have HH := Hk.mk h
 have HS := Hk.mk hs
 have hhn : p.hn ≤ 1048576 := hs.h
 have han : p.an ≤ 1048576 := hs.a
 have hxn : p.xn ≤ 1048576 := hs.x
 have HB : Hk (Below w.heap.size w (((w.alloc (.cells #[.int .i64 p.i, .int .i64 p.n, .int .i64 p.d, .int .i64 p.t, .int .i64 p.s, .slice p.ma p.mn p.mc, .slice p.la p.ln p.lc, .slice p.ha p.hn p.hc, .slice p.aa p.an p.ac, .slice p.xa p.xn p.xc, .bool p.b] 26)).alloc (.cells #[.int .i64 0, .int .i64 0, .int .i64 0, .int .i64 0, .int .i64 0, .slice none 0 0, .slice none 0 0, .slice none 0 0, .slice none 0 0, .slice none 0 0, .bool false] 26)).alloc (.cells #[.int .i64 p.i, .int .i64 p.n, .int .i64 p.d, .int .i64 p.t, .int .i64 p.s, .slice p.ma p.mn p.mc, .slice p.la p.ln p.lc, .slice p.ha p.hn p.hc, .slice p.aa p.an p.ac, .slice p.xa p.xn p.xc, .bool p.b] 26))) := ⟨(((Below.refl _ _).alloc (Nat.le_refl _) _).alloc (by simp) _).alloc (by simp <;> omega) _⟩
 have HP : Hk (Bk (((w.alloc (.cells #[.int .i64 p.i, .int .i64 p.n, .int .i64 p.d, .int .i64 p.t, .int .i64 p.s, .slice p.ma p.mn p.mc, .slice p.la p.ln p.lc, .slice p.ha p.hn p.hc, .slice p.aa p.an p.ac, .slice p.xa p.xn p.xc, .bool p.b] 26)).alloc (.cells #[.int .i64 0, .int .i64 0, .int .i64 0, .int .i64 0, .int .i64 0, .slice none 0 0, .slice none 0 0, .slice none 0 0, .slice none 0 0, .slice none 0 0, .bool false] 26)).alloc (.cells #[.int .i64 p.i, .int .i64 p.n, .int .i64 p.d, .int .i64 p.t, .int .i64 p.s, .slice p.ma p.mn p.mc, .slice p.la p.ln p.lc, .slice p.ha p.hn p.hc, .slice p.aa p.an p.ac, .slice p.xa p.xn p.xc, .bool p.b] 26)) w.heap.size #[.int .i64 p.i, .int .i64 p.n, .int .i64 p.d, .int .i64 p.t, .int .i64 p.s, .slice p.ma p.mn p.mc, .slice p.la p.ln p.lc, .slice p.ha p.hn p.hc, .slice p.aa p.an p.ac, .slice p.xa p.xn p.xc, .bool p.b]) := ⟨((Bk.new w #[.int .i64 p.i, .int .i64 p.n, .int .i64 p.d, .int .i64 p.t, .int .i64 p.s, .slice p.ma p.mn p.mc, .slice p.la p.ln p.lc, .slice p.ha p.hn p.hc, .slice p.aa p.an p.ac, .slice p.xa p.xn p.xc, .bool p.b] 26).al _).al _⟩
 have HZ : Hk (Bk (((w.alloc (.cells #[.int .i64 p.i, .int .i64 p.n, .int .i64 p.d, .int .i64 p.t, .int .i64 p.s, .slice p.ma p.mn p.mc, .slice p.la p.ln p.lc, .slice p.ha p.hn p.hc, .slice p.aa p.an p.ac, .slice p.xa p.xn p.xc, .bool p.b] 26)).alloc (.cells #[.int .i64 0, .int .i64 0, .int .i64 0, .int .i64 0, .int .i64 0, .slice none 0 0, .slice none 0 0, .slice none 0 0, .slice none 0 0, .slice none 0 0, .bool false] 26)).alloc (.cells #[.int .i64 p.i, .int .i64 p.n, .int .i64 p.d, .int .i64 p.t, .int .i64 p.s, .slice p.ma p.mn p.mc, .slice p.la p.ln p.lc, .slice p.ha p.hn p.hc, .slice p.aa p.an p.ac, .slice p.xa p.xn p.xc, .bool p.b] 26)) (w.heap.size + 1) #[.int .i64 0, .int .i64 0, .int .i64 0, .int .i64 0, .int .i64 0, .slice none 0 0, .slice none 0 0, .slice none 0 0, .slice none 0 0, .slice none 0 0, .bool false]) := ⟨by have := (Bk.new (w.alloc (.cells #[.int .i64 p.i, .int .i64 p.n, .int .i64 p.d, .int .i64 p.t, .int .i64 p.s, .slice p.ma p.mn p.mc, .slice p.la p.ln p.lc, .slice p.ha p.hn p.hc, .slice p.aa p.an p.ac, .slice p.xa p.xn p.xc, .bool p.b] 26)) #[.int .i64 0, .int .i64 0, .int .i64 0, .int .i64 0, .int .i64 0, .slice none 0 0, .slice none 0 0, .slice none 0 0, .slice none 0 0, .slice none 0 0, .bool false] 26).al (.cells #[.int .i64 p.i, .int .i64 p.n, .int .i64 p.d, .int .i64 p.t, .int .i64 p.s, .slice p.ma p.mn p.mc, .slice p.la p.ln p.lc, .slice p.ha p.hn p.hc, .slice p.aa p.an p.ac, .slice p.xa p.xn p.xc, .bool p.b] 26); simpa using this⟩
 have HX : Hk (Bk (((w.alloc (.cells #[.int .i64 p.i, .int .i64 p.n, .int .i64 p.d, .int .i64 p.t, .int .i64 p.s, .slice p.ma p.mn p.mc, .slice p.la p.ln p.lc, .slice p.ha p.hn p.hc, .slice p.aa p.an p.ac, .slice p.xa p.xn p.xc, .bool p.b] 26)).alloc (.cells #[.int .i64 0, .int .i64 0, .int .i64 0, .int .i64 0, .int .i64 0, .slice none 0 0, .slice none 0 0, .slice none 0 0, .slice none 0 0, .slice none 0 0, .bool false] 26)).alloc (.cells #[.int .i64 p.i, .int .i64 p.n, .int .i64 p.d, .int .i64 p.t, .int .i64 p.s, .slice p.ma p.mn p.mc, .slice p.la p.ln p.lc, .slice p.ha p.hn p.hc, .slice p.aa p.an p.ac, .slice p.xa p.xn p.xc, .bool p.b] 26)) (w.heap.size + 1 + 1) #[.int .i64 p.i, .int .i64 p.n, .int .i64 p.d, .int .i64 p.t, .int .i64 p.s, .slice p.ma p.mn p.mc, .slice p.la p.ln p.lc, .slice p.ha p.hn p.hc, .slice p.aa p.an p.ac, .slice p.xa p.xn p.xc, .bool p.b]) := ⟨by have := Bk.new ((w.alloc (.cells #[.int .i64 p.i, .int .i64 p.n, .int .i64 p.d, .int .i64 p.t, .int .i64 p.s, .slice p.ma p.mn p.mc, .slice p.la p.ln p.lc, .slice p.ha p.hn p.hc, .slice p.aa p.an p.ac, .slice p.xa p.xn p.xc, .bool p.b] 26)).alloc (.cells #[.int .i64 0, .int .i64 0, .int .i64 0, .int .i64 0, .int .i64 0, .slice none 0 0, .slice none 0 0, .slice none 0 0, .slice none 0 0, .slice none 0 0, .bool false] 26)) #[.int .i64 p.i, .int .i64 p.n, .int .i64 p.d, .int .i64 p.t, .int .i64 p.s, .slice p.ma p.mn p.mc, .slice p.la p.ln p.lc, .slice p.ha p.hn p.hc, .slice p.aa p.an p.ac, .slice p.xa p.xn p.xc, .bool p.b] 26; simpa using this⟩
 have hsz : (w.heap.size + 3) ≤ (((w.alloc (.cells #[.int .i64 p.i, .int .i64 p.n, .int .i64 p.d, .int .i64 p.t, .int .i64 p.s, .slice p.ma p.mn p.mc, .slice p.la p.ln p.lc, .slice p.ha p.hn p.hc, .slice p.aa p.an p.ac, .slice p.xa p.xn p.xc, .bool p.b] 26)).alloc (.cells #[.int .i64 0, .int .i64 0, .int .i64 0, .int .i64 0, .int .i64 0, .slice none 0 0, .slice none 0 0, .slice none 0 0, .slice none 0 0, .slice none 0 0, .bool false] 26)).alloc (.cells #[.int .i64 p.i, .int .i64 p.n, .int .i64 p.d, .int .i64 p.t, .int .i64 p.s, .slice p.ma p.mn p.mc, .slice p.la p.ln p.lc, .slice p.ha p.hn p.hc, .slice p.aa p.an p.ac, .slice p.xa p.xn p.xc, .bool p.b] 26)).heap.size := by simp
 clear h hs
 go_enter Tryz.func11, Tryz.ntmps11
 go_upto_region 2 with fail
 generalize (((w.alloc (.cells #[.int .i64 p.i, .int .i64 p.n, .int .i64 p.d, .int .i64 p.t, .int .i64 p.s, .slice p.ma p.mn p.mc, .slice p.la p.ln p.lc, .slice p.ha p.hn p.hc, .slice p.aa p.an p.ac, .slice p.xa p.xn p.xc, .bool p.b] 26)).alloc (.cells #[.int .i64 0, .int .i64 0, .int .i64 0, .int .i64 0, .int .i64 0, .slice none 0 0, .slice none 0 0, .slice none 0 0, .slice none 0 0, .slice none 0 0, .bool false] 26)).alloc (.cells #[.int .i64 p.i, .int .i64 p.n, .int .i64 p.d, .int .i64 p.t, .int .i64 p.s, .slice p.ma p.mn p.mc, .slice p.la p.ln p.lc, .slice p.ha p.hn p.hc, .slice p.aa p.an p.ac, .slice p.xa p.xn p.xc, .bool p.b] 26)) = V at *
 have HSV := Hk.mk hsz
 clear hsz
 have r5 := HP.out.c 5
 have rl := HP.out.lt
 try simp at r5
 go_upto_region 3 with (go_at_call 26; (with_reducible refine (copyins_any p.ma p.mn p.mc p.ml _ (HH.out.later HB.out).m HS.out.m).mono ?_); rintro e z ⟨v, Q1, rfl, ho, hab, hb⟩; obtain ⟨a1, c1, rfl, -⟩ := ho.o.form; have HA1 := Hk.mk hab; clear hab; have HO1 : Hk (OwN z (w.heap.size + 3) (.slice a1 p.mn c1) p.mn Q1) := ⟨(ho).weak HSV.out⟩; have HB2 := Hk.mk (HB.out.trans (hb.mono HB.out.size)); have HX2 := Hk.mk (HX.out.below hb); have HZ2 := Hk.mk (HZ.out.below hb); have HP2 := Hk.mk (HP.out.below hb); have cx := HX2.out.c 5; have fx := HX2.out.f 5; have lx := HX2.out.lt; have HSZ := Hk.mk (Nat.le_trans HSV.out hb.size); clear ho hb)
 have HX3 : Hk (Bk (z.setCell ⟨(w.heap.size + 1 + 1), 5, none⟩ (.slice a1 p.mn c1)) (w.heap.size + 1 + 1) #[.int .i64 p.i, .int .i64 p.n, .int .i64 p.d, .int .i64 p.t, .int .i64 p.s, .slice a1 p.mn c1, .slice p.la p.ln p.lc, .slice p.ha p.hn p.hc, .slice p.aa p.an p.ac, .slice p.xa p.xn p.xc, .bool p.b]) := ⟨HX2.out.set 5 (.slice a1 p.mn c1)⟩
 have HZ3 : Hk (Bk (z.setCell ⟨(w.heap.size + 1 + 1), 5, none⟩ (.slice a1 p.mn c1)) (w.heap.size + 1) #[.int .i64 0, .int .i64 0, .int .i64 0, .int .i64 0, .int .i64 0, .slice none 0 0, .slice none 0 0, .slice none 0 0, .slice none 0 0, .slice none 0 0, .bool false]) := ⟨HZ2.out.oth (by omega) 5 (.slice a1 p.mn c1)⟩
 have HP3 : Hk (Bk (z.setCell ⟨(w.heap.size + 1 + 1), 5, none⟩ (.slice a1 p.mn c1)) w.heap.size #[.int .i64 p.i, .int .i64 p.n, .int .i64 p.d, .int .i64 p.t, .int .i64 p.s, .slice p.ma p.mn p.mc, .slice p.la p.ln p.lc, .slice p.ha p.hn p.hc, .slice p.aa p.an p.ac, .slice p.xa p.xn p.xc, .bool p.b]) := ⟨HP2.out.oth (by omega) 5 (.slice a1 p.mn c1)⟩
 have HB3 : Hk (Below w.heap.size w (z.setCell ⟨(w.heap.size + 1 + 1), 5, none⟩ (.slice a1 p.mn c1))) := ⟨HB2.out.setCell (p := ⟨(w.heap.size + 1 + 1), 5, none⟩) (by show w.heap.size ≤ (w.heap.size + 1 + 1); omega) (.slice a1 p.mn c1)⟩
 have HF3 : Hk (Fr (fun j => j < (w.heap.size + 3)) z (z.setCell ⟨(w.heap.size + 1 + 1), 5, none⟩ (.slice a1 p.mn c1))) := ⟨Fr.setCell (p := ⟨(w.heap.size + 1 + 1), 5, none⟩) (Fr.refl _ z) (fun _ => by show (w.heap.size + 1 + 1) < (w.heap.size + 3); omega) (.slice a1 p.mn c1)⟩
 replace HO1 : Hk (OwN (z.setCell ⟨(w.heap.size + 1 + 1), 5, none⟩ (.slice a1 p.mn c1)) (w.heap.size + 3) (.slice a1 p.mn c1) p.mn Q1) := ⟨OwN.up HO1.out HF3.out (fun j hj e => by omega)⟩
 have HSV2 : Hk ((w.heap.size + 3) ≤ (z.setCell ⟨(w.heap.size + 1 + 1), 5, none⟩ (.slice a1 p.mn c1)).heap.size) := ⟨by simpa using HSZ.out⟩
 clear HX HZ HB cx fx lx r5 rl HX2 HZ2 HB2 HSZ HSV HF3 HP HP2
 generalize (z.setCell ⟨(w.heap.size + 1 + 1), 5, none⟩ (.slice a1 p.mn c1)) = V2 at *
 obtain ⟨HX, HZ, HB, HSV, HP⟩ : (Hk (Bk V2 (w.heap.size + 1 + 1) #[.int .i64 p.i, .int .i64 p.n, .int .i64 p.d, .int .i64 p.t, .int .i64 p.s, .slice a1 p.mn c1, .slice p.la p.ln p.lc, .slice p.ha p.hn p.hc, .slice p.aa p.an p.ac, .slice p.xa p.xn p.xc, .bool p.b])) ∧ (Hk (Bk V2 (w.heap.size + 1) #[.int .i64 0, .int .i64 0, .int .i64 0, .int .i64 0, .int .i64 0, .slice none 0 0, .slice none 0 0, .slice none 0 0, .slice none 0 0, .slice none 0 0, .bool false])) ∧ (Hk (Below w.heap.size w V2)) ∧ (Hk ((w.heap.size + 3) ≤ V2.heap.size)) ∧ (Hk (Bk V2 w.heap.size #[.int .i64 p.i, .int .i64 p.n, .int .i64 p.d, .int .i64 p.t, .int .i64 p.s, .slice p.ma p.mn p.mc, .slice p.la p.ln p.lc, .slice p.ha p.hn p.hc, .slice p.aa p.an p.ac, .slice p.xa p.xn p.xc, .bool p.b])) := ⟨HX3, HZ3, HB3, HSV2, HP3⟩
 clear HX3 HZ3 HB3 HSV2 HP3 V z
 rename World => V
 have r6 := HP.out.c 6
 have rl := HP.out.lt
 try simp at r6
 go_upto_region 4 with (go_at_call 26; (with_reducible refine (copyins_any p.la p.ln p.lc p.ll _ (HH.out.later HB.out).l HS.out.l).mono ?_); rintro e z ⟨v, Q2, rfl, ho, hab, hb⟩; obtain ⟨a2, c2, rfl, -⟩ := ho.o.form; have HA2 := Hk.mk hab; clear hab; have HO2 : Hk (OwN z (w.heap.size + 3) (.slice a2 p.ln c2) p.ln Q2) := ⟨(ho).weak HSV.out⟩; replace HO1 := Hk.mk (HO1.out.below hb); have HB2 := Hk.mk (HB.out.trans (hb.mono HB.out.size)); have HX2 := Hk.mk (HX.out.below hb); have HZ2 := Hk.mk (HZ.out.below hb); have HP2 := Hk.mk (HP.out.below hb); have cx := HX2.out.c 6; have fx := HX2.out.f 6; have lx := HX2.out.lt; have HSZ := Hk.mk (Nat.le_trans HSV.out hb.size); clear ho hb)
 have HX3 : Hk (Bk (z.setCell ⟨(w.heap.size + 1 + 1), 6, none⟩ (.slice a2 p.ln c2)) (w.heap.size + 1 + 1) #[.int .i64 p.i, .int .i64 p.n, .int .i64 p.d, .int .i64 p.t, .int .i64 p.s, .slice a1 p.mn c1, .slice a2 p.ln c2, .slice p.ha p.hn p.hc, .slice p.aa p.an p.ac, .slice p.xa p.xn p.xc, .bool p.b]) := ⟨HX2.out.set 6 (.slice a2 p.ln c2)⟩
 have HZ3 : Hk (Bk (z.setCell ⟨(w.heap.size + 1 + 1), 6, none⟩ (.slice a2 p.ln c2)) (w.heap.size + 1) #[.int .i64 0, .int .i64 0, .int .i64 0, .int .i64 0, .int .i64 0, .slice none 0 0, .slice none 0 0, .slice none 0 0, .slice none 0 0, .slice none 0 0, .bool false]) := ⟨HZ2.out.oth (by omega) 6 (.slice a2 p.ln c2)⟩
 have HP3 : Hk (Bk (z.setCell ⟨(w.heap.size + 1 + 1), 6, none⟩ (.slice a2 p.ln c2)) w.heap.size #[.int .i64 p.i, .int .i64 p.n, .int .i64 p.d, .int .i64 p.t, .int .i64 p.s, .slice p.ma p.mn p.mc, .slice p.la p.ln p.lc, .slice p.ha p.hn p.hc, .slice p.aa p.an p.ac, .slice p.xa p.xn p.xc, .bool p.b]) := ⟨HP2.out.oth (by omega) 6 (.slice a2 p.ln c2)⟩
 have HB3 : Hk (Below w.heap.size w (z.setCell ⟨(w.heap.size + 1 + 1), 6, none⟩ (.slice a2 p.ln c2))) := ⟨HB2.out.setCell (p := ⟨(w.heap.size + 1 + 1), 6, none⟩) (by show w.heap.size ≤ (w.heap.size + 1 + 1); omega) (.slice a2 p.ln c2)⟩
 have HF3 : Hk (Fr (fun j => j < (w.heap.size + 3)) z (z.setCell ⟨(w.heap.size + 1 + 1), 6, none⟩ (.slice a2 p.ln c2))) := ⟨Fr.setCell (p := ⟨(w.heap.size + 1 + 1), 6, none⟩) (Fr.refl _ z) (fun _ => by show (w.heap.size + 1 + 1) < (w.heap.size + 3); omega) (.slice a2 p.ln c2)⟩
 replace HO1 : Hk (OwN (z.setCell ⟨(w.heap.size + 1 + 1), 6, none⟩ (.slice a2 p.ln c2)) (w.heap.size + 3) (.slice a1 p.mn c1) p.mn Q1) := ⟨OwN.up HO1.out HF3.out (fun j hj e => by omega)⟩
 replace HO2 : Hk (OwN (z.setCell ⟨(w.heap.size + 1 + 1), 6, none⟩ (.slice a2 p.ln c2)) (w.heap.size + 3) (.slice a2 p.ln c2) p.ln Q2) := ⟨OwN.up HO2.out HF3.out (fun j hj e => by omega)⟩
 have HSV2 : Hk ((w.heap.size + 3) ≤ (z.setCell ⟨(w.heap.size + 1 + 1), 6, none⟩ (.slice a2 p.ln c2)).heap.size) := ⟨by simpa using HSZ.out⟩
 clear HX HZ HB cx fx lx r6 rl HX2 HZ2 HB2 HSZ HSV HF3 HP HP2
 generalize (z.setCell ⟨(w.heap.size + 1 + 1), 6, none⟩ (.slice a2 p.ln c2)) = V2 at *
 obtain ⟨HX, HZ, HB, HSV, HP⟩ : (Hk (Bk V2 (w.heap.size + 1 + 1) #[.int .i64 p.i, .int .i64 p.n, .int .i64 p.d, .int .i64 p.t, .int .i64 p.s, .slice a1 p.mn c1, .slice a2 p.ln c2, .slice p.ha p.hn p.hc, .slice p.aa p.an p.ac, .slice p.xa p.xn p.xc, .bool p.b])) ∧ (Hk (Bk V2 (w.heap.size + 1) #[.int .i64 0, .int .i64 0, .int .i64 0, .int .i64 0, .int .i64 0, .slice none 0 0, .slice none 0 0, .slice none 0 0, .slice none 0 0, .slice none 0 0, .bool false])) ∧ (Hk (Below w.heap.size w V2)) ∧ (Hk ((w.heap.size + 3) ≤ V2.heap.size)) ∧ (Hk (Bk V2 w.heap.size #[.int .i64 p.i, .int .i64 p.n, .int .i64 p.d, .int .i64 p.t, .int .i64 p.s, .slice p.ma p.mn p.mc, .slice p.la p.ln p.lc, .slice p.ha p.hn p.hc, .slice p.aa p.an p.ac, .slice p.xa p.xn p.xc, .bool p.b])) := ⟨HX3, HZ3, HB3, HSV2, HP3⟩
 clear HX3 HZ3 HB3 HSV2 HP3 V z
 rename World => V
 have r7 := HP.out.c 7
 have rl := HP.out.lt
 try simp at r7
 go_upto_region 5 with (go_at_call 27; (with_reducible refine (copyi_any p.ha p.hn p.hc p.hl _ (HH.out.later HB.out).h (by omega)).mono ?_); rintro e z ⟨v, rfl, ho, hb⟩; obtain ⟨a3, c3, rfl, -, -⟩ := ho.nq; have HO3 : Hk (OwnI z (w.heap.size + 3) (.slice a3 p.hn c3) p.hn p.hl) := ⟨(ho).weak HSV.out⟩; replace HO1 := Hk.mk (HO1.out.below hb); replace HO2 := Hk.mk (HO2.out.below hb); have HB2 := Hk.mk (HB.out.trans (hb.mono HB.out.size)); have HX2 := Hk.mk (HX.out.below hb); have HZ2 := Hk.mk (HZ.out.below hb); have HP2 := Hk.mk (HP.out.below hb); have cx := HX2.out.c 7; have fx := HX2.out.f 7; have lx := HX2.out.lt; have HSZ := Hk.mk (Nat.le_trans HSV.out hb.size); clear ho hb)
 have HX3 : Hk (Bk (z.setCell ⟨(w.heap.size + 1 + 1), 7, none⟩ (.slice a3 p.hn c3)) (w.heap.size + 1 + 1) #[.int .i64 p.i, .int .i64 p.n, .int .i64 p.d, .int .i64 p.t, .int .i64 p.s, .slice a1 p.mn c1, .slice a2 p.ln c2, .slice a3 p.hn c3, .slice p.aa p.an p.ac, .slice p.xa p.xn p.xc, .bool p.b]) := ⟨HX2.out.set 7 (.slice a3 p.hn c3)⟩
 have HZ3 : Hk (Bk (z.setCell ⟨(w.heap.size + 1 + 1), 7, none⟩ (.slice a3 p.hn c3)) (w.heap.size + 1) #[.int .i64 0, .int .i64 0, .int .i64 0, .int .i64 0, .int .i64 0, .slice none 0 0, .slice none 0 0, .slice none 0 0, .slice none 0 0, .slice none 0 0, .bool false]) := ⟨HZ2.out.oth (by omega) 7 (.slice a3 p.hn c3)⟩
 have HP3 : Hk (Bk (z.setCell ⟨(w.heap.size + 1 + 1), 7, none⟩ (.slice a3 p.hn c3)) w.heap.size #[.int .i64 p.i, .int .i64 p.n, .int .i64 p.d, .int .i64 p.t, .int .i64 p.s, .slice p.ma p.mn p.mc, .slice p.la p.ln p.lc, .slice p.ha p.hn p.hc, .slice p.aa p.an p.ac, .slice p.xa p.xn p.xc, .bool p.b]) := ⟨HP2.out.oth (by omega) 7 (.slice a3 p.hn c3)⟩
 have HB3 : Hk (Below w.heap.size w (z.setCell ⟨(w.heap.size + 1 + 1), 7, none⟩ (.slice a3 p.hn c3))) := ⟨HB2.out.setCell (p := ⟨(w.heap.size + 1 + 1), 7, none⟩) (by show w.heap.size ≤ (w.heap.size + 1 + 1); omega) (.slice a3 p.hn c3)⟩
 have HF3 : Hk (Fr (fun j => j < (w.heap.size + 3)) z (z.setCell ⟨(w.heap.size + 1 + 1), 7, none⟩ (.slice a3 p.hn c3))) := ⟨Fr.setCell (p := ⟨(w.heap.size + 1 + 1), 7, none⟩) (Fr.refl _ z) (fun _ => by show (w.heap.size + 1 + 1) < (w.heap.size + 3); omega) (.slice a3 p.hn c3)⟩
 replace HO1 : Hk (OwN (z.setCell ⟨(w.heap.size + 1 + 1), 7, none⟩ (.slice a3 p.hn c3)) (w.heap.size + 3) (.slice a1 p.mn c1) p.mn Q1) := ⟨OwN.up HO1.out HF3.out (fun j hj e => by omega)⟩
 replace HO2 : Hk (OwN (z.setCell ⟨(w.heap.size + 1 + 1), 7, none⟩ (.slice a3 p.hn c3)) (w.heap.size + 3) (.slice a2 p.ln c2) p.ln Q2) := ⟨OwN.up HO2.out HF3.out (fun j hj e => by omega)⟩
 replace HO3 : Hk (OwnI (z.setCell ⟨(w.heap.size + 1 + 1), 7, none⟩ (.slice a3 p.hn c3)) (w.heap.size + 3) (.slice a3 p.hn c3) p.hn p.hl) := ⟨Fr.owni HO3.out HF3.out (fun j hj e => by have := (HO3.out.lt j hj).1; omega)⟩
 have HSV2 : Hk ((w.heap.size + 3) ≤ (z.setCell ⟨(w.heap.size + 1 + 1), 7, none⟩ (.slice a3 p.hn c3)).heap.size) := ⟨by simpa using HSZ.out⟩
 clear HX HZ HB cx fx lx r7 rl HX2 HZ2 HB2 HSZ HSV HF3 HP HP2
 generalize (z.setCell ⟨(w.heap.size + 1 + 1), 7, none⟩ (.slice a3 p.hn c3)) = V2 at *
 obtain ⟨HX, HZ, HB, HSV, HP⟩ : (Hk (Bk V2 (w.heap.size + 1 + 1) #[.int .i64 p.i, .int .i64 p.n, .int .i64 p.d, .int .i64 p.t, .int .i64 p.s, .slice a1 p.mn c1, .slice a2 p.ln c2, .slice a3 p.hn c3, .slice p.aa p.an p.ac, .slice p.xa p.xn p.xc, .bool p.b])) ∧ (Hk (Bk V2 (w.heap.size + 1) #[.int .i64 0, .int .i64 0, .int .i64 0, .int .i64 0, .int .i64 0, .slice none 0 0, .slice none 0 0, .slice none 0 0, .slice none 0 0, .slice none 0 0, .bool false])) ∧ (Hk (Below w.heap.size w V2)) ∧ (Hk ((w.heap.size + 3) ≤ V2.heap.size)) ∧ (Hk (Bk V2 w.heap.size #[.int .i64 p.i, .int .i64 p.n, .int .i64 p.d, .int .i64 p.t, .int .i64 p.s, .slice p.ma p.mn p.mc, .slice p.la p.ln p.lc, .slice p.ha p.hn p.hc, .slice p.aa p.an p.ac, .slice p.xa p.xn p.xc, .bool p.b])) := ⟨HX3, HZ3, HB3, HSV2, HP3⟩
 clear HX3 HZ3 HB3 HSV2 HP3 V z
 rename World => V
 have r8 := HP.out.c 8
 have rl := HP.out.lt
 try simp at r8
 go_upto_region 6 with (go_at_call 27; (with_reducible refine (copyi_any p.aa p.an p.ac p.al _ (HH.out.later HB.out).a (by omega)).mono ?_); rintro e z ⟨v, rfl, ho, hb⟩; obtain ⟨a4, c4, rfl, -, -⟩ := ho.nq; have HO4 : Hk (OwnI z (w.heap.size + 3) (.slice a4 p.an c4) p.an p.al) := ⟨(ho).weak HSV.out⟩; replace HO1 := Hk.mk (HO1.out.below hb); replace HO2 := Hk.mk (HO2.out.below hb); replace HO3 := Hk.mk (HO3.out.below hb); have HB2 := Hk.mk (HB.out.trans (hb.mono HB.out.size)); have HX2 := Hk.mk (HX.out.below hb); have HZ2 := Hk.mk (HZ.out.below hb); have HP2 := Hk.mk (HP.out.below hb); have cx := HX2.out.c 8; have fx := HX2.out.f 8; have lx := HX2.out.lt; have HSZ := Hk.mk (Nat.le_trans HSV.out hb.size); clear ho hb)
 have HX3 : Hk (Bk (z.setCell ⟨(w.heap.size + 1 + 1), 8, none⟩ (.slice a4 p.an c4)) (w.heap.size + 1 + 1) #[.int .i64 p.i, .int .i64 p.n, .int .i64 p.d, .int .i64 p.t, .int .i64 p.s, .slice a1 p.mn c1, .slice a2 p.ln c2, .slice a3 p.hn c3, .slice a4 p.an c4, .slice p.xa p.xn p.xc, .bool p.b]) := ⟨HX2.out.set 8 (.slice a4 p.an c4)⟩
 have HZ3 : Hk (Bk (z.setCell ⟨(w.heap.size + 1 + 1), 8, none⟩ (.slice a4 p.an c4)) (w.heap.size + 1) #[.int .i64 0, .int .i64 0, .int .i64 0, .int .i64 0, .int .i64 0, .slice none 0 0, .slice none 0 0, .slice none 0 0, .slice none 0 0, .slice none 0 0, .bool false]) := ⟨HZ2.out.oth (by omega) 8 (.slice a4 p.an c4)⟩
 have HP3 : Hk (Bk (z.setCell ⟨(w.heap.size + 1 + 1), 8, none⟩ (.slice a4 p.an c4)) w.heap.size #[.int .i64 p.i, .int .i64 p.n, .int .i64 p.d, .int .i64 p.t, .int .i64 p.s, .slice p.ma p.mn p.mc, .slice p.la p.ln p.lc, .slice p.ha p.hn p.hc, .slice p.aa p.an p.ac, .slice p.xa p.xn p.xc, .bool p.b]) := ⟨HP2.out.oth (by omega) 8 (.slice a4 p.an c4)⟩
 have HB3 : Hk (Below w.heap.size w (z.setCell ⟨(w.heap.size + 1 + 1), 8, none⟩ (.slice a4 p.an c4))) := ⟨HB2.out.setCell (p := ⟨(w.heap.size + 1 + 1), 8, none⟩) (by show w.heap.size ≤ (w.heap.size + 1 + 1); omega) (.slice a4 p.an c4)⟩
 have HF3 : Hk (Fr (fun j => j < (w.heap.size + 3)) z (z.setCell ⟨(w.heap.size + 1 + 1), 8, none⟩ (.slice a4 p.an c4))) := ⟨Fr.setCell (p := ⟨(w.heap.size + 1 + 1), 8, none⟩) (Fr.refl _ z) (fun _ => by show (w.heap.size + 1 + 1) < (w.heap.size + 3); omega) (.slice a4 p.an c4)⟩
 replace HO1 : Hk (OwN (z.setCell ⟨(w.heap.size + 1 + 1), 8, none⟩ (.slice a4 p.an c4)) (w.heap.size + 3) (.slice a1 p.mn c1) p.mn Q1) := ⟨OwN.up HO1.out HF3.out (fun j hj e => by omega)⟩
 replace HO2 : Hk (OwN (z.setCell ⟨(w.heap.size + 1 + 1), 8, none⟩ (.slice a4 p.an c4)) (w.heap.size + 3) (.slice a2 p.ln c2) p.ln Q2) := ⟨OwN.up HO2.out HF3.out (fun j hj e => by omega)⟩
 replace HO3 : Hk (OwnI (z.setCell ⟨(w.heap.size + 1 + 1), 8, none⟩ (.slice a4 p.an c4)) (w.heap.size + 3) (.slice a3 p.hn c3) p.hn p.hl) := ⟨Fr.owni HO3.out HF3.out (fun j hj e => by have := (HO3.out.lt j hj).1; omega)⟩
 replace HO4 : Hk (OwnI (z.setCell ⟨(w.heap.size + 1 + 1), 8, none⟩ (.slice a4 p.an c4)) (w.heap.size + 3) (.slice a4 p.an c4) p.an p.al) := ⟨Fr.owni HO4.out HF3.out (fun j hj e => by have := (HO4.out.lt j hj).1; omega)⟩
 have HSV2 : Hk ((w.heap.size + 3) ≤ (z.setCell ⟨(w.heap.size + 1 + 1), 8, none⟩ (.slice a4 p.an c4)).heap.size) := ⟨by simpa using HSZ.out⟩
 clear HX HZ HB cx fx lx r8 rl HX2 HZ2 HB2 HSZ HSV HF3 HP HP2
 generalize (z.setCell ⟨(w.heap.size + 1 + 1), 8, none⟩ (.slice a4 p.an c4)) = V2 at *
 obtain ⟨HX, HZ, HB, HSV, HP⟩ : (Hk (Bk V2 (w.heap.size + 1 + 1) #[.int .i64 p.i, .int .i64 p.n, .int .i64 p.d, .int .i64 p.t, .int .i64 p.s, .slice a1 p.mn c1, .slice a2 p.ln c2, .slice a3 p.hn c3, .slice a4 p.an c4, .slice p.xa p.xn p.xc, .bool p.b])) ∧ (Hk (Bk V2 (w.heap.size + 1) #[.int .i64 0, .int .i64 0, .int .i64 0, .int .i64 0, .int .i64 0, .slice none 0 0, .slice none 0 0, .slice none 0 0, .slice none 0 0, .slice none 0 0, .bool false])) ∧ (Hk (Below w.heap.size w V2)) ∧ (Hk ((w.heap.size + 3) ≤ V2.heap.size)) ∧ (Hk (Bk V2 w.heap.size #[.int .i64 p.i, .int .i64 p.n, .int .i64 p.d, .int .i64 p.t, .int .i64 p.s, .slice p.ma p.mn p.mc, .slice p.la p.ln p.lc, .slice p.ha p.hn p.hc, .slice p.aa p.an p.ac, .slice p.xa p.xn p.xc, .bool p.b])) := ⟨HX3, HZ3, HB3, HSV2, HP3⟩
 clear HX3 HZ3 HB3 HSV2 HP3 V z
 rename World => V
 have r9 := HP.out.c 9
 have rl := HP.out.lt
 try simp at r9
 go_upto_region 7 with (go_at_call 28; (with_reducible refine (copyu_any p.xa p.xn p.xc p.xl _ (HH.out.later HB.out).x (by omega)).mono ?_); rintro e z ⟨v, rfl, ho, hb⟩; obtain ⟨a5, c5, rfl, -⟩ := ho.form; have HO5 : Hk (Ow shU 41 z (w.heap.size + 3) (.slice a5 p.xn c5) p.xn p.xl) := ⟨(ho).weak HSV.out⟩; replace HO1 := Hk.mk (HO1.out.below hb); replace HO2 := Hk.mk (HO2.out.below hb); replace HO3 := Hk.mk (HO3.out.below hb); replace HO4 := Hk.mk (HO4.out.below hb); have HB2 := Hk.mk (HB.out.trans (hb.mono HB.out.size)); have HX2 := Hk.mk (HX.out.below hb); have HZ2 := Hk.mk (HZ.out.below hb); have HP2 := Hk.mk (HP.out.below hb); have cx := HX2.out.c 9; have fx := HX2.out.f 9; have lx := HX2.out.lt; have HSZ := Hk.mk (Nat.le_trans HSV.out hb.size); clear ho hb)
 have HX3 : Hk (Bk (z.setCell ⟨(w.heap.size + 1 + 1), 9, none⟩ (.slice a5 p.xn c5)) (w.heap.size + 1 + 1) #[.int .i64 p.i, .int .i64 p.n, .int .i64 p.d, .int .i64 p.t, .int .i64 p.s, .slice a1 p.mn c1, .slice a2 p.ln c2, .slice a3 p.hn c3, .slice a4 p.an c4, .slice a5 p.xn c5, .bool p.b]) := ⟨HX2.out.set 9 (.slice a5 p.xn c5)⟩
 have HZ3 : Hk (Bk (z.setCell ⟨(w.heap.size + 1 + 1), 9, none⟩ (.slice a5 p.xn c5)) (w.heap.size + 1) #[.int .i64 0, .int .i64 0, .int .i64 0, .int .i64 0, .int .i64 0, .slice none 0 0, .slice none 0 0, .slice none 0 0, .slice none 0 0, .slice none 0 0, .bool false]) := ⟨HZ2.out.oth (by omega) 9 (.slice a5 p.xn c5)⟩
 have HP3 : Hk (Bk (z.setCell ⟨(w.heap.size + 1 + 1), 9, none⟩ (.slice a5 p.xn c5)) w.heap.size #[.int .i64 p.i, .int .i64 p.n, .int .i64 p.d, .int .i64 p.t, .int .i64 p.s, .slice p.ma p.mn p.mc, .slice p.la p.ln p.lc, .slice p.ha p.hn p.hc, .slice p.aa p.an p.ac, .slice p.xa p.xn p.xc, .bool p.b]) := ⟨HP2.out.oth (by omega) 9 (.slice a5 p.xn c5)⟩
 have HB3 : Hk (Below w.heap.size w (z.setCell ⟨(w.heap.size + 1 + 1), 9, none⟩ (.slice a5 p.xn c5))) := ⟨HB2.out.setCell (p := ⟨(w.heap.size + 1 + 1), 9, none⟩) (by show w.heap.size ≤ (w.heap.size + 1 + 1); omega) (.slice a5 p.xn c5)⟩
 have HF3 : Hk (Fr (fun j => j < (w.heap.size + 3)) z (z.setCell ⟨(w.heap.size + 1 + 1), 9, none⟩ (.slice a5 p.xn c5))) := ⟨Fr.setCell (p := ⟨(w.heap.size + 1 + 1), 9, none⟩) (Fr.refl _ z) (fun _ => by show (w.heap.size + 1 + 1) < (w.heap.size + 3); omega) (.slice a5 p.xn c5)⟩
 replace HO1 : Hk (OwN (z.setCell ⟨(w.heap.size + 1 + 1), 9, none⟩ (.slice a5 p.xn c5)) (w.heap.size + 3) (.slice a1 p.mn c1) p.mn Q1) := ⟨OwN.up HO1.out HF3.out (fun j hj e => by omega)⟩
 replace HO2 : Hk (OwN (z.setCell ⟨(w.heap.size + 1 + 1), 9, none⟩ (.slice a5 p.xn c5)) (w.heap.size + 3) (.slice a2 p.ln c2) p.ln Q2) := ⟨OwN.up HO2.out HF3.out (fun j hj e => by omega)⟩
 replace HO3 : Hk (OwnI (z.setCell ⟨(w.heap.size + 1 + 1), 9, none⟩ (.slice a5 p.xn c5)) (w.heap.size + 3) (.slice a3 p.hn c3) p.hn p.hl) := ⟨Fr.owni HO3.out HF3.out (fun j hj e => by have := (HO3.out.lt j hj).1; omega)⟩
 replace HO4 : Hk (OwnI (z.setCell ⟨(w.heap.size + 1 + 1), 9, none⟩ (.slice a5 p.xn c5)) (w.heap.size + 3) (.slice a4 p.an c4) p.an p.al) := ⟨Fr.owni HO4.out HF3.out (fun j hj e => by have := (HO4.out.lt j hj).1; omega)⟩
 replace HO5 : Hk (Ow shU 41 (z.setCell ⟨(w.heap.size + 1 + 1), 9, none⟩ (.slice a5 p.xn c5)) (w.heap.size + 3) (.slice a5 p.xn c5) p.xn p.xl) := ⟨Ow.fr HO5.out HF3.out (fun j hj e => by have := (HO5.out.lt j hj).1; omega)⟩
 have HSV2 : Hk ((w.heap.size + 3) ≤ (z.setCell ⟨(w.heap.size + 1 + 1), 9, none⟩ (.slice a5 p.xn c5)).heap.size) := ⟨by simpa using HSZ.out⟩
 clear HX HZ HB cx fx lx r9 rl HX2 HZ2 HB2 HSZ HSV HF3 HP HP2
 generalize (z.setCell ⟨(w.heap.size + 1 + 1), 9, none⟩ (.slice a5 p.xn c5)) = V2 at *
 obtain ⟨HX, HZ, HB, HSV, HP⟩ : (Hk (Bk V2 (w.heap.size + 1 + 1) #[.int .i64 p.i, .int .i64 p.n, .int .i64 p.d, .int .i64 p.t, .int .i64 p.s, .slice a1 p.mn c1, .slice a2 p.ln c2, .slice a3 p.hn c3, .slice a4 p.an c4, .slice a5 p.xn c5, .bool p.b])) ∧ (Hk (Bk V2 (w.heap.size + 1) #[.int .i64 0, .int .i64 0, .int .i64 0, .int .i64 0, .int .i64 0, .slice none 0 0, .slice none 0 0, .slice none 0 0, .slice none 0 0, .slice none 0 0, .bool false])) ∧ (Hk (Below w.heap.size w V2)) ∧ (Hk ((w.heap.size + 3) ≤ V2.heap.size)) ∧ (Hk (Bk V2 w.heap.size #[.int .i64 p.i, .int .i64 p.n, .int .i64 p.d, .int .i64 p.t, .int .i64 p.s, .slice p.ma p.mn p.mc, .slice p.la p.ln p.lc, .slice p.ha p.hn p.hc, .slice p.aa p.an p.ac, .slice p.xa p.xn p.xc, .bool p.b])) := ⟨HX3, HZ3, HB3, HSV2, HP3⟩
 clear HX3 HZ3 HB3 HSV2 HP3 V z
 rename World => V
 have x0 := HX.out.c 0
 have z0 := HZ.out.c 0
 have g0 := HZ.out.f 0
 have x1 := HX.out.c 1
 have z1 := HZ.out.c 1
 have g1 := HZ.out.f 1
 have x2 := HX.out.c 2
 have z2 := HZ.out.c 2
 have g2 := HZ.out.f 2
 have x3 := HX.out.c 3
 have z3 := HZ.out.c 3
 have g3 := HZ.out.f 3
 have x4 := HX.out.c 4
 have z4 := HZ.out.c 4
 have g4 := HZ.out.f 4
 have x5 := HX.out.c 5
 have z5 := HZ.out.c 5
 have g5 := HZ.out.f 5
 have x6 := HX.out.c 6
 have z6 := HZ.out.c 6
 have g6 := HZ.out.f 6
 have x7 := HX.out.c 7
 have z7 := HZ.out.c 7
 have g7 := HZ.out.f 7
 have x8 := HX.out.c 8
 have z8 := HZ.out.c 8
 have g8 := HZ.out.f 8
 have x9 := HX.out.c 9
 have z9 := HZ.out.c 9
 have g9 := HZ.out.f 9
 have x10 := HX.out.c 10
 have z10 := HZ.out.c 10
 have g10 := HZ.out.f 10
 simp at x0 z0 x1 z1 x2 z2 x3 z3 x4 z4 x5 z5 x6 z6 x7 z7 x8 z8 x9 z9 x10 z10
 have hxl := HX.out.lt
 have hzl := HZ.out.lt
 go_wp2
 refine bodyPost_ret (v := .agg #[.int .i64 p.i, .int .i64 p.n, .int .i64 p.d, .int .i64 p.t, .int .i64 p.s, .slice a1 p.mn c1, .slice a2 p.ln c2, .slice a3 p.hn c3, .slice a4 p.an c4, .slice a5 p.xn c5, .bool p.b]) (by simp [results, Tryz.results11, go_sem, z0, z1, z2, z3, z4, z5, z6, z7, z8, z9, z10]) rfl ⟨{ p with ma := a1, mc := c1, ml := Q1, la := a2, lc := c2, ll := Q2, ha := a3, hc := c3, aa := a4, ac := c4, xa := a5, xc := c5 }, rfl, ⟨?_, ?_, ?_, ?_, ?_⟩, by show Pm.mk _ _ _ _ _ _ _ _ _ _ _ = Pm.mk _ _ _ _ _ _ _ _ _ _ _; rw [HA1.out, HA2.out], rfl, rfl, rfl, rfl, rfl, ?_⟩
 ·exact (OwN.up HO1.out (by refine Fr.setCell (p := ⟨(w.heap.size + 1), 10, none⟩) ?_ (fun _ => by show (w.heap.size + 1) < (w.heap.size + 3); omega) _; refine Fr.setCell (p := ⟨(w.heap.size + 1), 9, none⟩) ?_ (fun _ => by show (w.heap.size + 1) < (w.heap.size + 3); omega) _; refine Fr.setCell (p := ⟨(w.heap.size + 1), 8, none⟩) ?_ (fun _ => by show (w.heap.size + 1) < (w.heap.size + 3); omega) _; refine Fr.setCell (p := ⟨(w.heap.size + 1), 7, none⟩) ?_ (fun _ => by show (w.heap.size + 1) < (w.heap.size + 3); omega) _; refine Fr.setCell (p := ⟨(w.heap.size + 1), 6, none⟩) ?_ (fun _ => by show (w.heap.size + 1) < (w.heap.size + 3); omega) _; refine Fr.setCell (p := ⟨(w.heap.size + 1), 5, none⟩) ?_ (fun _ => by show (w.heap.size + 1) < (w.heap.size + 3); omega) _; refine Fr.setCell (p := ⟨(w.heap.size + 1), 4, none⟩) ?_ (fun _ => by show (w.heap.size + 1) < (w.heap.size + 3); omega) _; refine Fr.setCell (p := ⟨(w.heap.size + 1), 3, none⟩) ?_ (fun _ => by show (w.heap.size + 1) < (w.heap.size + 3); omega) _; refine Fr.setCell (p := ⟨(w.heap.size + 1), 2, none⟩) ?_ (fun _ => by show (w.heap.size + 1) < (w.heap.size + 3); omega) _; refine Fr.setCell (p := ⟨(w.heap.size + 1), 1, none⟩) ?_ (fun _ => by show (w.heap.size + 1) < (w.heap.size + 3); omega) _; refine Fr.setCell (p := ⟨(w.heap.size + 1), 0, none⟩) ?_ (fun _ => by show (w.heap.size + 1) < (w.heap.size + 3); omega) _; exact Fr.refl _ _ : Fr (fun j => j < (w.heap.size + 3)) V _) (fun j hj e => by omega)).weak (by omega)
 ·exact (OwN.up HO2.out (by refine Fr.setCell (p := ⟨(w.heap.size + 1), 10, none⟩) ?_ (fun _ => by show (w.heap.size + 1) < (w.heap.size + 3); omega) _; refine Fr.setCell (p := ⟨(w.heap.size + 1), 9, none⟩) ?_ (fun _ => by show (w.heap.size + 1) < (w.heap.size + 3); omega) _; refine Fr.setCell (p := ⟨(w.heap.size + 1), 8, none⟩) ?_ (fun _ => by show (w.heap.size + 1) < (w.heap.size + 3); omega) _; refine Fr.setCell (p := ⟨(w.heap.size + 1), 7, none⟩) ?_ (fun _ => by show (w.heap.size + 1) < (w.heap.size + 3); omega) _; refine Fr.setCell (p := ⟨(w.heap.size + 1), 6, none⟩) ?_ (fun _ => by show (w.heap.size + 1) < (w.heap.size + 3); omega) _; refine Fr.setCell (p := ⟨(w.heap.size + 1), 5, none⟩) ?_ (fun _ => by show (w.heap.size + 1) < (w.heap.size + 3); omega) _; refine Fr.setCell (p := ⟨(w.heap.size + 1), 4, none⟩) ?_ (fun _ => by show (w.heap.size + 1) < (w.heap.size + 3); omega) _; refine Fr.setCell (p := ⟨(w.heap.size + 1), 3, none⟩) ?_ (fun _ => by show (w.heap.size + 1) < (w.heap.size + 3); omega) _; refine Fr.setCell (p := ⟨(w.heap.size + 1), 2, none⟩) ?_ (fun _ => by show (w.heap.size + 1) < (w.heap.size + 3); omega) _; refine Fr.setCell (p := ⟨(w.heap.size + 1), 1, none⟩) ?_ (fun _ => by show (w.heap.size + 1) < (w.heap.size + 3); omega) _; refine Fr.setCell (p := ⟨(w.heap.size + 1), 0, none⟩) ?_ (fun _ => by show (w.heap.size + 1) < (w.heap.size + 3); omega) _; exact Fr.refl _ _ : Fr (fun j => j < (w.heap.size + 3)) V _) (fun j hj e => by omega)).weak (by omega)
 ·exact (Fr.owni HO3.out (by refine Fr.setCell (p := ⟨(w.heap.size + 1), 10, none⟩) ?_ (fun _ => by show (w.heap.size + 1) < (w.heap.size + 3); omega) _; refine Fr.setCell (p := ⟨(w.heap.size + 1), 9, none⟩) ?_ (fun _ => by show (w.heap.size + 1) < (w.heap.size + 3); omega) _; refine Fr.setCell (p := ⟨(w.heap.size + 1), 8, none⟩) ?_ (fun _ => by show (w.heap.size + 1) < (w.heap.size + 3); omega) _; refine Fr.setCell (p := ⟨(w.heap.size + 1), 7, none⟩) ?_ (fun _ => by show (w.heap.size + 1) < (w.heap.size + 3); omega) _; refine Fr.setCell (p := ⟨(w.heap.size + 1), 6, none⟩) ?_ (fun _ => by show (w.heap.size + 1) < (w.heap.size + 3); omega) _; refine Fr.setCell (p := ⟨(w.heap.size + 1), 5, none⟩) ?_ (fun _ => by show (w.heap.size + 1) < (w.heap.size + 3); omega) _; refine Fr.setCell (p := ⟨(w.heap.size + 1), 4, none⟩) ?_ (fun _ => by show (w.heap.size + 1) < (w.heap.size + 3); omega) _; refine Fr.setCell (p := ⟨(w.heap.size + 1), 3, none⟩) ?_ (fun _ => by show (w.heap.size + 1) < (w.heap.size + 3); omega) _; refine Fr.setCell (p := ⟨(w.heap.size + 1), 2, none⟩) ?_ (fun _ => by show (w.heap.size + 1) < (w.heap.size + 3); omega) _; refine Fr.setCell (p := ⟨(w.heap.size + 1), 1, none⟩) ?_ (fun _ => by show (w.heap.size + 1) < (w.heap.size + 3); omega) _; refine Fr.setCell (p := ⟨(w.heap.size + 1), 0, none⟩) ?_ (fun _ => by show (w.heap.size + 1) < (w.heap.size + 3); omega) _; exact Fr.refl _ _ : Fr (fun j => j < (w.heap.size + 3)) V _) (fun j hj e => by have := (HO3.out.lt j hj).1; omega)).weak (by omega)
 ·exact (Fr.owni HO4.out (by refine Fr.setCell (p := ⟨(w.heap.size + 1), 10, none⟩) ?_ (fun _ => by show (w.heap.size + 1) < (w.heap.size + 3); omega) _; refine Fr.setCell (p := ⟨(w.heap.size + 1), 9, none⟩) ?_ (fun _ => by show (w.heap.size + 1) < (w.heap.size + 3); omega) _; refine Fr.setCell (p := ⟨(w.heap.size + 1), 8, none⟩) ?_ (fun _ => by show (w.heap.size + 1) < (w.heap.size + 3); omega) _; refine Fr.setCell (p := ⟨(w.heap.size + 1), 7, none⟩) ?_ (fun _ => by show (w.heap.size + 1) < (w.heap.size + 3); omega) _; refine Fr.setCell (p := ⟨(w.heap.size + 1), 6, none⟩) ?_ (fun _ => by show (w.heap.size + 1) < (w.heap.size + 3); omega) _; refine Fr.setCell (p := ⟨(w.heap.size + 1), 5, none⟩) ?_ (fun _ => by show (w.heap.size + 1) < (w.heap.size + 3); omega) _; refine Fr.setCell (p := ⟨(w.heap.size + 1), 4, none⟩) ?_ (fun _ => by show (w.heap.size + 1) < (w.heap.size + 3); omega) _; refine Fr.setCell (p := ⟨(w.heap.size + 1), 3, none⟩) ?_ (fun _ => by show (w.heap.size + 1) < (w.heap.size + 3); omega) _; refine Fr.setCell (p := ⟨(w.heap.size + 1), 2, none⟩) ?_ (fun _ => by show (w.heap.size + 1) < (w.heap.size + 3); omega) _; refine Fr.setCell (p := ⟨(w.heap.size + 1), 1, none⟩) ?_ (fun _ => by show (w.heap.size + 1) < (w.heap.size + 3); omega) _; refine Fr.setCell (p := ⟨(w.heap.size + 1), 0, none⟩) ?_ (fun _ => by show (w.heap.size + 1) < (w.heap.size + 3); omega) _; exact Fr.refl _ _ : Fr (fun j => j < (w.heap.size + 3)) V _) (fun j hj e => by have := (HO4.out.lt j hj).1; omega)).weak (by omega)
 ·exact (Ow.fr HO5.out (by refine Fr.setCell (p := ⟨(w.heap.size + 1), 10, none⟩) ?_ (fun _ => by show (w.heap.size + 1) < (w.heap.size + 3); omega) _; refine Fr.setCell (p := ⟨(w.heap.size + 1), 9, none⟩) ?_ (fun _ => by show (w.heap.size + 1) < (w.heap.size + 3); omega) _; refine Fr.setCell (p := ⟨(w.heap.size + 1), 8, none⟩) ?_ (fun _ => by show (w.heap.size + 1) < (w.heap.size + 3); omega) _; refine Fr.setCell (p := ⟨(w.heap.size + 1), 7, none⟩) ?_ (fun _ => by show (w.heap.size + 1) < (w.heap.size + 3); omega) _; refine Fr.setCell (p := ⟨(w.heap.size + 1), 6, none⟩) ?_ (fun _ => by show (w.heap.size + 1) < (w.heap.size + 3); omega) _; refine Fr.setCell (p := ⟨(w.heap.size + 1), 5, none⟩) ?_ (fun _ => by show (w.heap.size + 1) < (w.heap.size + 3); omega) _; refine Fr.setCell (p := ⟨(w.heap.size + 1), 4, none⟩) ?_ (fun _ => by show (w.heap.size + 1) < (w.heap.size + 3); omega) _; refine Fr.setCell (p := ⟨(w.heap.size + 1), 3, none⟩) ?_ (fun _ => by show (w.heap.size + 1) < (w.heap.size + 3); omega) _; refine Fr.setCell (p := ⟨(w.heap.size + 1), 2, none⟩) ?_ (fun _ => by show (w.heap.size + 1) < (w.heap.size + 3); omega) _; refine Fr.setCell (p := ⟨(w.heap.size + 1), 1, none⟩) ?_ (fun _ => by show (w.heap.size + 1) < (w.heap.size + 3); omega) _; refine Fr.setCell (p := ⟨(w.heap.size + 1), 0, none⟩) ?_ (fun _ => by show (w.heap.size + 1) < (w.heap.size + 3); omega) _; exact Fr.refl _ _ : Fr (fun j => j < (w.heap.size + 3)) V _) (fun j hj e => by have := (HO5.out.lt j hj).1; omega)).weak (by omega)
 ·refine Below.setCell ?_ (p := ⟨(w.heap.size + 1), 10, none⟩) (by show w.heap.size ≤ (w.heap.size + 1); omega) _; refine Below.setCell ?_ (p := ⟨(w.heap.size + 1), 9, none⟩) (by show w.heap.size ≤ (w.heap.size + 1); omega) _; refine Below.setCell ?_ (p := ⟨(w.heap.size + 1), 8, none⟩) (by show w.heap.size ≤ (w.heap.size + 1); omega) _; refine Below.setCell ?_ (p := ⟨(w.heap.size + 1), 7, none⟩) (by show w.heap.size ≤ (w.heap.size + 1); omega) _; refine Below.setCell ?_ (p := ⟨(w.heap.size + 1), 6, none⟩) (by show w.heap.size ≤ (w.heap.size + 1); omega) _; refine Below.setCell ?_ (p := ⟨(w.heap.size + 1), 5, none⟩) (by show w.heap.size ≤ (w.heap.size + 1); omega) _; refine Below.setCell ?_ (p := ⟨(w.heap.size + 1), 4, none⟩) (by show w.heap.size ≤ (w.heap.size + 1); omega) _; refine Below.setCell ?_ (p := ⟨(w.heap.size + 1), 3, none⟩) (by show w.heap.size ≤ (w.heap.size + 1); omega) _; refine Below.setCell ?_ (p := ⟨(w.heap.size + 1), 2, none⟩) (by show w.heap.size ≤ (w.heap.size + 1); omega) _; refine Below.setCell ?_ (p := ⟨(w.heap.size + 1), 1, none⟩) (by show w.heap.size ≤ (w.heap.size + 1); omega) _; refine Below.setCell ?_ (p := ⟨(w.heap.size + 1), 0, none⟩) (by show w.heap.size ≤ (w.heap.size + 1); omega) _; exact HB.out
set_option maxRecDepth 100000 in
set_option maxHeartbeats 3200000 in
theorem cpp_any (p : Pv) (w : World) (h : PvD w w.heap.size p) (hs : PvS p) :
  Calls Tryz.prog 55 #[.agg #[.int .i64 p.i, .int .i64 p.n, .int .i64 p.d, .int .i64 p.t, .int .i64 p.s, .slice p.ma p.mn p.mc, .slice p.la p.ln p.lc, .slice p.ha p.hn p.hc, .slice p.aa p.an p.ac, .slice p.xa p.xn p.xc, .bool p.b]] w (CpP w p) := by
 have HH := Hk.mk h
 have HS := Hk.mk hs
 have hhn : p.hn ≤ 1048576 := hs.h
 have han : p.an ≤ 1048576 := hs.a
 have hxn : p.xn ≤ 1048576 := hs.x
 have HB : Hk (Below w.heap.size w ((w.alloc (.cells #[.int .i64 p.i, .int .i64 p.n, .int .i64 p.d, .int .i64 p.t, .int .i64 p.s, .slice p.ma p.mn p.mc, .slice p.la p.ln p.lc, .slice p.ha p.hn p.hc, .slice p.aa p.an p.ac, .slice p.xa p.xn p.xc, .bool p.b] 26)).alloc (.cells #[.int .i64 0, .int .i64 0, .int .i64 0, .int .i64 0, .int .i64 0, .slice none 0 0, .slice none 0 0, .slice none 0 0, .slice none 0 0, .slice none 0 0, .bool false] 26))) := ⟨((Below.refl _ _).alloc (Nat.le_refl _) _).alloc (by simp) _⟩
 have HZ : Hk (Bk ((w.alloc (.cells #[.int .i64 p.i, .int .i64 p.n, .int .i64 p.d, .int .i64 p.t, .int .i64 p.s, .slice p.ma p.mn p.mc, .slice p.la p.ln p.lc, .slice p.ha p.hn p.hc, .slice p.aa p.an p.ac, .slice p.xa p.xn p.xc, .bool p.b] 26)).alloc (.cells #[.int .i64 0, .int .i64 0, .int .i64 0, .int .i64 0, .int .i64 0, .slice none 0 0, .slice none 0 0, .slice none 0 0, .slice none 0 0, .slice none 0 0, .bool false] 26)) (w.heap.size + 1) #[.int .i64 0, .int .i64 0, .int .i64 0, .int .i64 0, .int .i64 0, .slice none 0 0, .slice none 0 0, .slice none 0 0, .slice none 0 0, .slice none 0 0, .bool false]) := ⟨by have := Bk.new (w.alloc (.cells #[.int .i64 p.i, .int .i64 p.n, .int .i64 p.d, .int .i64 p.t, .int .i64 p.s, .slice p.ma p.mn p.mc, .slice p.la p.ln p.lc, .slice p.ha p.hn p.hc, .slice p.aa p.an p.ac, .slice p.xa p.xn p.xc, .bool p.b] 26)) #[.int .i64 0, .int .i64 0, .int .i64 0, .int .i64 0, .int .i64 0, .slice none 0 0, .slice none 0 0, .slice none 0 0, .slice none 0 0, .slice none 0 0, .bool false] 26; simpa using this⟩
 have HX : Hk (Bk ((w.alloc (.cells #[.int .i64 p.i, .int .i64 p.n, .int .i64 p.d, .int .i64 p.t, .int .i64 p.s, .slice p.ma p.mn p.mc, .slice p.la p.ln p.lc, .slice p.ha p.hn p.hc, .slice p.aa p.an p.ac, .slice p.xa p.xn p.xc, .bool p.b] 26)).alloc (.cells #[.int .i64 0, .int .i64 0, .int .i64 0, .int .i64 0, .int .i64 0, .slice none 0 0, .slice none 0 0, .slice none 0 0, .slice none 0 0, .slice none 0 0, .bool false] 26)) w.heap.size #[.int .i64 p.i, .int .i64 p.n, .int .i64 p.d, .int .i64 p.t, .int .i64 p.s, .slice p.ma p.mn p.mc, .slice p.la p.ln p.lc, .slice p.ha p.hn p.hc, .slice p.aa p.an p.ac, .slice p.xa p.xn p.xc, .bool p.b]) := ⟨(Bk.new w #[.int .i64 p.i, .int .i64 p.n, .int .i64 p.d, .int .i64 p.t, .int .i64 p.s, .slice p.ma p.mn p.mc, .slice p.la p.ln p.lc, .slice p.ha p.hn p.hc, .slice p.aa p.an p.ac, .slice p.xa p.xn p.xc, .bool p.b] 26).al _⟩
 have hsz : w.heap.size + 2 ≤ ((w.alloc (.cells #[.int .i64 p.i, .int .i64 p.n, .int .i64 p.d, .int .i64 p.t, .int .i64 p.s, .slice p.ma p.mn p.mc, .slice p.la p.ln p.lc, .slice p.ha p.hn p.hc, .slice p.aa p.an p.ac, .slice p.xa p.xn p.xc, .bool p.b] 26)).alloc (.cells #[.int .i64 0, .int .i64 0, .int .i64 0, .int .i64 0, .int .i64 0, .slice none 0 0, .slice none 0 0, .slice none 0 0, .slice none 0 0, .slice none 0 0, .bool false] 26)).heap.size := by simp
 clear h hs
 go_enter Tryz.func55, Tryz.ntmps55
 go_upto_region 1 with fail
 generalize ((w.alloc (.cells #[.int .i64 p.i, .int .i64 p.n, .int .i64 p.d, .int .i64 p.t, .int .i64 p.s, .slice p.ma p.mn p.mc, .slice p.la p.ln p.lc, .slice p.ha p.hn p.hc, .slice p.aa p.an p.ac, .slice p.xa p.xn p.xc, .bool p.b] 26)).alloc (.cells #[.int .i64 0, .int .i64 0, .int .i64 0, .int .i64 0, .int .i64 0, .slice none 0 0, .slice none 0 0, .slice none 0 0, .slice none 0 0, .slice none 0 0, .bool false] 26)) = V at *
 have HSV := Hk.mk hsz
 clear hsz
 have r5 := HX.out.c 5
 have rl := HX.out.lt
 try simp at r5
 go_upto_region 2 with (go_at_call 86; (with_reducible refine (cpins_any p.ma p.mn p.mc p.ml _ (HH.out.later HB.out).m HS.out.m).mono ?_); rintro e z ⟨v, Q1, rfl, ho, hab, hb⟩; obtain ⟨a1, c1, rfl, -⟩ := ho.o.form; have HA1 := Hk.mk hab; clear hab; have HO1 : Hk (OwN z (w.heap.size + 2) (.slice a1 p.mn c1) p.mn Q1) := ⟨(ho).weak HSV.out⟩; have HB2 := Hk.mk (HB.out.trans (hb.mono HB.out.size)); have HX2 := Hk.mk (HX.out.below hb); have HZ2 := Hk.mk (HZ.out.below hb); have cx := HX2.out.c 5; have fx := HX2.out.f 5; have lx := HX2.out.lt; have HSZ := Hk.mk (Nat.le_trans HSV.out hb.size); clear ho hb)
 have HX3 : Hk (Bk (z.setCell ⟨w.heap.size, 5, none⟩ (.slice a1 p.mn c1)) w.heap.size #[.int .i64 p.i, .int .i64 p.n, .int .i64 p.d, .int .i64 p.t, .int .i64 p.s, .slice a1 p.mn c1, .slice p.la p.ln p.lc, .slice p.ha p.hn p.hc, .slice p.aa p.an p.ac, .slice p.xa p.xn p.xc, .bool p.b]) := ⟨HX2.out.set 5 (.slice a1 p.mn c1)⟩
 have HZ3 : Hk (Bk (z.setCell ⟨w.heap.size, 5, none⟩ (.slice a1 p.mn c1)) (w.heap.size + 1) #[.int .i64 0, .int .i64 0, .int .i64 0, .int .i64 0, .int .i64 0, .slice none 0 0, .slice none 0 0, .slice none 0 0, .slice none 0 0, .slice none 0 0, .bool false]) := ⟨HZ2.out.oth (by omega) 5 (.slice a1 p.mn c1)⟩
 have HB3 : Hk (Below w.heap.size w (z.setCell ⟨w.heap.size, 5, none⟩ (.slice a1 p.mn c1))) := ⟨HB2.out.setCell (p := ⟨w.heap.size, 5, none⟩) (by show w.heap.size ≤ w.heap.size; omega) (.slice a1 p.mn c1)⟩
 have HF3 : Hk (Fr (fun j => j < (w.heap.size + 2)) z (z.setCell ⟨w.heap.size, 5, none⟩ (.slice a1 p.mn c1))) := ⟨Fr.setCell (p := ⟨w.heap.size, 5, none⟩) (Fr.refl _ z) (fun _ => by show w.heap.size < (w.heap.size + 2); omega) (.slice a1 p.mn c1)⟩
 replace HO1 : Hk (OwN (z.setCell ⟨w.heap.size, 5, none⟩ (.slice a1 p.mn c1)) (w.heap.size + 2) (.slice a1 p.mn c1) p.mn Q1) := ⟨OwN.up HO1.out HF3.out (fun j hj e => by omega)⟩
 have HSV2 : Hk ((w.heap.size + 2) ≤ (z.setCell ⟨w.heap.size, 5, none⟩ (.slice a1 p.mn c1)).heap.size) := ⟨by simpa using HSZ.out⟩
 clear HX HZ HB cx fx lx r5 rl HX2 HZ2 HB2 HSZ HSV HF3
 generalize (z.setCell ⟨w.heap.size, 5, none⟩ (.slice a1 p.mn c1)) = V2 at *
 obtain ⟨HX, HZ, HB, HSV⟩ : (Hk (Bk V2 w.heap.size #[.int .i64 p.i, .int .i64 p.n, .int .i64 p.d, .int .i64 p.t, .int .i64 p.s, .slice a1 p.mn c1, .slice p.la p.ln p.lc, .slice p.ha p.hn p.hc, .slice p.aa p.an p.ac, .slice p.xa p.xn p.xc, .bool p.b])) ∧ (Hk (Bk V2 (w.heap.size + 1) #[.int .i64 0, .int .i64 0, .int .i64 0, .int .i64 0, .int .i64 0, .slice none 0 0, .slice none 0 0, .slice none 0 0, .slice none 0 0, .slice none 0 0, .bool false])) ∧ (Hk (Below w.heap.size w V2)) ∧ (Hk ((w.heap.size + 2) ≤ V2.heap.size)) := ⟨HX3, HZ3, HB3, HSV2⟩
 clear HX3 HZ3 HB3 HSV2 V z
 rename World => V
 have r6 := HX.out.c 6
 have rl := HX.out.lt
 try simp at r6
 go_upto_region 3 with (go_at_call 86; (with_reducible refine (cpins_any p.la p.ln p.lc p.ll _ (HH.out.later HB.out).l HS.out.l).mono ?_); rintro e z ⟨v, Q2, rfl, ho, hab, hb⟩; obtain ⟨a2, c2, rfl, -⟩ := ho.o.form; have HA2 := Hk.mk hab; clear hab; have HO2 : Hk (OwN z (w.heap.size + 2) (.slice a2 p.ln c2) p.ln Q2) := ⟨(ho).weak HSV.out⟩; replace HO1 := Hk.mk (HO1.out.below hb); have HB2 := Hk.mk (HB.out.trans (hb.mono HB.out.size)); have HX2 := Hk.mk (HX.out.below hb); have HZ2 := Hk.mk (HZ.out.below hb); have cx := HX2.out.c 6; have fx := HX2.out.f 6; have lx := HX2.out.lt; have HSZ := Hk.mk (Nat.le_trans HSV.out hb.size); clear ho hb)
 have HX3 : Hk (Bk (z.setCell ⟨w.heap.size, 6, none⟩ (.slice a2 p.ln c2)) w.heap.size #[.int .i64 p.i, .int .i64 p.n, .int .i64 p.d, .int .i64 p.t, .int .i64 p.s, .slice a1 p.mn c1, .slice a2 p.ln c2, .slice p.ha p.hn p.hc, .slice p.aa p.an p.ac, .slice p.xa p.xn p.xc, .bool p.b]) := ⟨HX2.out.set 6 (.slice a2 p.ln c2)⟩
 have HZ3 : Hk (Bk (z.setCell ⟨w.heap.size, 6, none⟩ (.slice a2 p.ln c2)) (w.heap.size + 1) #[.int .i64 0, .int .i64 0, .int .i64 0, .int .i64 0, .int .i64 0, .slice none 0 0, .slice none 0 0, .slice none 0 0, .slice none 0 0, .slice none 0 0, .bool false]) := ⟨HZ2.out.oth (by omega) 6 (.slice a2 p.ln c2)⟩
 have HB3 : Hk (Below w.heap.size w (z.setCell ⟨w.heap.size, 6, none⟩ (.slice a2 p.ln c2))) := ⟨HB2.out.setCell (p := ⟨w.heap.size, 6, none⟩) (by show w.heap.size ≤ w.heap.size; omega) (.slice a2 p.ln c2)⟩
 have HF3 : Hk (Fr (fun j => j < (w.heap.size + 2)) z (z.setCell ⟨w.heap.size, 6, none⟩ (.slice a2 p.ln c2))) := ⟨Fr.setCell (p := ⟨w.heap.size, 6, none⟩) (Fr.refl _ z) (fun _ => by show w.heap.size < (w.heap.size + 2); omega) (.slice a2 p.ln c2)⟩
 replace HO1 : Hk (OwN (z.setCell ⟨w.heap.size, 6, none⟩ (.slice a2 p.ln c2)) (w.heap.size + 2) (.slice a1 p.mn c1) p.mn Q1) := ⟨OwN.up HO1.out HF3.out (fun j hj e => by omega)⟩
 replace HO2 : Hk (OwN (z.setCell ⟨w.heap.size, 6, none⟩ (.slice a2 p.ln c2)) (w.heap.size + 2) (.slice a2 p.ln c2) p.ln Q2) := ⟨OwN.up HO2.out HF3.out (fun j hj e => by omega)⟩
 have HSV2 : Hk ((w.heap.size + 2) ≤ (z.setCell ⟨w.heap.size, 6, none⟩ (.slice a2 p.ln c2)).heap.size) := ⟨by simpa using HSZ.out⟩
 clear HX HZ HB cx fx lx r6 rl HX2 HZ2 HB2 HSZ HSV HF3
 generalize (z.setCell ⟨w.heap.size, 6, none⟩ (.slice a2 p.ln c2)) = V2 at *
 obtain ⟨HX, HZ, HB, HSV⟩ : (Hk (Bk V2 w.heap.size #[.int .i64 p.i, .int .i64 p.n, .int .i64 p.d, .int .i64 p.t, .int .i64 p.s, .slice a1 p.mn c1, .slice a2 p.ln c2, .slice p.ha p.hn p.hc, .slice p.aa p.an p.ac, .slice p.xa p.xn p.xc, .bool p.b])) ∧ (Hk (Bk V2 (w.heap.size + 1) #[.int .i64 0, .int .i64 0, .int .i64 0, .int .i64 0, .int .i64 0, .slice none 0 0, .slice none 0 0, .slice none 0 0, .slice none 0 0, .slice none 0 0, .bool false])) ∧ (Hk (Below w.heap.size w V2)) ∧ (Hk ((w.heap.size + 2) ≤ V2.heap.size)) := ⟨HX3, HZ3, HB3, HSV2⟩
 clear HX3 HZ3 HB3 HSV2 V z
 rename World => V
 have r7 := HX.out.c 7
 have rl := HX.out.lt
 try simp at r7
 go_upto_region 4 with (go_at_call 87; (with_reducible refine (clonez_any p.ha p.hn p.hc V.heap.size p.hl _ (HH.out.later HB.out).h.qv (Nat.le_refl _) (by omega)).mono ?_); rintro e z ⟨v, rfl, ho, hb⟩; obtain ⟨a3, c3, rfl, -⟩ := ho.form; have HO3 : Hk (OwnI z (w.heap.size + 2) (.slice a3 p.hn c3) p.hn p.hl) := ⟨(ho.owni).weak HSV.out⟩; replace HO1 := Hk.mk (HO1.out.below hb); replace HO2 := Hk.mk (HO2.out.below hb); have HB2 := Hk.mk (HB.out.trans (hb.mono HB.out.size)); have HX2 := Hk.mk (HX.out.below hb); have HZ2 := Hk.mk (HZ.out.below hb); have cx := HX2.out.c 7; have fx := HX2.out.f 7; have lx := HX2.out.lt; have HSZ := Hk.mk (Nat.le_trans HSV.out hb.size); clear ho hb)
 have HX3 : Hk (Bk (z.setCell ⟨w.heap.size, 7, none⟩ (.slice a3 p.hn c3)) w.heap.size #[.int .i64 p.i, .int .i64 p.n, .int .i64 p.d, .int .i64 p.t, .int .i64 p.s, .slice a1 p.mn c1, .slice a2 p.ln c2, .slice a3 p.hn c3, .slice p.aa p.an p.ac, .slice p.xa p.xn p.xc, .bool p.b]) := ⟨HX2.out.set 7 (.slice a3 p.hn c3)⟩
 have HZ3 : Hk (Bk (z.setCell ⟨w.heap.size, 7, none⟩ (.slice a3 p.hn c3)) (w.heap.size + 1) #[.int .i64 0, .int .i64 0, .int .i64 0, .int .i64 0, .int .i64 0, .slice none 0 0, .slice none 0 0, .slice none 0 0, .slice none 0 0, .slice none 0 0, .bool false]) := ⟨HZ2.out.oth (by omega) 7 (.slice a3 p.hn c3)⟩
 have HB3 : Hk (Below w.heap.size w (z.setCell ⟨w.heap.size, 7, none⟩ (.slice a3 p.hn c3))) := ⟨HB2.out.setCell (p := ⟨w.heap.size, 7, none⟩) (by show w.heap.size ≤ w.heap.size; omega) (.slice a3 p.hn c3)⟩
 have HF3 : Hk (Fr (fun j => j < (w.heap.size + 2)) z (z.setCell ⟨w.heap.size, 7, none⟩ (.slice a3 p.hn c3))) := ⟨Fr.setCell (p := ⟨w.heap.size, 7, none⟩) (Fr.refl _ z) (fun _ => by show w.heap.size < (w.heap.size + 2); omega) (.slice a3 p.hn c3)⟩
 replace HO1 : Hk (OwN (z.setCell ⟨w.heap.size, 7, none⟩ (.slice a3 p.hn c3)) (w.heap.size + 2) (.slice a1 p.mn c1) p.mn Q1) := ⟨OwN.up HO1.out HF3.out (fun j hj e => by omega)⟩
 replace HO2 : Hk (OwN (z.setCell ⟨w.heap.size, 7, none⟩ (.slice a3 p.hn c3)) (w.heap.size + 2) (.slice a2 p.ln c2) p.ln Q2) := ⟨OwN.up HO2.out HF3.out (fun j hj e => by omega)⟩
 replace HO3 : Hk (OwnI (z.setCell ⟨w.heap.size, 7, none⟩ (.slice a3 p.hn c3)) (w.heap.size + 2) (.slice a3 p.hn c3) p.hn p.hl) := ⟨Fr.owni HO3.out HF3.out (fun j hj e => by have := (HO3.out.lt j hj).1; omega)⟩
 have HSV2 : Hk ((w.heap.size + 2) ≤ (z.setCell ⟨w.heap.size, 7, none⟩ (.slice a3 p.hn c3)).heap.size) := ⟨by simpa using HSZ.out⟩
 clear HX HZ HB cx fx lx r7 rl HX2 HZ2 HB2 HSZ HSV HF3
 generalize (z.setCell ⟨w.heap.size, 7, none⟩ (.slice a3 p.hn c3)) = V2 at *
 obtain ⟨HX, HZ, HB, HSV⟩ : (Hk (Bk V2 w.heap.size #[.int .i64 p.i, .int .i64 p.n, .int .i64 p.d, .int .i64 p.t, .int .i64 p.s, .slice a1 p.mn c1, .slice a2 p.ln c2, .slice a3 p.hn c3, .slice p.aa p.an p.ac, .slice p.xa p.xn p.xc, .bool p.b])) ∧ (Hk (Bk V2 (w.heap.size + 1) #[.int .i64 0, .int .i64 0, .int .i64 0, .int .i64 0, .int .i64 0, .slice none 0 0, .slice none 0 0, .slice none 0 0, .slice none 0 0, .slice none 0 0, .bool false])) ∧ (Hk (Below w.heap.size w V2)) ∧ (Hk ((w.heap.size + 2) ≤ V2.heap.size)) := ⟨HX3, HZ3, HB3, HSV2⟩
 clear HX3 HZ3 HB3 HSV2 V z
 rename World => V
 have r8 := HX.out.c 8
 have rl := HX.out.lt
 try simp at r8
 go_upto_region 5 with (go_at_call 87; (with_reducible refine (clonez_any p.aa p.an p.ac V.heap.size p.al _ (HH.out.later HB.out).a.qv (Nat.le_refl _) (by omega)).mono ?_); rintro e z ⟨v, rfl, ho, hb⟩; obtain ⟨a4, c4, rfl, -⟩ := ho.form; have HO4 : Hk (OwnI z (w.heap.size + 2) (.slice a4 p.an c4) p.an p.al) := ⟨(ho.owni).weak HSV.out⟩; replace HO1 := Hk.mk (HO1.out.below hb); replace HO2 := Hk.mk (HO2.out.below hb); replace HO3 := Hk.mk (HO3.out.below hb); have HB2 := Hk.mk (HB.out.trans (hb.mono HB.out.size)); have HX2 := Hk.mk (HX.out.below hb); have HZ2 := Hk.mk (HZ.out.below hb); have cx := HX2.out.c 8; have fx := HX2.out.f 8; have lx := HX2.out.lt; have HSZ := Hk.mk (Nat.le_trans HSV.out hb.size); clear ho hb)
 have HX3 : Hk (Bk (z.setCell ⟨w.heap.size, 8, none⟩ (.slice a4 p.an c4)) w.heap.size #[.int .i64 p.i, .int .i64 p.n, .int .i64 p.d, .int .i64 p.t, .int .i64 p.s, .slice a1 p.mn c1, .slice a2 p.ln c2, .slice a3 p.hn c3, .slice a4 p.an c4, .slice p.xa p.xn p.xc, .bool p.b]) := ⟨HX2.out.set 8 (.slice a4 p.an c4)⟩
 have HZ3 : Hk (Bk (z.setCell ⟨w.heap.size, 8, none⟩ (.slice a4 p.an c4)) (w.heap.size + 1) #[.int .i64 0, .int .i64 0, .int .i64 0, .int .i64 0, .int .i64 0, .slice none 0 0, .slice none 0 0, .slice none 0 0, .slice none 0 0, .slice none 0 0, .bool false]) := ⟨HZ2.out.oth (by omega) 8 (.slice a4 p.an c4)⟩
 have HB3 : Hk (Below w.heap.size w (z.setCell ⟨w.heap.size, 8, none⟩ (.slice a4 p.an c4))) := ⟨HB2.out.setCell (p := ⟨w.heap.size, 8, none⟩) (by show w.heap.size ≤ w.heap.size; omega) (.slice a4 p.an c4)⟩
 have HF3 : Hk (Fr (fun j => j < (w.heap.size + 2)) z (z.setCell ⟨w.heap.size, 8, none⟩ (.slice a4 p.an c4))) := ⟨Fr.setCell (p := ⟨w.heap.size, 8, none⟩) (Fr.refl _ z) (fun _ => by show w.heap.size < (w.heap.size + 2); omega) (.slice a4 p.an c4)⟩
 replace HO1 : Hk (OwN (z.setCell ⟨w.heap.size, 8, none⟩ (.slice a4 p.an c4)) (w.heap.size + 2) (.slice a1 p.mn c1) p.mn Q1) := ⟨OwN.up HO1.out HF3.out (fun j hj e => by omega)⟩
 replace HO2 : Hk (OwN (z.setCell ⟨w.heap.size, 8, none⟩ (.slice a4 p.an c4)) (w.heap.size + 2) (.slice a2 p.ln c2) p.ln Q2) := ⟨OwN.up HO2.out HF3.out (fun j hj e => by omega)⟩
 replace HO3 : Hk (OwnI (z.setCell ⟨w.heap.size, 8, none⟩ (.slice a4 p.an c4)) (w.heap.size + 2) (.slice a3 p.hn c3) p.hn p.hl) := ⟨Fr.owni HO3.out HF3.out (fun j hj e => by have := (HO3.out.lt j hj).1; omega)⟩
 replace HO4 : Hk (OwnI (z.setCell ⟨w.heap.size, 8, none⟩ (.slice a4 p.an c4)) (w.heap.size + 2) (.slice a4 p.an c4) p.an p.al) := ⟨Fr.owni HO4.out HF3.out (fun j hj e => by have := (HO4.out.lt j hj).1; omega)⟩
 have HSV2 : Hk ((w.heap.size + 2) ≤ (z.setCell ⟨w.heap.size, 8, none⟩ (.slice a4 p.an c4)).heap.size) := ⟨by simpa using HSZ.out⟩
 clear HX HZ HB cx fx lx r8 rl HX2 HZ2 HB2 HSZ HSV HF3
 generalize (z.setCell ⟨w.heap.size, 8, none⟩ (.slice a4 p.an c4)) = V2 at *
 obtain ⟨HX, HZ, HB, HSV⟩ : (Hk (Bk V2 w.heap.size #[.int .i64 p.i, .int .i64 p.n, .int .i64 p.d, .int .i64 p.t, .int .i64 p.s, .slice a1 p.mn c1, .slice a2 p.ln c2, .slice a3 p.hn c3, .slice a4 p.an c4, .slice p.xa p.xn p.xc, .bool p.b])) ∧ (Hk (Bk V2 (w.heap.size + 1) #[.int .i64 0, .int .i64 0, .int .i64 0, .int .i64 0, .int .i64 0, .slice none 0 0, .slice none 0 0, .slice none 0 0, .slice none 0 0, .slice none 0 0, .bool false])) ∧ (Hk (Below w.heap.size w V2)) ∧ (Hk ((w.heap.size + 2) ≤ V2.heap.size)) := ⟨HX3, HZ3, HB3, HSV2⟩
 clear HX3 HZ3 HB3 HSV2 V z
 rename World => V
 have r9 := HX.out.c 9
 have rl := HX.out.lt
 try simp at r9
 go_upto_region 6 with (go_at_call 88; (with_reducible refine (cloneu_any p.xa p.xn p.xc V.heap.size p.xl _ (HH.out.later HB.out).x (Nat.le_refl _) (by omega)).mono ?_); rintro e z ⟨v, rfl, ho, hb⟩; obtain ⟨a5, c5, rfl, -⟩ := ho.form; have HO5 : Hk (Ow shU 41 z (w.heap.size + 2) (.slice a5 p.xn c5) p.xn p.xl) := ⟨(ho).weak HSV.out⟩; replace HO1 := Hk.mk (HO1.out.below hb); replace HO2 := Hk.mk (HO2.out.below hb); replace HO3 := Hk.mk (HO3.out.below hb); replace HO4 := Hk.mk (HO4.out.below hb); have HB2 := Hk.mk (HB.out.trans (hb.mono HB.out.size)); have HX2 := Hk.mk (HX.out.below hb); have HZ2 := Hk.mk (HZ.out.below hb); have cx := HX2.out.c 9; have fx := HX2.out.f 9; have lx := HX2.out.lt; have HSZ := Hk.mk (Nat.le_trans HSV.out hb.size); clear ho hb)
 have HX3 : Hk (Bk (z.setCell ⟨w.heap.size, 9, none⟩ (.slice a5 p.xn c5)) w.heap.size #[.int .i64 p.i, .int .i64 p.n, .int .i64 p.d, .int .i64 p.t, .int .i64 p.s, .slice a1 p.mn c1, .slice a2 p.ln c2, .slice a3 p.hn c3, .slice a4 p.an c4, .slice a5 p.xn c5, .bool p.b]) := ⟨HX2.out.set 9 (.slice a5 p.xn c5)⟩
 have HZ3 : Hk (Bk (z.setCell ⟨w.heap.size, 9, none⟩ (.slice a5 p.xn c5)) (w.heap.size + 1) #[.int .i64 0, .int .i64 0, .int .i64 0, .int .i64 0, .int .i64 0, .slice none 0 0, .slice none 0 0, .slice none 0 0, .slice none 0 0, .slice none 0 0, .bool false]) := ⟨HZ2.out.oth (by omega) 9 (.slice a5 p.xn c5)⟩
 have HB3 : Hk (Below w.heap.size w (z.setCell ⟨w.heap.size, 9, none⟩ (.slice a5 p.xn c5))) := ⟨HB2.out.setCell (p := ⟨w.heap.size, 9, none⟩) (by show w.heap.size ≤ w.heap.size; omega) (.slice a5 p.xn c5)⟩
 have HF3 : Hk (Fr (fun j => j < (w.heap.size + 2)) z (z.setCell ⟨w.heap.size, 9, none⟩ (.slice a5 p.xn c5))) := ⟨Fr.setCell (p := ⟨w.heap.size, 9, none⟩) (Fr.refl _ z) (fun _ => by show w.heap.size < (w.heap.size + 2); omega) (.slice a5 p.xn c5)⟩
 replace HO1 : Hk (OwN (z.setCell ⟨w.heap.size, 9, none⟩ (.slice a5 p.xn c5)) (w.heap.size + 2) (.slice a1 p.mn c1) p.mn Q1) := ⟨OwN.up HO1.out HF3.out (fun j hj e => by omega)⟩
 replace HO2 : Hk (OwN (z.setCell ⟨w.heap.size, 9, none⟩ (.slice a5 p.xn c5)) (w.heap.size + 2) (.slice a2 p.ln c2) p.ln Q2) := ⟨OwN.up HO2.out HF3.out (fun j hj e => by omega)⟩
 replace HO3 : Hk (OwnI (z.setCell ⟨w.heap.size, 9, none⟩ (.slice a5 p.xn c5)) (w.heap.size + 2) (.slice a3 p.hn c3) p.hn p.hl) := ⟨Fr.owni HO3.out HF3.out (fun j hj e => by have := (HO3.out.lt j hj).1; omega)⟩
 replace HO4 : Hk (OwnI (z.setCell ⟨w.heap.size, 9, none⟩ (.slice a5 p.xn c5)) (w.heap.size + 2) (.slice a4 p.an c4) p.an p.al) := ⟨Fr.owni HO4.out HF3.out (fun j hj e => by have := (HO4.out.lt j hj).1; omega)⟩
 replace HO5 : Hk (Ow shU 41 (z.setCell ⟨w.heap.size, 9, none⟩ (.slice a5 p.xn c5)) (w.heap.size + 2) (.slice a5 p.xn c5) p.xn p.xl) := ⟨Ow.fr HO5.out HF3.out (fun j hj e => by have := (HO5.out.lt j hj).1; omega)⟩
 have HSV2 : Hk ((w.heap.size + 2) ≤ (z.setCell ⟨w.heap.size, 9, none⟩ (.slice a5 p.xn c5)).heap.size) := ⟨by simpa using HSZ.out⟩
 clear HX HZ HB cx fx lx r9 rl HX2 HZ2 HB2 HSZ HSV HF3
 generalize (z.setCell ⟨w.heap.size, 9, none⟩ (.slice a5 p.xn c5)) = V2 at *
 obtain ⟨HX, HZ, HB, HSV⟩ : (Hk (Bk V2 w.heap.size #[.int .i64 p.i, .int .i64 p.n, .int .i64 p.d, .int .i64 p.t, .int .i64 p.s, .slice a1 p.mn c1, .slice a2 p.ln c2, .slice a3 p.hn c3, .slice a4 p.an c4, .slice a5 p.xn c5, .bool p.b])) ∧ (Hk (Bk V2 (w.heap.size + 1) #[.int .i64 0, .int .i64 0, .int .i64 0, .int .i64 0, .int .i64 0, .slice none 0 0, .slice none 0 0, .slice none 0 0, .slice none 0 0, .slice none 0 0, .bool false])) ∧ (Hk (Below w.heap.size w V2)) ∧ (Hk ((w.heap.size + 2) ≤ V2.heap.size)) := ⟨HX3, HZ3, HB3, HSV2⟩
 clear HX3 HZ3 HB3 HSV2 V z
 rename World => V
 have x0 := HX.out.c 0
 have z0 := HZ.out.c 0
 have g0 := HZ.out.f 0
 have x1 := HX.out.c 1
 have z1 := HZ.out.c 1
 have g1 := HZ.out.f 1
 have x2 := HX.out.c 2
 have z2 := HZ.out.c 2
 have g2 := HZ.out.f 2
 have x3 := HX.out.c 3
 have z3 := HZ.out.c 3
 have g3 := HZ.out.f 3
 have x4 := HX.out.c 4
 have z4 := HZ.out.c 4
 have g4 := HZ.out.f 4
 have x5 := HX.out.c 5
 have z5 := HZ.out.c 5
 have g5 := HZ.out.f 5
 have x6 := HX.out.c 6
 have z6 := HZ.out.c 6
 have g6 := HZ.out.f 6
 have x7 := HX.out.c 7
 have z7 := HZ.out.c 7
 have g7 := HZ.out.f 7
 have x8 := HX.out.c 8
 have z8 := HZ.out.c 8
 have g8 := HZ.out.f 8
 have x9 := HX.out.c 9
 have z9 := HZ.out.c 9
 have g9 := HZ.out.f 9
 have x10 := HX.out.c 10
 have z10 := HZ.out.c 10
 have g10 := HZ.out.f 10
 simp at x0 z0 x1 z1 x2 z2 x3 z3 x4 z4 x5 z5 x6 z6 x7 z7 x8 z8 x9 z9 x10 z10
 have hxl := HX.out.lt
 have hzl := HZ.out.lt
 go_wp2
 refine bodyPost_ret (v := .agg #[.int .i64 p.i, .int .i64 p.n, .int .i64 p.d, .int .i64 p.t, .int .i64 p.s, .slice a1 p.mn c1, .slice a2 p.ln c2, .slice a3 p.hn c3, .slice a4 p.an c4, .slice a5 p.xn c5, .bool p.b]) (by simp [results, Tryz.results55, go_sem, z0, z1, z2, z3, z4, z5, z6, z7, z8, z9, z10]) rfl ⟨{ p with ma := a1, mc := c1, ml := Q1, la := a2, lc := c2, ll := Q2, ha := a3, hc := c3, aa := a4, ac := c4, xa := a5, xc := c5 }, rfl, ⟨?_, ?_, ?_, ?_, ?_⟩, by show Pm.mk _ _ _ _ _ _ _ _ _ _ _ = Pm.mk _ _ _ _ _ _ _ _ _ _ _; rw [HA1.out, HA2.out], rfl, rfl, rfl, rfl, rfl, ?_⟩
 ·exact (OwN.up HO1.out (by refine Fr.setCell (p := ⟨(w.heap.size + 1), 10, none⟩) ?_ (fun _ => by show (w.heap.size + 1) < (w.heap.size + 2); omega) _; refine Fr.setCell (p := ⟨(w.heap.size + 1), 9, none⟩) ?_ (fun _ => by show (w.heap.size + 1) < (w.heap.size + 2); omega) _; refine Fr.setCell (p := ⟨(w.heap.size + 1), 8, none⟩) ?_ (fun _ => by show (w.heap.size + 1) < (w.heap.size + 2); omega) _; refine Fr.setCell (p := ⟨(w.heap.size + 1), 7, none⟩) ?_ (fun _ => by show (w.heap.size + 1) < (w.heap.size + 2); omega) _; refine Fr.setCell (p := ⟨(w.heap.size + 1), 6, none⟩) ?_ (fun _ => by show (w.heap.size + 1) < (w.heap.size + 2); omega) _; refine Fr.setCell (p := ⟨(w.heap.size + 1), 5, none⟩) ?_ (fun _ => by show (w.heap.size + 1) < (w.heap.size + 2); omega) _; refine Fr.setCell (p := ⟨(w.heap.size + 1), 4, none⟩) ?_ (fun _ => by show (w.heap.size + 1) < (w.heap.size + 2); omega) _; refine Fr.setCell (p := ⟨(w.heap.size + 1), 3, none⟩) ?_ (fun _ => by show (w.heap.size + 1) < (w.heap.size + 2); omega) _; refine Fr.setCell (p := ⟨(w.heap.size + 1), 2, none⟩) ?_ (fun _ => by show (w.heap.size + 1) < (w.heap.size + 2); omega) _; refine Fr.setCell (p := ⟨(w.heap.size + 1), 1, none⟩) ?_ (fun _ => by show (w.heap.size + 1) < (w.heap.size + 2); omega) _; refine Fr.setCell (p := ⟨(w.heap.size + 1), 0, none⟩) ?_ (fun _ => by show (w.heap.size + 1) < (w.heap.size + 2); omega) _; exact Fr.refl _ _ : Fr (fun j => j < (w.heap.size + 2)) V _) (fun j hj e => by omega)).weak (by omega)
 ·exact (OwN.up HO2.out (by refine Fr.setCell (p := ⟨(w.heap.size + 1), 10, none⟩) ?_ (fun _ => by show (w.heap.size + 1) < (w.heap.size + 2); omega) _; refine Fr.setCell (p := ⟨(w.heap.size + 1), 9, none⟩) ?_ (fun _ => by show (w.heap.size + 1) < (w.heap.size + 2); omega) _; refine Fr.setCell (p := ⟨(w.heap.size + 1), 8, none⟩) ?_ (fun _ => by show (w.heap.size + 1) < (w.heap.size + 2); omega) _; refine Fr.setCell (p := ⟨(w.heap.size + 1), 7, none⟩) ?_ (fun _ => by show (w.heap.size + 1) < (w.heap.size + 2); omega) _; refine Fr.setCell (p := ⟨(w.heap.size + 1), 6, none⟩) ?_ (fun _ => by show (w.heap.size + 1) < (w.heap.size + 2); omega) _; refine Fr.setCell (p := ⟨(w.heap.size + 1), 5, none⟩) ?_ (fun _ => by show (w.heap.size + 1) < (w.heap.size + 2); omega) _; refine Fr.setCell (p := ⟨(w.heap.size + 1), 4, none⟩) ?_ (fun _ => by show (w.heap.size + 1) < (w.heap.size + 2); omega) _; refine Fr.setCell (p := ⟨(w.heap.size + 1), 3, none⟩) ?_ (fun _ => by show (w.heap.size + 1) < (w.heap.size + 2); omega) _; refine Fr.setCell (p := ⟨(w.heap.size + 1), 2, none⟩) ?_ (fun _ => by show (w.heap.size + 1) < (w.heap.size + 2); omega) _; refine Fr.setCell (p := ⟨(w.heap.size + 1), 1, none⟩) ?_ (fun _ => by show (w.heap.size + 1) < (w.heap.size + 2); omega) _; refine Fr.setCell (p := ⟨(w.heap.size + 1), 0, none⟩) ?_ (fun _ => by show (w.heap.size + 1) < (w.heap.size + 2); omega) _; exact Fr.refl _ _ : Fr (fun j => j < (w.heap.size + 2)) V _) (fun j hj e => by omega)).weak (by omega)
 ·exact (Fr.owni HO3.out (by refine Fr.setCell (p := ⟨(w.heap.size + 1), 10, none⟩) ?_ (fun _ => by show (w.heap.size + 1) < (w.heap.size + 2); omega) _; refine Fr.setCell (p := ⟨(w.heap.size + 1), 9, none⟩) ?_ (fun _ => by show (w.heap.size + 1) < (w.heap.size + 2); omega) _; refine Fr.setCell (p := ⟨(w.heap.size + 1), 8, none⟩) ?_ (fun _ => by show (w.heap.size + 1) < (w.heap.size + 2); omega) _; refine Fr.setCell (p := ⟨(w.heap.size + 1), 7, none⟩) ?_ (fun _ => by show (w.heap.size + 1) < (w.heap.size + 2); omega) _; refine Fr.setCell (p := ⟨(w.heap.size + 1), 6, none⟩) ?_ (fun _ => by show (w.heap.size + 1) < (w.heap.size + 2); omega) _; refine Fr.setCell (p := ⟨(w.heap.size + 1), 5, none⟩) ?_ (fun _ => by show (w.heap.size + 1) < (w.heap.size + 2); omega) _; refine Fr.setCell (p := ⟨(w.heap.size + 1), 4, none⟩) ?_ (fun _ => by show (w.heap.size + 1) < (w.heap.size + 2); omega) _; refine Fr.setCell (p := ⟨(w.heap.size + 1), 3, none⟩) ?_ (fun _ => by show (w.heap.size + 1) < (w.heap.size + 2); omega) _; refine Fr.setCell (p := ⟨(w.heap.size + 1), 2, none⟩) ?_ (fun _ => by show (w.heap.size + 1) < (w.heap.size + 2); omega) _; refine Fr.setCell (p := ⟨(w.heap.size + 1), 1, none⟩) ?_ (fun _ => by show (w.heap.size + 1) < (w.heap.size + 2); omega) _; refine Fr.setCell (p := ⟨(w.heap.size + 1), 0, none⟩) ?_ (fun _ => by show (w.heap.size + 1) < (w.heap.size + 2); omega) _; exact Fr.refl _ _ : Fr (fun j => j < (w.heap.size + 2)) V _) (fun j hj e => by have := (HO3.out.lt j hj).1; omega)).weak (by omega)
 ·exact (Fr.owni HO4.out (by refine Fr.setCell (p := ⟨(w.heap.size + 1), 10, none⟩) ?_ (fun _ => by show (w.heap.size + 1) < (w.heap.size + 2); omega) _; refine Fr.setCell (p := ⟨(w.heap.size + 1), 9, none⟩) ?_ (fun _ => by show (w.heap.size + 1) < (w.heap.size + 2); omega) _; refine Fr.setCell (p := ⟨(w.heap.size + 1), 8, none⟩) ?_ (fun _ => by show (w.heap.size + 1) < (w.heap.size + 2); omega) _; refine Fr.setCell (p := ⟨(w.heap.size + 1), 7, none⟩) ?_ (fun _ => by show (w.heap.size + 1) < (w.heap.size + 2); omega) _; refine Fr.setCell (p := ⟨(w.heap.size + 1), 6, none⟩) ?_ (fun _ => by show (w.heap.size + 1) < (w.heap.size + 2); omega) _; refine Fr.setCell (p := ⟨(w.heap.size + 1), 5, none⟩) ?_ (fun _ => by show (w.heap.size + 1) < (w.heap.size + 2); omega) _; refine Fr.setCell (p := ⟨(w.heap.size + 1), 4, none⟩) ?_ (fun _ => by show (w.heap.size + 1) < (w.heap.size + 2); omega) _; refine Fr.setCell (p := ⟨(w.heap.size + 1), 3, none⟩) ?_ (fun _ => by show (w.heap.size + 1) < (w.heap.size + 2); omega) _; refine Fr.setCell (p := ⟨(w.heap.size + 1), 2, none⟩) ?_ (fun _ => by show (w.heap.size + 1) < (w.heap.size + 2); omega) _; refine Fr.setCell (p := ⟨(w.heap.size + 1), 1, none⟩) ?_ (fun _ => by show (w.heap.size + 1) < (w.heap.size + 2); omega) _; refine Fr.setCell (p := ⟨(w.heap.size + 1), 0, none⟩) ?_ (fun _ => by show (w.heap.size + 1) < (w.heap.size + 2); omega) _; exact Fr.refl _ _ : Fr (fun j => j < (w.heap.size + 2)) V _) (fun j hj e => by have := (HO4.out.lt j hj).1; omega)).weak (by omega)
 ·exact (Ow.fr HO5.out (by refine Fr.setCell (p := ⟨(w.heap.size + 1), 10, none⟩) ?_ (fun _ => by show (w.heap.size + 1) < (w.heap.size + 2); omega) _; refine Fr.setCell (p := ⟨(w.heap.size + 1), 9, none⟩) ?_ (fun _ => by show (w.heap.size + 1) < (w.heap.size + 2); omega) _; refine Fr.setCell (p := ⟨(w.heap.size + 1), 8, none⟩) ?_ (fun _ => by show (w.heap.size + 1) < (w.heap.size + 2); omega) _; refine Fr.setCell (p := ⟨(w.heap.size + 1), 7, none⟩) ?_ (fun _ => by show (w.heap.size + 1) < (w.heap.size + 2); omega) _; refine Fr.setCell (p := ⟨(w.heap.size + 1), 6, none⟩) ?_ (fun _ => by show (w.heap.size + 1) < (w.heap.size + 2); omega) _; refine Fr.setCell (p := ⟨(w.heap.size + 1), 5, none⟩) ?_ (fun _ => by show (w.heap.size + 1) < (w.heap.size + 2); omega) _; refine Fr.setCell (p := ⟨(w.heap.size + 1), 4, none⟩) ?_ (fun _ => by show (w.heap.size + 1) < (w.heap.size + 2); omega) _; refine Fr.setCell (p := ⟨(w.heap.size + 1), 3, none⟩) ?_ (fun _ => by show (w.heap.size + 1) < (w.heap.size + 2); omega) _; refine Fr.setCell (p := ⟨(w.heap.size + 1), 2, none⟩) ?_ (fun _ => by show (w.heap.size + 1) < (w.heap.size + 2); omega) _; refine Fr.setCell (p := ⟨(w.heap.size + 1), 1, none⟩) ?_ (fun _ => by show (w.heap.size + 1) < (w.heap.size + 2); omega) _; refine Fr.setCell (p := ⟨(w.heap.size + 1), 0, none⟩) ?_ (fun _ => by show (w.heap.size + 1) < (w.heap.size + 2); omega) _; exact Fr.refl _ _ : Fr (fun j => j < (w.heap.size + 2)) V _) (fun j hj e => by have := (HO5.out.lt j hj).1; omega)).weak (by omega)
 ·refine Below.setCell ?_ (p := ⟨(w.heap.size + 1), 10, none⟩) (by show w.heap.size ≤ (w.heap.size + 1); omega) _; refine Below.setCell ?_ (p := ⟨(w.heap.size + 1), 9, none⟩) (by show w.heap.size ≤ (w.heap.size + 1); omega) _; refine Below.setCell ?_ (p := ⟨(w.heap.size + 1), 8, none⟩) (by show w.heap.size ≤ (w.heap.size + 1); omega) _; refine Below.setCell ?_ (p := ⟨(w.heap.size + 1), 7, none⟩) (by show w.heap.size ≤ (w.heap.size + 1); omega) _; refine Below.setCell ?_ (p := ⟨(w.heap.size + 1), 6, none⟩) (by show w.heap.size ≤ (w.heap.size + 1); omega) _; refine Below.setCell ?_ (p := ⟨(w.heap.size + 1), 5, none⟩) (by show w.heap.size ≤ (w.heap.size + 1); omega) _; refine Below.setCell ?_ (p := ⟨(w.heap.size + 1), 4, none⟩) (by show w.heap.size ≤ (w.heap.size + 1); omega) _; refine Below.setCell ?_ (p := ⟨(w.heap.size + 1), 3, none⟩) (by show w.heap.size ≤ (w.heap.size + 1); omega) _; refine Below.setCell ?_ (p := ⟨(w.heap.size + 1), 2, none⟩) (by show w.heap.size ≤ (w.heap.size + 1); omega) _; refine Below.setCell ?_ (p := ⟨(w.heap.size + 1), 1, none⟩) (by show w.heap.size ≤ (w.heap.size + 1); omega) _; refine Below.setCell ?_ (p := ⟨(w.heap.size + 1), 0, none⟩) (by show w.heap.size ≤ (w.heap.size + 1); omega) _; exact HB.out
end Go.Proofs.YtdpblimhfmfbnaaGreat
