import Derived.Deep.QuietTactic
import Derived.BigQuiet
import Derived.Deep.RegionWith
import Derived.Deep.RegionHeld3
import Derived.Deep.DeepCutAuto
import Derived.Deep.DeepFit
import Derived.Outline
import Derived.Test.YtdpblimhfmfbnaaZsac
set_option linter.unusedVariables false
set_option linter.unusedSimpArgs false
namespace Go.Proofs.Ytdpblimhfmfbnaa
open Go.ChangeShapes Go.WideShapes Go.ChangeAt Go.RowKit Go.Deep
structure Pm where
 i : Int
 n : Int
 d : Int
 t : Int
 s : Int
 m : List In
 l : List In
 h : List Int
 a : List Int
 x : List Int
 b : Bool
structure Pv where
 i : Int
 n : Int
 d : Int
 t : Int
 s : Int
 ma : Option Addr
 mn : Nat
 mc : Nat
 ml : List Iv
 la : Option Addr
 ln : Nat
 lc : Nat
 ll : List Iv
 ha : Option Addr
 hn : Nat
 hc : Nat
 hl : List Int
 aa : Option Addr
 an : Nat
 ac : Nat
 al : List Int
 xa : Option Addr
 xn : Nat
 xc : Nat
 xl : List Int
 b : Bool
abbrev jjZ : Array Value := #[.int .i64 0, .int .i64 0, .int .i64 0, .int .i64 0, .int .i64 0, .slice none 0 0, .slice none 0 0, .slice none 0 0, .slice none 0 0, .slice none 0 0, .bool false]
abbrev jjP (p : Pv) : Array Value := #[.int .i64 p.i, .int .i64 p.n, .int .i64 p.d, .int .i64 p.t, .int .i64 p.s, .slice p.ma p.mn p.mc, .slice p.la p.ln p.lc, .slice p.ha p.hn p.hc, .slice p.aa p.an p.ac, .slice p.xa p.xn p.xc, .bool p.b]
def Pv.ab (p : Pv) : Pm := ⟨p.i, p.n, p.d, p.t, p.s, abI p.ml, abI p.ll, p.hl, p.al, p.xl, p.b⟩
def Pv.cs (p : Pv) : List Value := [.int .i64 p.i, .int .i64 p.n, .int .i64 p.d, .int .i64 p.t, .int .i64 p.s, .slice p.ma p.mn p.mc, .slice p.la p.ln p.lc, .slice p.ha p.hn p.hc, .slice p.aa p.an p.ac, .slice p.xa p.xn p.xc, .bool p.b]
def shU : Sh Int := ⟨fun x => [.int .u64 x], 1, fun _ => rfl, fun x u hu => by
 simp at hu
 subst hu
 rfl⟩
structure PvD (w : World) (B : Nat) (p : Pv) : Prop where
 m : InD w B p.ma p.mn p.ml
 l : InD w B p.la p.ln p.ll
 h : Nq w B p.ha p.hn p.hl
 a : Nq w B p.aa p.an p.al
 x : Qv shU w B p.xa p.xn p.xl
theorem PvD.below {w w' : World} {B B' : Nat} {p : Pv} (h : PvD w B p) (hb : Below B' w w') (hB : B ≤ B') : PvD w' B p := ⟨h.m.below hb hB, h.l.below hb hB, h.h.below hb hB, h.a.below hb hB, h.x.below hb hB⟩
theorem PvD.mono {w : World} {B B' : Nat} {p : Pv} (h : PvD w B p) (hB : B ≤ B') : PvD w B' p := ⟨h.m.mono hB, h.l.mono hB, h.h.mono hB, h.a.mono hB, h.x.mono hB⟩
theorem PvD.later {w w' : World} {p : Pv} (h : PvD w w.heap.size p) (hb : Below w.heap.size w w') : PvD w' w'.heap.size p := (h.below hb (Nat.le_refl _)).mono hb.size
theorem PvD.drewN {w : World} {B : Nat} {p : Pv} (h : PvD w B p) (k : Nat) : PvD (w.drewN k) B p := ⟨h.m.drewN k, h.l.drewN k, h.h.drewN k, h.a.drewN k, h.x.drewN k⟩
structure PvS (p : Pv) : Prop where
 m : SmI p.ml
 l : SmI p.ll
 h : p.hn ≤ 1048576
 a : p.an ≤ 1048576
 x : p.xn ≤ 1048576
structure CntP (p : Pm) : Prop where
 n1 : 1 ≤ p.n
 n2 : p.n ≤ 8
 i1 : 1 ≤ p.i
 i2 : p.i ≤ p.n
 d1 : 1 ≤ p.d
 d2 : p.d ≤ 8
 t1 : 0 ≤ p.t
 t2 : p.t ≤ 1099511627776
 s1 : p.d - 1 ≤ p.s
 s2 : p.s ≤ p.t + p.d - 1
 s3 : p.s ≤ 1099511627776
structure KnP (p : Pm) : Prop where
 h1 : (p.h.length : Int) = p.n
 a1 : (p.a.length : Int) = p.n
 h2 : p.h.getD (p.i.toNat - 1) 0 = p.s
 a2 : p.a.getD (p.i.toNat - 1) 0 = p.s
 all : ∀ k, k < p.h.length → max p.d p.t - 1 ≤ p.h.getD k 0 ∧ p.h.getD k 0 ≤ p.t + 16 ∧ p.h.getD k 0 ≤ 1099511627776 ∧ p.d - 1 ≤ p.a.getD k 0 ∧ p.a.getD k 0 ≤ p.s
structure WtP (p : Pm) : Prop where
 o : ordN none p.l = true
 all : ∀ x, x ∈ p.l → p.t ≤ x.t ∧ x.p ≤ p.n ∧ x.t ≤ p.h.getD (x.p.toNat - 1) 0
def minL : List Int → Int
 | [] => 0
 | [x] => x
 | x :: y :: l => min x (minL (y :: l))
structure KpP (p : Pm) : Prop where
 n : (p.m.length : Int) = p.s - minL p.a
 all : ∀ (k : Nat) x, p.m[k]? = some x → okN x = true ∧ x.p = p.i ∧ x.t = minL p.a + 1 + k
structure OkP (p : Pm) : Prop where
 c : CntP p
 k : KnP p
 w : WtP p
 e : KpP p
 x1 : p.x.length ≤ 16
 x2 : (p.x.length : Int) ≤ p.t
theorem r_no {P : Prop} {r : Bool} (E : P ↔ r = true) (h : ¬ P) : r = false := by
 cases r
 ·rfl
 ·exact absurd (E.2 rfl) h
theorem no_as {P : Prop} {r : Bool} (E : P ↔ r = true) (h : ¬ P) : Ending.returned (.bool false) = .returned (.bool r) := by rw [r_no E h]
theorem yes_as {P : Prop} {r : Bool} (E : P ↔ r = true) (h : P) : Ending.returned (.bool true) = .returned (.bool r) := by rw [E.1 h]
theorem dec_as {P Q : Prop} [Decidable Q] {r : Bool} (E : P ↔ r = true) (h : Q ↔ P) : Ending.returned (.bool (decide Q)) = .returned (.bool r) := by
 congr 2
 cases r
 ·exact decide_eq_false fun q => by cases E.1 (h.1 q)
 ·exact decide_eq_true (h.2 (E.2 rfl))
theorem bool_as {P : Prop} {b r : Bool} (E : P ↔ r = true) (h : b = true ↔ P) : Ending.returned (.bool b) = .returned (.bool r) := by
 congr 2
 cases b <;> cases r <;> simp_all
theorem cnt_iff (p : Pv) : CntP p.ab ↔ (1 ≤ p.n ∧ p.n ≤ 8 ∧ 1 ≤ p.i ∧ p.i ≤ p.n ∧ 1 ≤ p.d ∧ p.d ≤ 8 ∧ 0 ≤ p.t ∧ p.t ≤ 1099511627776 ∧ p.d - 1 ≤ p.s ∧ p.s ≤ p.t + p.d - 1 ∧ p.s ≤ 1099511627776) :=
 ⟨fun h => ⟨h.n1, h.n2, h.i1, h.i2, h.d1, h.d2, h.t1, h.t2, h.s1, h.s2, h.s3⟩, fun ⟨a1, a2, a3, a4, a5, a6, a7, a8, a9, a10, a11⟩ => ⟨a1, a2, a3, a4, a5, a6, a7, a8, a9, a10, a11⟩⟩
end Go.Proofs.Ytdpblimhfmfbnaa
namespace Go.Proofs.Ytdpblimhfmfbnaa
open Go.ChangeShapes Go.WideShapes Go.ChangeAt Go.RowKit Go.Deep
theorem flt_U (l : List Int) : flt shU l = l.map (Value.int .u64) := by
 induction l with
 | nil => rfl
 | cons a l ih => rw [flt_cons, ih]; rfl
theorem info_u : (Try.prog.info? 56).map (fun i => (i.zero, i.size, i.bytes)) = some (some (.int .u64 0), 1, 8) := by kernel_rfl
theorem Qv.atu {w : World} {B n : Nat} {a : Option Addr} {xs : List Int} (h : Qv shU w B a n xs) (hn : 0 < n) : ∃ b off, a = some ⟨b, off, none⟩ ∧ b < B ∧ ∀ k, k < n → w.cell? ⟨b, off + k, none⟩ = some (.int .u64 (xs.getD k 0)) := by
 obtain ⟨b, off, e, hb, hc⟩ := h.rd hn
 refine ⟨b, off, e, hb, fun k hk => ?_⟩
 have hk' : k < xs.length := by rw [h.len]; exact hk
 have := hc k hk' 0 (by decide)
 rw [show off + k * shU.z + 0 = off + k by show off + k * 1 + 0 = off + k; omega] at this
 rw [this]
 simp [shU, List.getD, hk']
set_option maxRecDepth 100000 in
theorem cloneu_any (a : Option Addr) (n c B : Nat) (l : List Int) (X : World) (h : Qv shU X B a n l) (hB : B ≤ X.heap.size) (hn : n ≤ 1048576) :
  Calls Try.prog 53 #[.slice a n c] X fun e z => ∃ v, e = .returned v ∧ Ow shU 56 z X.heap.size v n l ∧ Below X.heap.size X z := by
 have HH := Hk.mk h
 cases a with
 | none =>
  obtain rfl : n = 0 := by
   rcases Nat.eq_zero_or_pos n with h0 | h0
   ·exact h0
   ·obtain ⟨_, _, e, _⟩ := h.rd h0; cases e
  obtain rfl : l = [] := List.eq_nil_of_length_eq_zero h.len
  clear h HH
  have q : ∀ w : World, (binOp .eql 26 (.slice none 0 c) (.slice none 0 0)).run Try.prog w = .ok (.bool true) w := fun w => Lib.run_eql_slice_nil w _ _ none 0 c 0 0 Try.underlying26
  go_enter Try.func53, Try.ntmps53
  go_wp2
  go_ret
  exact ⟨_, rfl, Ow.nil _ _, Below.refl _ _⟩
 | some ad =>
  obtain ⟨i0, hi, hz0, hz1, hz2⟩ := info_parts info_u
  have q : ∀ w : World, (binOp .eql 26 (.slice (some ad) n c) (.slice none 0 0)).run Try.prog w = .ok (.bool false) w := fun w => Lib.run_eql_slice_nil w _ _ (some ad) n c 0 0 Try.underlying26
  have HN := Hk.mk ((h.below ((Below.refl X.heap.size X).alloc (Nat.le_refl _) (.cells #[] 56)) hB).news (by decide))
  have hlen := h.len
  have HF := Hk.mk (show (flt shU l).length = n * 1 by rw [flt_len, hlen]; rfl)
  have HL := Hk.mk hlen
  have hown : (X.alloc (.cells #[] 56)).ownsRow X.heap.size 56 1 (.slice (some ⟨X.heap.size, 0, none⟩) 0 0) 0 [] := ⟨rfl, Or.inr ⟨X.heap.size, 0, #[], rfl, Nat.le_refl _, heap_alloc_new X _, Nat.le_refl _, by unfold maxLen; omega, rfl, rfl⟩⟩
  have HOW := Hk.mk hown
  clear h hlen hown
  go_enter Try.func53, Try.ntmps53
  go_wp2_with (at_builtin; go_must (refine wpList_append_own _ rfl _ _ 26 rfl X.heap.size 56 i0 (.int .u64 0) 1 8 Try.underlying26 hi hz0 hz1 hz2 rfl (by decide) _ 0 [] rfl HOW.out ad n c (flt shU l) rfl HF.out HN.out (flt_one shU l) (by unfold maxLen; omega) (by omega) ?c5 ?_))
  case c5 => simp
  intro v z hown2 hgrow hnil
  clear hnil
  have HO2 : Hk (Ow shU 56 z X.heap.size v n l) := ⟨⟨HL.out, hown2⟩⟩
  have HB2 : Hk (Below X.heap.size X z) := ⟨((Below.refl X.heap.size X).alloc (Nat.le_refl _) (.cells #[] 56)).grown hgrow (by simp) (fun g hg => by simp [Value.ownBlock] at hg; omega)⟩
  clear hown2 hgrow HOW
  go_wp2
  go_ret
  exact ⟨_, rfl, HO2.out, HB2.out⟩
end Go.Proofs.Ytdpblimhfmfbnaa
namespace Go.Proofs.Ytdpblimhfmfbnaa
open Go.ChangeShapes Go.WideShapes Go.ChangeAt Go.RowKit Go.Deep
structure PvO (w : World) (B : Nat) (p : Pv) : Prop where
 m : OwN w B (.slice p.ma p.mn p.mc) p.mn p.ml
 l : OwN w B (.slice p.la p.ln p.lc) p.ln p.ll
 h : OwnI w B (.slice p.ha p.hn p.hc) p.hn p.hl
 a : OwnI w B (.slice p.aa p.an p.ac) p.an p.al
 x : Ow shU 56 w B (.slice p.xa p.xn p.xc) p.xn p.xl
theorem OwnI.nq2 {w : World} {B n c : Nat} {a : Option Addr} {u : List Int} (h : OwnI w B (.slice a n c) n u) : Nq w w.heap.size a n u := by
 obtain ⟨a', c', e, _, hq⟩ := h.nq
 injection e with e1 e2 e3
 subst e1
 exact hq
theorem PvO.d {w : World} {B : Nat} {p : Pv} (h : PvO w B p) : PvD w w.heap.size p := ⟨h.m.d, h.l.d, h.h.nq2, h.a.nq2, h.x.qv⟩
theorem PvO.below {w z : World} {B : Nat} {p : Pv} (h : PvO w B p) (hb : Below w.heap.size w z) : PvO z B p := ⟨h.m.below hb, h.l.below hb, h.h.below hb, h.a.below hb, h.x.below hb⟩
theorem PvO.weak {w : World} {B B' : Nat} {p : Pv} (h : PvO w B p) (hb : B' ≤ B) : PvO w B' p := ⟨h.m.weak hb, h.l.weak hb, h.h.weak hb, h.a.weak hb, h.x.weak hb⟩
theorem OwN.up {M : Nat → Prop} {w w' : World} {base n : Nat} {v : Value} {l : List Iv} (h : OwN w base v n l) (k : Fr M w w') (hm : ∀ j, base ≤ j → ¬ M j) : OwN w' base v n l := ⟨h.o.fr k fun j hj => hm j (h.o.lt j hj).1, fun x hx => (h.u x hx).up k hm⟩
def CpP (w : World) (p : Pv) (e : Ending) (z : World) : Prop := ∃ q : Pv, e = .returned (.agg (jjP q)) ∧ PvO z w.heap.size q ∧ q.ab = p.ab ∧ q.mn = p.mn ∧ q.ln = p.ln ∧ q.hn = p.hn ∧ q.an = p.an ∧ q.xn = p.xn ∧ Below w.heap.size w z
end Go.Proofs.Ytdpblimhfmfbnaa
