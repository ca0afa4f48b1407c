import Derived.BigGuardPart
import Derived.Deep.QuietTactic
import Derived.BigQuiet
import Derived.Deep.RegionWith
import Derived.Deep.RegionHeld3
import Derived.Deep.DeepCutAuto
import Derived.Deep.DeepFit
import Derived.Outline
import Derived.Test.YtdpblimhfmfbnaaZsg
import Derived.Test.YtdpblimhfmfbnaaZsh
import Derived.Test.YtdpblimhfmfbnaaZsi
import Derived.Test.YtdpblimhfmfbnaaZsl
import Derived.Test.YtdpblimhfmfbnaaZsd
set_option linter.unusedVariables false
set_option linter.unusedSimpArgs false
namespace Go.Proofs.Ytdpblimhfmfbnaa
open Go.ChangeShapes Go.WideShapes Go.ChangeAt Go.RowKit Go.Deep
def gtA (n ln mn im : Nat) : Bool := decide (700 < n ∨ 30 < ln ∨ 60 < mn ∨ 60 < im)
open Classical in
noncomputable def ckE (W H : Int) (n : Nat) (xs : List Int) (bs : List Bd) : Int := if MOk W H n xs bs then 0 else 1
def bd1 : Bd := ⟨1, 1, 0, 0, 2, 1⟩
def bd2 : Bd := ⟨2, 1, 1, 0, 2, 1⟩
def Asks8 (w : World) (v : Value) : Prop := ∃ (W H : Int) (a : Option Addr) (n c : Nat) (xs : List Int) (la : Option Addr) (ln lc : Nat) (bs : List Bd) (ma : Option Addr) (mn mc : Nat) (ms : List Bd) (ia : Option Addr) (im ic : Nat) (js : List Int),
 v = .agg #[.int .i64 W, .int .i64 H, .slice a n c, .slice la ln lc, .slice ma mn mc, .slice ia im ic] ∧ I64' W ∧ I64' H ∧ n ≤ 9223372036854775807 ∧ ln ≤ lc ∧ lc ≤ 9223372036854775807 ∧ By w w.heap.size a n xs ∧ Bq w w.heap.size la ln bs ∧ (∀ k, k < ln → ∀ i, I64' ((bs.getD k default).c i)) ∧
 mn ≤ mc ∧ mc ≤ 9223372036854775807 ∧ Bq w w.heap.size ma mn ms ∧ (∀ k, k < mn → ∀ i, I64' ((ms.getD k default).c i)) ∧ im ≤ 9223372036854775807 ∧ Nq w w.heap.size ia im js
end Go.Proofs.Ytdpblimhfmfbnaa
namespace Go.Proofs.Ytdpblimhfmfbnaa
open Go.ChangeShapes Go.WideShapes Go.ChangeAt Go.RowKit Go.Deep
theorem info_cm : (Try.prog.info? 50).map (fun i => (i.zero, i.size, i.bytes)) = some (some (.agg (jkC 0 0 0 0 none 0 0 0 0 0 0 0)), 10, 96) := by kernel_rfl
theorem info_in : (Try.prog.info? 55).map (fun i => (i.zero, i.size, i.bytes)) = some (some (.agg #[.int .i64 0, .int .i64 0, .slice none 0 0]), 3, 40) := by kernel_rfl
theorem lit_at (X : World) (cs : List Value) (T : TypeId) : ∀ (j : Nat) (u : Value), cs[j]? = some u → (X.alloc (.cells cs.toArray T)).cell? ((⟨X.heap.size, 0, none⟩ : Addr).add j) = some u := by
 intro j u hj
 simp only [Addr.add, Nat.zero_add]
 rw [show (if j = 0 then (⟨X.heap.size, 0, none⟩ : Addr) else ⟨X.heap.size, j, none⟩) = ⟨X.heap.size, j, none⟩ by split <;> simp_all, (Bk.new X cs.toArray T).c j]
 simpa using hj
theorem is_one (i : Iv) : ∀ u ∈ i.cs, u.oneCell' = true := shI.one i
def abC (l : List Cv) : List Cm := l.map Cv.ab
theorem abC_app (l m : List Cv) : abC (l ++ m) = abC l ++ abC m := List.map_append
theorem abC_len (l : List Cv) : (abC l).length = l.length := List.length_map ..
def abI (l : List Iv) : List In := l.map Iv.ab
theorem abI_snoc {l : List Iv} {k : Nat} (h : k < l.length) : abI (l.take (k + 1)) = abI (l.take k) ++ [(l.getD k default).ab] := by
 unfold abI; rw [take_snocI h, List.map_append]; rfl
theorem abI_app (l m : List Iv) : abI (l ++ m) = abI l ++ abI m := List.map_append
theorem abI_len (l : List Iv) : (abI l).length = l.length := List.length_map ..
structure SmC (l : List Cv) : Prop where
 n : l.length ≤ 1048576
 m : ∀ x, x ∈ l → x.m ≤ 1048576
theorem OwC.snoc {w w' : World} {base n : Nat} {v v' : Value} {l : List Cv} {q : Cv} (h : OwC w base v n l) (ho : w'.ownsRow base 50 10 v' (n + 1) (flt shC l ++ q.cs)) (hl : ∀ x, x ∈ l → OwE w' base x.a x.m x.c x.u) (hq : OwE w' base q.a q.m q.c q.u) : OwC w' base v' (n + 1) (l ++ [q]) :=
 ⟨⟨by rw [List.length_append, h.o.len]; rfl, by rw [flt_app, flt_one1]; exact ho⟩, fun x hx => by
  rcases List.mem_append.1 hx with hx | hx
  ·exact hl x hx
  ·have := List.mem_singleton.1 hx
   subst this
   exact hq⟩
end Go.Proofs.Ytdpblimhfmfbnaa
namespace Go.Proofs.Ytdpblimhfmfbnaa
open Go.ChangeShapes Go.WideShapes Go.ChangeAt Go.RowKit Go.Deep
theorem OwC.form {w : World} {base n : Nat} {v : Value} {l : List Cv} (h : OwC w base v n l) : ∃ a c, v = .slice a n c := by
 obtain ⟨a, c, e, _⟩ := h.o.form
 exact ⟨a, c, e⟩
structure SmI (l : List Iv) : Prop where
 n : l.length ≤ 1048576
 m : ∀ x, x ∈ l → SmC x.l
theorem OwN.snoc {w w' : World} {base n : Nat} {v v' : Value} {l : List Iv} {q : Iv} (h : OwN w base v n l) (ho : w'.ownsRow base 55 3 v' (n + 1) (flt shI l ++ q.cs)) (hl : ∀ x, x ∈ l → OwCE w' base x.a x.n x.c x.l) (hq : OwCE w' base q.a q.n q.c q.l) : OwN w' base v' (n + 1) (l ++ [q]) :=
 ⟨⟨by rw [List.length_append, h.o.len]; rfl, by rw [flt_app, flt_one1]; exact ho⟩, fun x hx => by
  rcases List.mem_append.1 hx with hx | hx
  ·exact hl x hx
  ·have := List.mem_singleton.1 hx
   subst this
   exact hq⟩
end Go.Proofs.Ytdpblimhfmfbnaa
namespace Go.Proofs.Ytdpblimhfmfbnaa
open Go.ChangeShapes Go.WideShapes Go.ChangeAt Go.RowKit Go.Deep
end Go.Proofs.Ytdpblimhfmfbnaa
namespace Go.Proofs.Ytdpblimhfmfbnaa
open Go.RowKit Go.Deep
end Go.Proofs.Ytdpblimhfmfbnaa
namespace Go.Proofs.Ytdpblimhfmfbnaa
open Go.ChangeShapes Go.WideShapes Go.ChangeAt Go.RowKit Go.Deep
def shZ : Sh Int := ⟨fun x => [.int .i64 x], 1, fun _ => rfl, fun x u hu => by
 simp at hu
 subst hu
 rfl⟩
theorem flt_Z (l : List Int) : flt shZ l = l.map (Value.int .i64) := by
 induction l with
 | nil => rfl
 | cons a l ih => rw [flt_cons, ih]; rfl
theorem Nq.qv {w : World} {B n : Nat} {a : Option Addr} {l : List Int} (h : Nq w B a n l) : Qv shZ w B a n l := ⟨h.len, fun hn => by
 obtain ⟨b, off, e, hlt, hc⟩ := h.rd hn
 refine ⟨b, off, e, hlt, fun k hk j hj => ?_⟩
 obtain rfl : j = 0 := Nat.lt_one_iff.1 hj
 have := hc k (by rw [← h.len]; exact hk)
 rw [show off + k * shZ.z + 0 = off + k by show off + k * 1 + 0 = off + k; omega, this]
 simp [shZ, List.getD, hk]⟩
theorem Ow.owni {w : World} {base n : Nat} {v : Value} {l : List Int} (h : Ow shZ 3 w base v n l) : OwnI w base v n l := ⟨h.len, by rw [← flt_Z]; exact h.row⟩
theorem flt_set {α : Type} (S : Sh α) {l : List α} {k j : Nat} (h : k < l.length) (hj : j < S.z) {x : α} {u : Value} (e : S.c x = (S.c l[k]).set j u) : flt S (l.set k x) = (flt S l).set (k * S.z + j) u := by
 induction l generalizing k with
 | nil => exact absurd h (by simp)
 | cons a l ih =>
  cases k with
  | zero =>
   rw [List.set_cons_zero, flt_cons, flt_cons, Nat.zero_mul, Nat.zero_add, List.set_append_left _ _ (by rw [S.len]; exact hj), e]; rfl
  | succ k =>
   rw [List.set_cons_succ, flt_cons, flt_cons, ih (by simpa using h) e, show (k + 1) * S.z + j = S.z + (k * S.z + j) by rw [Nat.add_mul]; omega, List.set_append_right _ _ (by rw [S.len]; omega), S.len, Nat.add_sub_cancel_left]
theorem Ow.set {α : Type} {S : Sh α} {T : TypeId} {w : World} {base n c g : Nat} {l : List α} (h : Ow S T w base (.slice (some ⟨g, 0, none⟩) n c) n l) {k j : Nat} (hk : k < l.length) (hj : j < S.z) {x : α} {u : Value} (e : S.c x = (S.c l[k]).set j u) : Ow S T (w.setCell ⟨g, k * S.z + j, none⟩ u) base (.slice (some ⟨g, 0, none⟩) n c) n (l.set k x) :=
 ⟨by rw [List.length_set]; exact h.len, by rw [flt_set S hk hj e]; exact (h.row.stored (k * S.z + j) u).1⟩
set_option maxRecDepth 100000 in
theorem clonez_any (a : Option Addr) (n c B : Nat) (l : List Int) (X : World) (h : Qv shZ X B a n l) (hB : B ≤ X.heap.size) (hn : n ≤ 1048576) :
  Calls Try.prog 52 #[.slice a n c] X fun e z => ∃ v, e = .returned v ∧ Ow shZ 3 z X.heap.size v n l ∧ Below X.heap.size X z := by
 have HH := Hk.mk h
 cases a with
 | none =>
  obtain rfl : n = 0 := by
   rcases Nat.eq_zero_or_pos n with h0 | h0
   ·exact h0
   ·obtain ⟨_, _, e, _⟩ := h.rd h0; cases e
  obtain rfl : l = [] := List.eq_nil_of_length_eq_zero h.len
  clear h HH
  have q : ∀ w : World, (binOp .eql 25 (.slice none 0 c) (.slice none 0 0)).run Try.prog w = .ok (.bool true) w := fun w => Lib.run_eql_slice_nil w _ _ none 0 c 0 0 Try.underlying25
  go_enter Try.func52, Try.ntmps52
  go_wp2
  go_ret
  exact ⟨_, rfl, Ow.nil _ _, Below.refl _ _⟩
 | some ad =>
  obtain ⟨i0, hi, hz0, hz1, hz2⟩ := info_parts info_i
  have q : ∀ w : World, (binOp .eql 25 (.slice (some ad) n c) (.slice none 0 0)).run Try.prog w = .ok (.bool false) w := fun w => Lib.run_eql_slice_nil w _ _ (some ad) n c 0 0 Try.underlying25
  have HN := Hk.mk ((h.below ((Below.refl X.heap.size X).alloc (Nat.le_refl _) (.cells #[] 3)) hB).news (by decide))
  have hlen := h.len
  have HF := Hk.mk (show (flt shZ l).length = n * 1 by rw [flt_len, hlen]; rfl)
  have HL := Hk.mk hlen
  have hown : (X.alloc (.cells #[] 3)).ownsRow X.heap.size 3 1 (.slice (some ⟨X.heap.size, 0, none⟩) 0 0) 0 [] := ⟨rfl, Or.inr ⟨X.heap.size, 0, #[], rfl, Nat.le_refl _, heap_alloc_new X _, Nat.le_refl _, by unfold maxLen; omega, rfl, rfl⟩⟩
  have HOW := Hk.mk hown
  clear h hlen hown
  go_enter Try.func52, Try.ntmps52
  go_wp2_with (at_builtin; go_must (refine wpList_append_own _ rfl _ _ 25 rfl X.heap.size 3 i0 (.int .i64 0) 1 8 Try.underlying25 hi hz0 hz1 hz2 rfl (by decide) _ 0 [] rfl HOW.out ad n c (flt shZ l) rfl HF.out HN.out (flt_one shZ l) (by unfold maxLen; omega) (by omega) ?c5 ?_))
  case c5 => simp
  intro v z hown2 hgrow hnil
  clear hnil
  have HO2 : Hk (Ow shZ 3 z X.heap.size v n l) := ⟨⟨HL.out, hown2⟩⟩
  have HB2 : Hk (Below X.heap.size X z) := ⟨((Below.refl X.heap.size X).alloc (Nat.le_refl _) (.cells #[] 3)).grown hgrow (by simp) (fun g hg => by simp [Value.ownBlock] at hg; omega)⟩
  clear hown2 hgrow HOW
  go_wp2
  go_ret
  exact ⟨_, rfl, HO2.out, HB2.out⟩
set_option maxRecDepth 100000 in
theorem clonec_any (a : Option Addr) (n c B : Nat) (l : List Cv) (X : World) (h : Qv shC X B a n l) (hB : B ≤ X.heap.size) (hn : n ≤ 1048576) :
  Calls Try.prog 68 #[.slice a n c] X fun e z => ∃ v, e = .returned v ∧ Ow shC 50 z X.heap.size v n l ∧ Below X.heap.size X z := by
 have HH := Hk.mk h
 cases a with
 | none =>
  obtain rfl : n = 0 := by
   rcases Nat.eq_zero_or_pos n with h0 | h0
   ·exact h0
   ·obtain ⟨_, _, e, _⟩ := h.rd h0; cases e
  obtain rfl : l = [] := List.eq_nil_of_length_eq_zero h.len
  clear h HH
  have q : ∀ w : World, (binOp .eql 51 (.slice none 0 c) (.slice none 0 0)).run Try.prog w = .ok (.bool true) w := fun w => Lib.run_eql_slice_nil w _ _ none 0 c 0 0 Try.underlying51
  go_enter Try.func68, Try.ntmps68
  go_wp2
  go_ret
  exact ⟨_, rfl, Ow.nil _ _, Below.refl _ _⟩
 | some ad =>
  obtain ⟨i0, hi, hz0, hz1, hz2⟩ := info_parts info_cm
  have q : ∀ w : World, (binOp .eql 51 (.slice (some ad) n c) (.slice none 0 0)).run Try.prog w = .ok (.bool false) w := fun w => Lib.run_eql_slice_nil w _ _ (some ad) n c 0 0 Try.underlying51
  have HN := Hk.mk ((h.below ((Below.refl X.heap.size X).alloc (Nat.le_refl _) (.cells #[] 50)) hB).news (by decide))
  have hlen := h.len
  have HF := Hk.mk (show (flt shC l).length = n * 10 by rw [flt_len, hlen]; rfl)
  have HL := Hk.mk hlen
  have hown : (X.alloc (.cells #[] 50)).ownsRow X.heap.size 50 10 (.slice (some ⟨X.heap.size, 0, none⟩) 0 0) 0 [] := ⟨rfl, Or.inr ⟨X.heap.size, 0, #[], rfl, Nat.le_refl _, heap_alloc_new X _, Nat.le_refl _, by unfold maxLen; omega, rfl, rfl⟩⟩
  have HOW := Hk.mk hown
  clear h hlen hown
  go_enter Try.func68, Try.ntmps68
  go_wp2_with (at_builtin; go_must (refine wpList_append_own _ rfl _ _ 51 rfl X.heap.size 50 i0 (.agg (jkC 0 0 0 0 none 0 0 0 0 0 0 0)) 10 96 Try.underlying51 hi hz0 hz1 hz2 rfl (by decide) _ 0 [] rfl HOW.out ad n c (flt shC l) rfl HF.out HN.out (flt_one shC l) (by unfold maxLen; omega) (by omega) ?c5 ?_))
  case c5 => simp
  intro v z hown2 hgrow hnil
  clear hnil
  have HO2 : Hk (Ow shC 50 z X.heap.size v n l) := ⟨⟨HL.out, hown2⟩⟩
  have HB2 : Hk (Below X.heap.size X z) := ⟨((Below.refl X.heap.size X).alloc (Nat.le_refl _) (.cells #[] 50)).grown hgrow (by simp) (fun g hg => by simp [Value.ownBlock] at hg; omega)⟩
  clear hown2 hgrow HOW
  go_wp2
  go_ret
  exact ⟨_, rfl, HO2.out, HB2.out⟩
set_option maxRecDepth 100000 in
theorem clonei_any (a : Option Addr) (n c B : Nat) (l : List Iv) (X : World) (h : Qv shI X B a n l) (hB : B ≤ X.heap.size) (hn : n ≤ 1048576) :
  Calls Try.prog 58 #[.slice a n c] X fun e z => ∃ v, e = .returned v ∧ Ow shI 55 z X.heap.size v n l ∧ Below X.heap.size X z := by
 have HH := Hk.mk h
 cases a with
 | none =>
  obtain rfl : n = 0 := by
   rcases Nat.eq_zero_or_pos n with h0 | h0
   ·exact h0
   ·obtain ⟨_, _, e, _⟩ := h.rd h0; cases e
  obtain rfl : l = [] := List.eq_nil_of_length_eq_zero h.len
  clear h HH
  have q : ∀ w : World, (binOp .eql 24 (.slice none 0 c) (.slice none 0 0)).run Try.prog w = .ok (.bool true) w := fun w => Lib.run_eql_slice_nil w _ _ none 0 c 0 0 Try.underlying24
  go_enter Try.func58, Try.ntmps58
  go_wp2
  go_ret
  exact ⟨_, rfl, Ow.nil _ _, Below.refl _ _⟩
 | some ad =>
  obtain ⟨i0, hi, hz0, hz1, hz2⟩ := info_parts info_in
  have q : ∀ w : World, (binOp .eql 24 (.slice (some ad) n c) (.slice none 0 0)).run Try.prog w = .ok (.bool false) w := fun w => Lib.run_eql_slice_nil w _ _ (some ad) n c 0 0 Try.underlying24
  have HN := Hk.mk ((h.below ((Below.refl X.heap.size X).alloc (Nat.le_refl _) (.cells #[] 55)) hB).news (by decide))
  have hlen := h.len
  have HF := Hk.mk (show (flt shI l).length = n * 3 by rw [flt_len, hlen]; rfl)
  have HL := Hk.mk hlen
  have hown : (X.alloc (.cells #[] 55)).ownsRow X.heap.size 55 3 (.slice (some ⟨X.heap.size, 0, none⟩) 0 0) 0 [] := ⟨rfl, Or.inr ⟨X.heap.size, 0, #[], rfl, Nat.le_refl _, heap_alloc_new X _, Nat.le_refl _, by unfold maxLen; omega, rfl, rfl⟩⟩
  have HOW := Hk.mk hown
  clear h hlen hown
  go_enter Try.func58, Try.ntmps58
  go_wp2_with (at_builtin; go_must (refine wpList_append_own _ rfl _ _ 24 rfl X.heap.size 55 i0 (.agg #[.int .i64 0, .int .i64 0, .slice none 0 0]) 3 40 Try.underlying24 hi hz0 hz1 hz2 rfl (by decide) _ 0 [] rfl HOW.out ad n c (flt shI l) rfl HF.out HN.out (flt_one shI l) (by unfold maxLen; omega) (by omega) ?c5 ?_))
  case c5 => simp
  intro v z hown2 hgrow hnil
  clear hnil
  have HO2 : Hk (Ow shI 55 z X.heap.size v n l) := ⟨⟨HL.out, hown2⟩⟩
  have HB2 : Hk (Below X.heap.size X z) := ⟨((Below.refl X.heap.size X).alloc (Nat.le_refl _) (.cells #[] 55)).grown hgrow (by simp) (fun g hg => by simp [Value.ownBlock] at hg; omega)⟩
  clear hown2 hgrow HOW
  go_wp2
  go_ret
  exact ⟨_, rfl, HO2.out, HB2.out⟩
end Go.Proofs.Ytdpblimhfmfbnaa
