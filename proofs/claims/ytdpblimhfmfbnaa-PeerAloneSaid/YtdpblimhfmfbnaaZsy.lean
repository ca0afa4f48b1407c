import Derived.Shelf.SlSortCmp.WholeK
import Derived.Test.YtdpblimhfmfbnaaProg
import Derived.Shelf.SlSortCmp.NoneTotal
import Derived.Deep.QuietTactic
import Derived.BigQuiet
import Derived.Deep.RegionWith
import Derived.Deep.RegionHeld3
import Derived.Deep.DeepCutAuto
import Derived.Deep.DeepFit
import Derived.Outline
import Derived.Test.YtdpblimhfmfbnaaZsx
import Derived.Laws.AppendOwnNone
import Derived.Maps.AppendAt
import Derived.Test.YtdpblimhfmfbnaaZsa
import Derived.ArgAppend
set_option linter.unusedVariables false
set_option linter.unusedSimpArgs false
namespace Go.Proofs.Ytdpblimhfmfbnaa
open Go.Shelf
def sortI_ren : Go.Shelf.Ren := ⟨fun | 6 => 59 | 15 => 70 | 14 => 69 | 28 => 84 | 29 => 85 | 20 => 76 | 21 => 77 | 22 => 78 | 23 => 79 | 24 => 80 | 25 => 81 | 26 => 82 | 27 => 83 | 46 => 88 | 47 => 89 | 48 => 90 | 49 => 91 | 50 => 92 | 57 => 93 | n => n, fun | 22 => 24 | 24 => 55 | 25 => 97 | 3 => 3 | 39 => 66 | 0 => 0 | 53 => 104 | 55 => 56 | 4 => 4 | 46 => 122 | 45 => 121 | 50 => 95 | 5 => 5 | 9 => 9 | 66 => 131 | 70 => 135 | 76 => 137 | 77 => 138 | n => n, fun | n => n⟩
theorem sortI : Go.Proofs.SlLaysF0.n6 Try.prog sortI_ren := {
 mixed := by kernel_rfl
 f6 := ⟨Try.f59.name, by decide, Try.func59.trans (congrArg some (by kernel_rfl))⟩
 f14 := ⟨Try.f69.name, by decide, Try.func69.trans (congrArg some (by kernel_rfl))⟩
 f15 := Try.func70.trans (congrArg some (by kernel_rfl))
 f20 := ⟨Try.f76.name, by decide, Try.func76.trans (congrArg some (by kernel_rfl))⟩
 f21 := ⟨Try.f77.name, by decide, Try.func77.trans (congrArg some (by kernel_rfl))⟩
 f22 := ⟨Try.f78.name, by decide, Try.func78.trans (congrArg some (by kernel_rfl))⟩
 f23 := ⟨Try.f79.name, by decide, Try.func79.trans (congrArg some (by kernel_rfl))⟩
 f24 := ⟨Try.f80.name, by decide, Try.func80.trans (congrArg some (by kernel_rfl))⟩
 f25 := ⟨Try.f81.name, by decide, Try.func81.trans (congrArg some (by kernel_rfl))⟩
 f26 := ⟨Try.f82.name, by decide, Try.func82.trans (congrArg some (by kernel_rfl))⟩
 f27 := ⟨Try.f83.name, by decide, Try.func83.trans (congrArg some (by kernel_rfl))⟩
 f28 := Try.func84.trans (congrArg some (by kernel_rfl))
 f29 := Try.func85.trans (congrArg some (by kernel_rfl))
 f46 := ⟨Try.f88.name, by decide, Try.func88.trans (congrArg some (by kernel_rfl))⟩
 f47 := Try.func89.trans (congrArg some (by kernel_rfl))
 f48 := Try.func90.trans (congrArg some (by kernel_rfl))
 f49 := ⟨Try.f91.name, by decide, Try.func91.trans (congrArg some (by kernel_rfl))⟩
 f50 := ⟨Try.f92.name, by decide, Try.func92.trans (congrArg some (by kernel_rfl))⟩
 f57 := ⟨Try.f93.name, by decide, Try.func93.trans (congrArg some (by kernel_rfl))⟩
 t0 := Try.underlying0
 a0 := Try.isAgg0
 z0 := Try.sizeOf0
 v0 := Try.zeroValue0
 t3 := Try.underlying3
 a3 := Try.isAgg3
 z3 := Try.sizeOf3
 v3 := Try.zeroValue3
 t4 := Try.underlying4
 a4 := Try.isAgg4
 z4 := Try.sizeOf4
 v4 := Try.zeroValue4
 t5 := Try.underlying5
 a5 := Try.isAgg5
 z5 := Try.sizeOf5
 v5 := Try.zeroValue5
 t9 := Try.underlying9
 a9 := Try.isAgg9
 z9 := Try.sizeOf9
 v9 := Try.zeroValue9
 t22 := Try.underlying24
 a22 := Try.isAgg24
 z22 := Try.sizeOf24
 v22 := Try.zeroValue24
 t25 := Try.underlying97
 a25 := Try.isAgg97
 z25 := Try.sizeOf97
 v25 := Try.zeroValue97
 t39 := Try.underlying66
 a39 := Try.isAgg66
 z39 := Try.sizeOf66
 v39 := Try.zeroValue66
 t45 := Try.underlying121
 a45 := Try.isAgg121
 z45 := Try.sizeOf121
 v45 := Try.zeroValue121
 t46 := Try.underlying122
 a46 := Try.isAgg122
 z46 := Try.sizeOf122
 v46 := Try.zeroValue122
 t50 := Try.underlying95
 a50 := Try.isAgg95
 z50 := Try.sizeOf95
 v50 := Try.zeroValue95
 t53 := Try.underlying104
 a53 := Try.isAgg104
 z53 := Try.sizeOf104
 v53 := Try.zeroValue104
 t55 := Try.underlying56
 a55 := Try.isAgg56
 z55 := Try.sizeOf56
 v55 := Try.zeroValue56
 t66 := Try.underlying131
 a66 := Try.isAgg131
 z66 := Try.sizeOf131
 v66 := Try.zeroValue131
 t70 := Try.underlying135
 a70 := Try.isAgg135
 z70 := Try.sizeOf135
 v70 := Try.zeroValue135
 t76 := Try.underlying137
 a76 := Try.isAgg137
 z76 := Try.sizeOf137
 v76 := Try.zeroValue137
 t77 := Try.underlying138
 a77 := Try.isAgg138
 z77 := Try.sizeOf138
 v77 := Try.zeroValue138 }
end Go.Proofs.Ytdpblimhfmfbnaa
namespace Go.Proofs.Ytdpblimhfmfbnaa
open Go.ChangeShapes Go.WideShapes Go.ChangeAt Go.RowKit Go.Deep
section
variable {α : Type} [Inhabited α] {S : Sh α} {T : TypeId}
theorem flatS_at (hz : 0 < S.z) (L : List α) (j : Nat) (hj : j < L.length * S.z) : (flt S L)[j]? = some ((Go.Sort.flatK S.c S.z L.toArray)[j]!) := by
 rw [Go.Sort.get_flatK _ _ _ _ (by simpa using hj)]
 have hk : j / S.z < L.length := Nat.div_lt_of_lt_mul (by rw [Nat.mul_comm]; exact hj)
 have hm : j % S.z < S.z := Nat.mod_lt _ hz
 have e0 : j / S.z * S.z + j % S.z = j := by rw [Nat.mul_comm]; exact Nat.div_add_mod j S.z
 have hg : L.toArray[j / S.z]! = L[j / S.z] := by simp [hk]
 have h2 := flt_at S L (j / S.z) (j % S.z) hk hm
 rw [e0] at h2
 rw [hg, h2]
 have hl : j % S.z < (S.c L[j / S.z]).length := by rw [S.len]; exact hm
 rw [List.getElem?_eq_getElem hl]
 simp [hl]
theorem holdsS {w : World} {base g cap : Nat} {L : List α} (hz : 0 < S.z) (h : Ow S T w base (.slice (some ⟨g, 0, none⟩) L.length cap) L.length L) : Go.Sort.HoldsK S.c S.z w g 0 L.toArray := by
 intro j hj
 have hj' : j < L.length * S.z := by simpa using hj
 have e := h.row.cellAt j hj'
 rw [flatS_at hz L j hj'] at e
 refine ⟨by rw [Nat.zero_add]; exact e, ?_⟩
 rw [Nat.zero_add]
 exact h.row.frozenAt j
theorem sortedS {w : World} {base g cap n : Nat} {os : Array Obj} {L L' : List α} (hz : 0 < S.z) (h : Ow S T w base (.slice (some ⟨g, 0, none⟩) L.length cap) L.length L) (hl : L'.length = L.length) :
  Ow S T (Go.Proofs.sortWorldK S.c S.z w g 0 n L'.toArray os) base (.slice (some ⟨g, 0, none⟩) L.length cap) L.length L' ∧ w.grownBy (Go.Proofs.sortWorldK S.c S.z w g 0 n L'.toArray os) (some g) := by
 unfold Go.Proofs.sortWorldK Go.Sort.putRowK
 generalize hF : Go.Sort.flatK S.c S.z L'.toArray = F
 have hFs : F.size = L.length * S.z := by rw [← hF]; simp [hl]
 have hFg : ∀ j, j < L.length * S.z → (flt S L')[j]? = some F[j]! := fun j hj => by rw [← hF]; exact flatS_at hz L' j (by rw [hl]; exact hj)
 have hfl : (flt S L').length = L.length * S.z := by rw [flt_len, hl]
 constructor
 ·refine ⟨hl, ?_⟩
  rcases h.row.2 with ⟨e, _⟩ | ⟨g', cap', cur, e, hg, hh, hc, hm, hs, ht⟩
  ·cases e
  ·injection e with e1 e2 e3
   injection e1 with e1
   injection e1 with e1
   subst e1 e3
   have hgl : g < w.heap.size := (Array.getElem?_eq_some_iff.1 hh).1
   refine ⟨hfl, Or.inr ⟨g, cap, Go.Sort.putCells id 0 F cur, rfl, hg, ?_, hc, hm, by simp [Go.Sort.putCells, hs], ?_⟩⟩
   ·rw [Go.Sort.heap_grow_old _ _ (by simpa using hgl)]
    simp [Go.Sort.putRow, Go.Sort.mapBlock, Go.Sort.ahead, Array.getElem?_modify, hh, Go.Sort.onCells]
   ·apply List.ext_getElem?
    intro j
    have hcz := Nat.mul_le_mul_right S.z hc
    by_cases hj : j < L.length * S.z
    ·rw [List.getElem?_take_of_lt hj, Array.getElem?_toList, hFg j hj]
     have hjc : j < cur.size := by rw [hs]; omega
     simp [Go.Sort.putCells, hFs, hj, hjc]
    ·rw [List.getElem?_take_eq_none (by omega), List.getElem?_eq_none (by rw [hfl]; omega)]
 ·refine ⟨rfl, rfl, rfl, by simp, fun k hk hne => ?_⟩
  rw [Go.Sort.heap_grow_old _ _ (by simpa using hk)]
  have : g ≠ k := fun e => hne (by rw [e])
  simp [Go.Sort.putRow, Go.Sort.mapBlock, Go.Sort.ahead, Array.getElem?_modify, this]
end
theorem sortI_none (p : Option Addr) (cap : Nat) (fv : Value) (w : World) : Calls Try.prog 59 #[.slice p 0 cap, fv] w fun e w' => e = .returned (.tuple #[]) ∧ w' = w := Go.Proofs.AnyF.slices_SortFunc_none sortI p cap fv w
theorem sortI_any (base g cap : Nat) (L : List Iv) (w : World) (h : Ow shI 55 w base (.slice (some ⟨g, 0, none⟩) L.length cap) L.length L) (hlen : L.length < 4611686018427387904) :
  Calls Try.prog 59 #[.slice (some ⟨g, 0, none⟩) L.length cap, .func (.func 49) #[] #[]] w fun e w' => e = .returned (.tuple #[]) ∧ ∃ L' : List Iv, L'.Perm L ∧ L'.Pairwise (fun x y => ¬ ltI y x) ∧ Ow shI 55 w' base (.slice (some ⟨g, 0, none⟩) L.length cap) L.length L' ∧ w.grownBy w' (some g) := by
 have eg : ∀ args w, (callFunc 49 args).run Try.prog w = .ok (.enter 49 args) w := enters_of Try.func49 (by kernel_rfl) rfl
 have hgl : g < w.heap.size := (h.lt g rfl).2
 have hcmp : Go.Proofs.CmpLays Try.prog 49 #[] shI.c shI.z cfI g 0 L.toArray.size w := fun m os dk _ x y => compI_any x y _
 have hcon := Go.Proofs.AnyQ.slices_SortFunc sortI 3 Try.isAgg55 Try.sizeOf55 shI.c shI.len (fun x v hv => is_one x v hv) cfI swoI 49 #[] g 0 cap L.toArray w eg hcmp (holdsS (by decide) h) hgl (by simpa using hlen)
 change Calls Try.prog 59 _ _ _ at hcon
 simp only [List.size_toArray] at hcon
 refine hcon.mono ?_
 rintro e w' ⟨he, d', n, os, hp, hs, rfl⟩
 obtain ⟨hps, _, hpp⟩ := hp
 simp only [List.size_toArray] at hps
 have hsl : d'.toList.length = L.length := by simpa using hps
 have hd : d' = d'.toList.toArray := by simp
 obtain ⟨r1, r2⟩ := sortedS (S := shI) (n := n) (os := os) (by decide) h hsl
 refine ⟨he, d'.toList, ?_, ?_, by have q := r1; rw [← hd] at q; exact q, by have q := r2; rw [← hd] at q; exact q⟩
 ·have e1 : d'.extract 0 L.length = d' := by rw [← hps]; simp
  have e2 : L.toArray.extract 0 L.length = L.toArray := by simp
  rw [e1, e2] at hpp
  simpa using hpp
 ·rw [List.pairwise_iff_getElem]
  intro i j hi hj hij
  have := hs i j (Nat.zero_le _) hij (by simpa [hps] using hj)
  rw [ltI_no] at this
  have hi' : i < d'.size := by simpa using hi
  have hj' : j < d'.size := by simpa using hj
  simpa [hi', hj'] using this
end Go.Proofs.Ytdpblimhfmfbnaa
namespace Go.Proofs.Ytdpblimhfmfbnaa
open Go.RowKit
theorem ltB_trans {a b c : In} (h : ltB a b = true) (k : ltB b c = true) : ltB a c = true := by
 unfold ltB at *
 rw [decide_eq_true_iff] at *
 omega
theorem ltB_irr (a : In) : ltB a a = false := by
 unfold ltB
 rw [decide_eq_false_iff_not]
 omega
theorem ltB_asymm {a b : In} (h : ltB a b = true) : ltB b a = false := by
 cases e : ltB b a
 ·rfl
 ·have := ltB_trans h e; rw [ltB_irr] at this; cases this
theorem ltB_t {a b : In} (h : ltB a b = true) : a.t ≤ b.t := by
 unfold ltB at h
 rw [decide_eq_true_iff] at h
 omega
def sortedN (s : List In) : Prop := s.Pairwise fun a b => ltB a b = true
def cmpN (a b : In) : Prop := ltB a b = true ∨ ltB b a = true
theorem cmpN_symm {a b : In} (h : cmpN a b) : cmpN b a := h.symm
theorem sorted_eq : ∀ {a b : List In}, sortedN a → sortedN b → a.Perm b → a = b
 | [], b, _, _, hp => (List.Perm.nil_eq hp)
 | x :: a, [], _, _, hp => absurd hp.length_eq (by simp)
 | x :: a, y :: b, ha, hb, hp => by
  have hx := List.mem_cons.1 (hp.mem_iff.1 (List.mem_cons_self (a := x) (l := a)))
  have hy := List.mem_cons.1 (hp.mem_iff.2 (List.mem_cons_self (a := y) (l := b)))
  have e : x = y := by
   rcases hx with h | h
   ·exact h
   ·rcases hy with k | k
    ·exact k.symm
    ·have h1 := (List.pairwise_cons.1 hb).1 x h
     have h2 := (List.pairwise_cons.1 ha).1 y k
     rw [ltB_asymm h1] at h2
     cases h2
  subst e
  rw [sorted_eq (List.pairwise_cons.1 ha).2 (List.pairwise_cons.1 hb).2 hp.cons_inv]
def putN (x : In) : List In → Option (List In)
 | [] => some [x]
 | a :: l => if ltB a x = true then (putN x l).map (a :: ·) else if ltB x a = true then some (x :: a :: l) else none
theorem put_some {x : In} : ∀ {l m : List In}, sortedN l → putN x l = some m → sortedN m ∧ m.Perm (x :: l)
 | [], m, _, h => by
  injection h with h
  subst h
  exact ⟨List.pairwise_singleton _ _, List.Perm.refl _⟩
 | a :: l, m, hs, h => by
  unfold putN at h
  obtain ⟨h1, h2⟩ := List.pairwise_cons.1 hs
  by_cases c : ltB a x = true
  ·rw [if_pos c] at h
   cases hp : putN x l with
   | none => rw [hp] at h; cases h
   | some m' =>
    rw [hp] at h
    injection h with h
    subst h
    obtain ⟨k1, k2⟩ := put_some h2 hp
    refine ⟨List.pairwise_cons.2 ⟨fun y hy => ?_, k1⟩, (k2.cons a).trans (List.Perm.swap _ _ _)⟩
    rcases List.mem_cons.1 (k2.mem_iff.1 hy) with e | e
    ·rw [e]; exact c
    ·exact h1 y e
  ·rw [if_neg c] at h
   by_cases d : ltB x a = true
   ·rw [if_pos d] at h
    injection h with h
    subst h
    refine ⟨List.pairwise_cons.2 ⟨fun y hy => ?_, hs⟩, List.Perm.refl _⟩
    rcases List.mem_cons.1 hy with e | e
    ·rw [e]; exact d
    ·exact ltB_trans d (h1 y e)
   ·rw [if_neg d] at h; cases h
theorem put_total {x : In} : ∀ {l : List In}, (∀ a, a ∈ l → cmpN a x) → ∃ m, putN x l = some m
 | [], _ => ⟨_, rfl⟩
 | a :: l, h => by
  unfold putN
  by_cases c : ltB a x = true
  ·rw [if_pos c]
   obtain ⟨m, hm⟩ := put_total (x := x) (l := l) fun b hb => h b (List.mem_cons_of_mem _ hb)
   exact ⟨_, by rw [hm]; rfl⟩
  ·rw [if_neg c]
   rcases h a List.mem_cons_self with k | k
   ·exact absurd k c
   ·exact ⟨_, by rw [if_pos k]⟩
def mrgN (t : Int) : List In → List In → Option (List In)
 | s, [] => some s
 | s, x :: l => if okN x = true ∧ x.t = t then (putN x s).bind fun m => mrgN t m l else none
def mergeN (l : List In) : Option (List In) := match l with
 | [] => some []
 | x :: l => mrgN x.t [] (x :: l)
theorem mrg_some {t : Int} : ∀ {l s m : List In}, sortedN s → mrgN t s l = some m → sortedN m ∧ m.Perm (l ++ s) ∧ ∀ x, x ∈ l → okN x = true ∧ x.t = t
 | [], s, m, hs, h => by
  injection h with h
  subst h
  exact ⟨hs, List.Perm.refl _, fun x hx => by cases hx⟩
 | x :: l, s, m, hs, h => by
  unfold mrgN at h
  by_cases c : okN x = true ∧ x.t = t
  ·rw [if_pos c] at h
   cases hp : putN x s with
   | none => rw [hp] at h; cases h
   | some s' =>
    rw [hp] at h
    obtain ⟨k1, k2⟩ := put_some hs hp
    obtain ⟨a1, a2, a3⟩ := mrg_some (t := t) k1 h
    refine ⟨a1, a2.trans ((k2.append_left l).trans List.perm_middle), fun y hy => ?_⟩
    rcases List.mem_cons.1 hy with e | e
    ·rw [e]; exact c
    ·exact a3 y e
  ·rw [if_neg c] at h; cases h
theorem mrg_of {t : Int} : ∀ {l s m : List In}, sortedN s → sortedN m → m.Perm (l ++ s) → (∀ x, x ∈ l → okN x = true ∧ x.t = t) → mrgN t s l = some m
 | [], s, m, hs, hm, hp, _ => by
  rw [sorted_eq hm hs hp]; rfl
 | x :: l, s, m, hs, hm, hp, ha => by
  have hc : (x :: l ++ s).Pairwise cmpN := (hp.pairwise_iff (R := cmpN) (fun {a b} h => cmpN_symm h)).1 (hm.imp fun h => Or.inl h)
  have hx := (List.pairwise_cons.1 hc).1
  obtain ⟨s', hs'⟩ := put_total (x := x) (l := s) fun a h => cmpN_symm (hx a (List.mem_append_right _ h))
  obtain ⟨k1, k2⟩ := put_some hs hs'
  unfold mrgN
  rw [if_pos (ha x List.mem_cons_self), hs']
  exact mrg_of k1 hm (hp.trans (List.perm_middle.symm.trans (k2.symm.append_left l))) fun y hy => ha y (List.mem_cons_of_mem _ hy)
theorem merge_some {l m : List In} (h : mergeN l = some m) : sortedN m ∧ m.Perm l ∧ ∃ t, ∀ x, x ∈ l → okN x = true ∧ x.t = t := by
 cases l with
 | nil =>
  injection h with h
  subst h
  exact ⟨List.Pairwise.nil, List.Perm.refl _, 0, fun x hx => by cases hx⟩
 | cons a l =>
  obtain ⟨a1, a2, a3⟩ := mrg_some (l := a :: l) List.Pairwise.nil h
  exact ⟨a1, by simpa using a2, a.t, a3⟩
theorem merge_of {l m : List In} {t : Int} (hm : sortedN m) (hp : m.Perm l) (ha : ∀ x, x ∈ l → okN x = true ∧ x.t = t) : mergeN l = some m := by
 cases l with
 | nil => rw [hp.eq_nil]; rfl
 | cons a l =>
  obtain rfl := (ha a List.mem_cons_self).2
  exact mrg_of List.Pairwise.nil hm (by simpa using hp) ha
theorem ordN_sorted : ∀ {l : List In} {o : Option In}, ordN o l = true → (∀ x, x ∈ l → okN x = true) ∧ sortedN l ∧ ∀ a, o = some a → ∀ x, x ∈ l → ltB a x = true
 | [], o, _ => ⟨fun x hx => (by cases hx), List.Pairwise.nil, fun a _ x hx => (by cases hx)⟩
 | y :: l, o, h => by
  have h' : okN y = true ∧ (∀ a, o = some a → ltB a y = true) ∧ ordN (some y) l = true := by
   cases o with
   | none =>
    simp only [ordN, Bool.and_eq_true] at h
    exact ⟨h.1, fun a e => (by cases e), h.2⟩
   | some b =>
    simp only [ordN, Bool.and_eq_true] at h
    exact ⟨h.1.1, fun a e => (by injection e with e; subst e; exact h.1.2), h.2⟩
  obtain ⟨h1, h2, h3⟩ := h'
  obtain ⟨k1, k2, k3⟩ := ordN_sorted h3
  refine ⟨fun x hx => ?_, List.pairwise_cons.2 ⟨k3 y rfl, k2⟩, fun a e x hx => ?_⟩
  ·rcases List.mem_cons.1 hx with e | e
   ·rw [e]; exact h1
   ·exact k1 x e
  ·rcases List.mem_cons.1 hx with e' | e'
   ·rw [e']; exact h2 a e
   ·exact ltB_trans (h2 a e) (k3 y rfl x e')
theorem ordN_of : ∀ {l : List In} {o : Option In}, (∀ x, x ∈ l → okN x = true) → sortedN l → (∀ a, o = some a → ∀ x, x ∈ l → ltB a x = true) → ordN o l = true
 | [], o, _, _, _ => by cases o <;> rfl
 | y :: l, o, h1, h2, h3 => by
  have k := ordN_of (l := l) (o := some y) (fun x hx => h1 x (List.mem_cons_of_mem _ hx)) (List.pairwise_cons.1 h2).2 (fun a e => by injection e with e; subst e; exact (List.pairwise_cons.1 h2).1)
  cases o with
  | none => simp only [ordN, Bool.and_eq_true]; exact ⟨h1 y List.mem_cons_self, k⟩
  | some a => simp only [ordN, Bool.and_eq_true]; exact ⟨⟨h1 y List.mem_cons_self, h3 a rfl y List.mem_cons_self⟩, k⟩
def sameT (l : List In) : Prop := ∀ x y, l.head? = some x → l.getLast? = some y → x.t = y.t
theorem merge_prog {l L : List In} (hp : L.Perm l) (ho : ordN none L = true) (ht : sameT L) : mergeN l = some L := by
 obtain ⟨h1, h2, _⟩ := ordN_sorted ho
 cases L with
 | nil => rw [(hp.symm).eq_nil]; rfl
 | cons a L =>
  refine merge_of (t := a.t) h2 hp fun x hx => ⟨h1 x (hp.mem_iff.2 hx), ?_⟩
  have hx' := hp.mem_iff.2 hx
  have hl := ht a ((a :: L).getLast (by simp)) rfl (List.getLast?_eq_some_getLast _)
  have e1 : a.t ≤ x.t := by
   rcases List.mem_cons.1 hx' with e | e
   ·rw [e]; exact Int.le_refl _
   ·exact ltB_t ((List.pairwise_cons.1 h2).1 x e)
  have e2 : x.t ≤ ((a :: L).getLast (by simp)).t := by
   obtain ⟨i, hi, e⟩ := List.mem_iff_getElem.1 hx'
   have hlast : (a :: L).getLast (by simp) = (a :: L)[(a :: L).length - 1] := List.getLast_eq_getElem _
   rw [hlast]
   by_cases c : i = (a :: L).length - 1
   ·subst c; rw [e]; exact Int.le_refl _
   ·have := List.pairwise_iff_getElem.1 h2 i ((a :: L).length - 1) hi (by simp) (by omega)
    rw [e] at this
    exact ltB_t this
  omega
theorem merge_no {l L : List In} (hp : L.Perm l) (hs : L.Pairwise fun x y => ltB y x = false) (h : ordN none L = false ∨ ¬ sameT L) : mergeN l = none := by
 cases e : mergeN l with
 | none => rfl
 | some m =>
  exfalso
  obtain ⟨a1, a2, t, a3⟩ := merge_some e
  have hc : L.Pairwise cmpN := ((a2.trans hp.symm).pairwise_iff (R := cmpN) (fun {a b} h => cmpN_symm h)).1 (a1.imp fun h => Or.inl h)
  have hL : sortedN L := (hc.and hs).imp fun {a b} h => by
   rcases h.1 with k | k
   ·exact k
   ·rw [h.2] at k; cases k
  rcases h with h | h
  ·rw [ordN_of (fun x hx => (a3 x (hp.mem_iff.1 hx)).1) hL (fun a e => by cases e)] at h
   cases h
  ·refine h fun x y hx hy => ?_
   have h1 := (a3 x (hp.mem_iff.1 (List.mem_of_head? hx))).2
   have h2 := (a3 y (hp.mem_iff.1 (List.mem_of_getLast? hy))).2
   rw [h1, h2]
end Go.Proofs.Ytdpblimhfmfbnaa
namespace Go.Proofs.Ytdpblimhfmfbnaa
open List renaming getElem_toArray → jjA, getElem_cons_succ → jjB, getElem_cons_zero → jjC, setIfInBounds_toArray → jjD, set_cons_zero → jjE, set_cons_succ → jjF
open Go.ChangeShapes Go.WideShapes Go.ChangeAt Go.RowKit Go.Deep
theorem sortI_all (base n c : Nat) (a : Option Addr) (L : List Iv) (w : World) (h : Ow shI 55 w base (.slice a n c) n L) (hb : base ≤ w.heap.size) (hlen : n ≤ 1048576) :
  Calls Try.prog 59 #[.slice a n c, .func (.func 49) #[] #[]] w fun e w' => e = .returned (.tuple #[]) ∧ ∃ L' : List Iv, L'.Perm L ∧ L'.Pairwise (fun x y => ¬ ltI y x) ∧ Ow shI 55 w' base (.slice a n c) n L' ∧ Below base w w' := by
 have hl := h.len
 by_cases h0 : n = 0
 ·subst h0
  obtain rfl : L = [] := List.eq_nil_of_length_eq_zero hl
  refine (sortI_none a c _ w).mono ?_
  rintro e z ⟨rfl, hz⟩
  rw [hz]
  exact ⟨rfl, [], List.Perm.refl _, List.Pairwise.nil, h, Below.refl _ _⟩
 ·obtain ⟨a', c', e, hf⟩ := h.form
  injection e with e1 e2 e3
  subst e1 e3
  obtain ⟨g, rfl, hg1, hg2⟩ := hf (by omega)
  subst hl
  refine (sortI_any base g c L w h (by omega)).mono ?_
  rintro e z ⟨rfl, L', h1, h2, h3, h4⟩
  exact ⟨rfl, L', h1, h2, h3, (Below.refl base w).grown h4 hb (fun j hj => by injection hj with hj; omega)⟩
theorem abI_perm {L l : List Iv} (h : L.Perm l) : (abI L).Perm (abI l) := h.map _
theorem abI_pair {L : List Iv} (h : L.Pairwise (fun x y => ¬ ltI y x)) : (abI L).Pairwise fun x y => ltB y x = false := by
 unfold abI
 rw [List.pairwise_map]
 refine h.imp fun {x y} k => ?_
 cases e : ltB y.ab x.ab
 ·rfl
 ·exact absurd ((ltB_iff y x).1 e) k
theorem sameT_iff {L : List Iv} {n : Nat} (hl : L.length = n) (h0 : 0 < n) : sameT (abI L) ↔ (L.getD 0 default).t = (L.getD (n - 1) default).t := by
 have e1 : (abI L).head? = some (L.getD 0 default).ab := by
  unfold abI
  rw [List.head?_eq_getElem?]
  simp [List.getD, show 0 < L.length by omega]
 have e2 : (abI L).getLast? = some (L.getD (n - 1) default).ab := by
  unfold abI
  rw [List.getLast?_eq_getElem?, List.length_map, hl]
  simp [List.getD, show n - 1 < L.length by omega]
 unfold sameT
 rw [e1, e2]
 constructor
 ·intro h; exact h _ _ rfl rfl
 ·intro h x y hx hy
  injection hx with hx
  injection hy with hy
  subst hx hy
  exact h
theorem append_row27 {P : Program} {w : World} {ops : Array Oper} {rest : List Oper} {o : Oper} {a : Act} {Q : Exit → Act → World → Prop} (hgd : o.guard = none) (s x : Operand) (t : TypeId)
  (ho : o.op = .call { callee := .builtin .append, args := #[s, x], argTypes := #[t, t] })
  (base : Nat) (e : TypeId) (i : TypeInfo) (z : Value) (size bytes : Nat) (ht : P.underlying t = some (.slice e)) (hi : P.info? e = some i) (hz : i.zero = some z)
  (hsize : i.size = size) (hby : i.bytes = bytes) (hzs : z.cells.size = size) (hsz : 0 < size)
  (v : Value) (n : Nat) (xs : List Value) (hs : a.eval s = v) (hown : w.ownsRow base e size v n xs)
  (vx : Value) (m : Nat) (news : List Value) (hx : a.eval x = vx) (base' : Nat) (hrow : w.ownsRow base' e size vx m news) (h1 : ∀ u ∈ news, u.oneCell' = true)
  (h63 : n + m ≤ maxLen) (hbytes : (n + m) * bytes ≤ 140737488355328) (hbase : base ≤ w.heap.size)
  (h : ∀ v' w', w'.ownsRow base e size v' (n + m) (xs ++ news) → w.grownBy w' v.ownBlock → wpList P ops Q rest (a.put o.dst v') w') :
  wpList P ops Q (o :: rest) a w := by
 rcases hrow.2 with ⟨e1, e2⟩ | ⟨g, cap, cur, e1, hg, hh, hc, hm, hs2, ht2⟩
 ·subst e1 e2
  have hnil : news = [] := by have := hrow.1; simpa using this
  subst hnil
  exact wpList_append_own_none hgd s x t ho base e i size ht hi v n xs hs hown hx (h v w (by simpa using hown) ⟨rfl, rfl, rfl, Nat.le_refl _, fun _ _ _ => rfl⟩)
 ·subst e1
  refine wpList_append_own_at w hgd s x t ho base e i z size bytes ht hi hz hsize hby hzs hsz v n xs hs hown ⟨g, 0, none⟩ m cap news hx hrow.1 (fun j u hu => ?_) h1 h63 hbytes hbase (fun v' w' h2 h3 _ _ => h v' w' h2 h3)
  have hj : j < m * size := by rw [← hrow.1]; exact (List.getElem?_eq_some_iff.1 hu).1
  have := hrow.cellAt j hj
  rw [aq_plus, Nat.zero_add, this, hu]
def flatN (s : List In) : List Cm := s.flatMap In.l
theorem flatN_app (s t : List In) : flatN (s ++ t) = flatN s ++ flatN t := List.flatMap_append
def MergeR (res : Option (List In)) (w : World) (e : Ending) (w' : World) : Prop := Below w.heap.size w w' ∧ match res with
 | none => e = .returned (.tuple #[.slice none 0 0, .int .i64 1])
 | some s => ∃ v M, e = .returned (.tuple #[v, .int .i64 0]) ∧ OwC w' w.heap.size v M.length M ∧ abC M = flatN s
set_option maxRecDepth 100000 in
set_option maxHeartbeats 3200000 in
theorem merge27_as (res : Option (List In)) (a : Option Addr) (n c : Nat) (l : List Iv) (w : World) (h : InD w w.heap.size a n l) (hs : SmI l) (E : Hk (mergeN (abI l) = res)) :
  Calls Try.prog 36 #[.slice a n c] w (MergeR res w) := by
 obtain ⟨i0, hi, hz0, hz1, hz2⟩ := info_parts info_cm
 have HH := Hk.mk h
 have hlen := h.q.len
 have HL := Hk.mk hlen
 have HS := Hk.mk hs
 have hn : n ≤ 1048576 := by have := hs.n; omega
 clear h hs hlen
 go_enter Try.func36, Try.ntmps36
 go_upto_region 3 with (first
  | (go_at_call 58; (with_reducible refine (clonei_any a n c w.heap.size l _ HH.out.q (Nat.le_refl _) hn).mono ?_); rintro e z ⟨v, rfl, ho, hb⟩; obtain ⟨a1, c1, rfl, hg⟩ := ho.form; have HO := Hk.mk ho; have HB := Hk.mk hb; clear ho hb hg)
  | (go_at_call 59; (with_reducible refine (sortI_all w.heap.size n c1 a1 l _ HO.out HB.out.size hn).mono ?_); rintro e V ⟨rfl, L, hp, hsr, ho, hb⟩; have HP := Hk.mk hp; have HSR := Hk.mk hsr; have HOV := Hk.mk ho; have HBV := Hk.mk (HB.out.trans hb); clear hp hsr ho hb))
 have HID : Hk (InD V V.heap.size a1 n L) := ⟨⟨HOV.out.qv, fun x hx => ((HH.out.u x (HP.out.mem_iff.1 hx)).below HBV.out (Nat.le_refl _)).mono HBV.out.size⟩⟩
 have HSL : Hk (SmI L) := ⟨⟨by rw [HP.out.length_eq]; exact HS.out.n, fun x hx => HS.out.m x (HP.out.mem_iff.1 hx)⟩⟩
 have HPA := Hk.mk (abI_perm HP.out)
 have HPP := Hk.mk (abI_pair HSR.out)
 have hll : L.length = n := HOV.out.len
 have HV : Hk (Below V.heap.size V V) := ⟨Below.refl _ _⟩
 clear HO HB HSR
 obtain ⟨r0, hr⟩ : ∃ r0, ordN none (abI L) = r0 := ⟨_, rfl⟩
 obtain ⟨bt, hbt⟩ : ∃ bt, decide ((L.getD 0 default).t = (L.getD (n - 1) default).t) = bt := ⟨_, rfl⟩
 obtain ⟨rr, hrr⟩ : ∃ rr, (!r0 || (decide (0 < n) && !bt)) = rr := ⟨_, rfl⟩
 have EO := Hk.mk hr
 have HST : Hk (0 < n → (sameT (abI L) ↔ bt = true)) := ⟨fun h0 => by rw [sameT_iff hll h0, ← hbt, decide_eq_true_iff]⟩
 have HS0 : Hk (n = 0 → sameT (abI L)) := ⟨fun h0 => by
  obtain rfl : L = [] := List.eq_nil_of_length_eq_zero (by omega)
  intro x y hx _
  cases hx⟩
 have HNO : Hk (rr = true → res = none) := ⟨fun h => by
  rw [← E.out]
  refine merge_no HPA.out HPP.out ?_
  rw [← hrr] at h
  cases r0
  ·exact Or.inl hr
  ·refine Or.inr fun hs => ?_
   have h0 : 0 < n := by
    apply Classical.byContradiction
    intro h0
    rw [decide_eq_false h0] at h
    cases h
   rw [decide_eq_true h0, (HST.out h0).1 hs] at h
   cases h⟩
 have HYES : Hk (rr = false → res = some (abI L) ∧ r0 = true) := ⟨fun h => by
  rw [← hrr] at h
  cases r0
  ·cases h
  ·refine ⟨?_, rfl⟩
   rw [← E.out]
   refine merge_prog HPA.out hr ?_
   by_cases h0 : 0 < n
   ·rw [decide_eq_true h0] at h
    cases bt
    ·cases h
    ·exact (HST.out h0).2 rfl
   ·exact HS0.out (by omega)⟩
 have HRR := Hk.mk hrr
 have HBT := Hk.mk hbt
 clear hr hbt hrr HST HS0 E
 go_cut [33] (fun x wx => x = .bool rr ∧ Hk (Below V.heap.size V wx))
 case first =>
  cases r0
  ·obtain rfl : rr = true := by rw [← HRR.out]; rfl
   as_aux_lemma =>
    refine wp_region_held_drew (S := (fun X => (∀ b o, b < V.heap.size → X.cell? ⟨b, o, none⟩ = V.cell? ⟨b, o, none⟩) ∧ Below V.heap.size V X)) (by kernel_rfl) ?_ (fun hHeld => ?_)
    ·exact kw_S (kw_drew HV.out)
    have HI : Ix [0] := trivial
    (refine tkA HI (v := ?_) rfl (by kernel_rfl) (fun _ _ _ h => h) (.inl ⟨by rfl, fun wX hSw => ?_⟩) hHeld (fun HJ => ?_); rotate_left; (focus ((try dsimp only at hSw); go_simp; try with_reducible rfl)); clear HI; have HI := HJ; clear HJ; try simp only [Act.put, jjA, jjB, jjC, jjD, jjE, jjF])
    clear HI
    refine wpAnyH_ready (rs := [1]) (by kernel_rfl) (by simp) ?_
    refine AllReadyH.cons rfl (fun K hK => ?_) (AllReadyH.nil)
    go_simp
    ((go_at_call 46; (with_reducible refine (ordered_as false _ n c1 L _ (by first | exact (HID.out.below HV.out (Nat.le_refl _)).mono HV.out.size | exact (HID.out.below HV.out.drew (Nat.le_refl _)).mono HV.out.drew.size) HSL.out EO).mono ?_); rintro e z ⟨rfl, hb⟩; have hB2 : Hk (Below V.heap.size V z) := ⟨by first | exact kw_step HV.out (Nat.le_refl _) hb | exact kw_step HV.out.drew (Nat.le_refl _) hb⟩; clear hb; replace HV := hB2; clear hB2))
    refine hK.out _ _ ?_ (fun hHeld => ?_)
    ·exact kw_S HV.out
    clear hK K
    (try simp only [Act.put, jjA, jjB, jjC, jjD, jjE, jjF])
    have HI : Ix [2, 3] := trivial
    iterate 2 (refine tkA HI (v := ?_) rfl (by kernel_rfl) (fun _ _ _ h => h) (.inl ⟨by rfl, fun wX hSw => ?_⟩) hHeld (fun HJ => ?_); rotate_left; (focus ((try dsimp only at hSw); go_simp; try with_reducible rfl)); clear HI; have HI := HJ; clear HJ; try simp only [Act.put, jjA, jjB, jjC, jjD, jjE, jjF])
    clear HI
    have HI : Ix [4, 5, 6, 7, 8, 9, 10, 11, 12, 13, 14, 15, 16, 17, 18, 19, 20] := trivial
    iterate 17 (refine tkA HI (v := undef) rfl (by kernel_rfl) (fun _ _ _ h => h) (.inr ⟨by rfl, rfl⟩) hHeld (fun HJ => ?_); clear HI; have HI := HJ; clear HJ; try simp only [Act.put, jjA, jjB, jjC, jjD, jjE, jjF])
    clear HI
    have HI : Ix [21] := trivial
    (refine tkA HI (v := ?_) rfl (by kernel_rfl) (fun _ _ _ h => h) (.inl ⟨by rfl, fun wX hSw => ?_⟩) hHeld (fun HJ => ?_); rotate_left; (focus ((try dsimp only at hSw); go_simp; try with_reducible rfl)); clear HI; have HI := HJ; clear HJ; try simp only [Act.put, jjA, jjB, jjC, jjD, jjE, jjF])
    clear HI
    refine wpAnyH_done (by kernel_rfl) ?_ _
    go_wp2
    go_meet
    case rel => exact ⟨rfl, HV⟩
  ·by_cases h0 : 0 < n
   ·have hkd : decide ((0 : Int) < (n : Int)) = true := by rw [decide_eq_true_iff]; omega
    obtain ⟨b, off, rfl, hbl, ⟨p0, p1, p2⟩, -⟩ := HID.out.three h0
    obtain ⟨b', off', eb, _, ⟨z0, z1, z2⟩, -⟩ := HID.out.three (show n - 1 < n by omega)
    injection eb with eb
    injection eb with eb1 eb2
    subst eb1 eb2
    obtain ⟨j, hj⟩ : ∃ j, n - 1 = j := ⟨_, rfl⟩
    have hbt := HBT.out
    rw [hj] at z0 hbt
    rw [Nat.zero_mul, Nat.add_zero] at p0
    obtain ⟨tA, htA⟩ : ∃ t, (L.getD 0 default).t = t := ⟨_, rfl⟩
    obtain ⟨tB, htB⟩ : ∃ t, (L.getD j default).t = t := ⟨_, rfl⟩
    rw [htA] at p0 hbt
    rw [htB] at z0 hbt
    have gj : IntKind.i64.wrap ((n : Int) - 1) = (j : Int) := by rw [show (n : Int) - 1 = (j : Int) by omega]; exact wr27 (by omega) (by omega)
    have j0 : (0 : Int) ≤ (j : Int) := by omega
    have j1 : (j : Int) < (n : Int) := by omega
    have n0 : (0 : Int) < (n : Int) := by omega
    clear htA htB hj p1 p2 z1 z2
    cases bt
    ·obtain rfl : rr = true := by rw [← HRR.out, decide_eq_true h0]; rfl
     have hne : (tA != tB) = true := by have := of_decide_eq_false hbt; simp [this]
     clear hbt
     as_aux_lemma =>
      refine wp_region_held_drew (S := (fun X => (∀ b o, b < V.heap.size → X.cell? ⟨b, o, none⟩ = V.cell? ⟨b, o, none⟩) ∧ Below V.heap.size V X)) (by kernel_rfl) ?_ (fun hHeld => ?_)
      ·exact kw_S (kw_drew HV.out)
      have HI : Ix [0] := trivial
      (refine tkA HI (v := ?_) rfl (by kernel_rfl) (fun _ _ _ h => h) (.inl ⟨by rfl, fun wX hSw => ?_⟩) hHeld (fun HJ => ?_); rotate_left; (focus ((try dsimp only at hSw); go_simp; try with_reducible rfl)); clear HI; have HI := HJ; clear HJ; try simp only [Act.put, jjA, jjB, jjC, jjD, jjE, jjF])
      clear HI
      refine wpAnyH_ready (rs := [1]) (by kernel_rfl) (by simp) ?_
      refine AllReadyH.cons rfl (fun K hK => ?_) (AllReadyH.nil)
      go_simp
      ((go_at_call 46; (with_reducible refine (ordered_as true _ n c1 L _ (by first | exact (HID.out.below HV.out (Nat.le_refl _)).mono HV.out.size | exact (HID.out.below HV.out.drew (Nat.le_refl _)).mono HV.out.drew.size) HSL.out EO).mono ?_); rintro e z ⟨rfl, hb⟩; have hB2 : Hk (Below V.heap.size V z) := ⟨by first | exact kw_step HV.out (Nat.le_refl _) hb | exact kw_step HV.out.drew (Nat.le_refl _) hb⟩; clear hb; replace HV := hB2; clear hB2))
      refine hK.out _ _ ?_ (fun hHeld => ?_)
      ·exact kw_S HV.out
      clear hK K
      (try simp only [Act.put, jjA, jjB, jjC, jjD, jjE, jjF])
      have HI : Ix [2, 3, 4, 5, 6, 7, 8, 9, 10, 11, 12, 13, 14, 15, 16, 17, 18, 19, 20, 21] := trivial
      iterate 20 (refine tkA HI (v := ?_) rfl (by kernel_rfl) (fun _ _ _ h => h) (.inl ⟨by rfl, fun wX hSw => ?_⟩) hHeld (fun HJ => ?_); rotate_left; (focus ((try dsimp only at hSw); go_simp; try with_reducible rfl)); clear HI; have HI := HJ; clear HJ; try simp only [Act.put, jjA, jjB, jjC, jjD, jjE, jjF])
      clear HI
      refine wpAnyH_done (by kernel_rfl) ?_ _
      go_wp2
      go_meet
      case rel => exact ⟨rfl, HV⟩
    ·obtain rfl : rr = false := by rw [← HRR.out, decide_eq_true h0]; rfl
     have hne : (tA != tB) = false := by have := of_decide_eq_true hbt; simp [this]
     clear hbt
     as_aux_lemma =>
      refine wp_region_held_drew (S := (fun X => (∀ b o, b < V.heap.size → X.cell? ⟨b, o, none⟩ = V.cell? ⟨b, o, none⟩) ∧ Below V.heap.size V X)) (by kernel_rfl) ?_ (fun hHeld => ?_)
      ·exact kw_S (kw_drew HV.out)
      have HI : Ix [0] := trivial
      (refine tkA HI (v := ?_) rfl (by kernel_rfl) (fun _ _ _ h => h) (.inl ⟨by rfl, fun wX hSw => ?_⟩) hHeld (fun HJ => ?_); rotate_left; (focus ((try dsimp only at hSw); go_simp; try with_reducible rfl)); clear HI; have HI := HJ; clear HJ; try simp only [Act.put, jjA, jjB, jjC, jjD, jjE, jjF])
      clear HI
      refine wpAnyH_ready (rs := [1]) (by kernel_rfl) (by simp) ?_
      refine AllReadyH.cons rfl (fun K hK => ?_) (AllReadyH.nil)
      go_simp
      ((go_at_call 46; (with_reducible refine (ordered_as true _ n c1 L _ (by first | exact (HID.out.below HV.out (Nat.le_refl _)).mono HV.out.size | exact (HID.out.below HV.out.drew (Nat.le_refl _)).mono HV.out.drew.size) HSL.out EO).mono ?_); rintro e z ⟨rfl, hb⟩; have hB2 : Hk (Below V.heap.size V z) := ⟨by first | exact kw_step HV.out (Nat.le_refl _) hb | exact kw_step HV.out.drew (Nat.le_refl _) hb⟩; clear hb; replace HV := hB2; clear hB2))
      refine hK.out _ _ ?_ (fun hHeld => ?_)
      ·exact kw_S HV.out
      clear hK K
      (try simp only [Act.put, jjA, jjB, jjC, jjD, jjE, jjF])
      have HI : Ix [2, 3, 4, 5, 6, 7, 8, 9, 10, 11, 12, 13, 14, 15, 16, 17, 18, 19, 20, 21] := trivial
      iterate 20 (refine tkA HI (v := ?_) rfl (by kernel_rfl) (fun _ _ _ h => h) (.inl ⟨by rfl, fun wX hSw => ?_⟩) hHeld (fun HJ => ?_); rotate_left; (focus ((try dsimp only at hSw); go_simp; try with_reducible rfl)); clear HI; have HI := HJ; clear HJ; try simp only [Act.put, jjA, jjB, jjC, jjD, jjE, jjF])
      clear HI
      refine wpAnyH_done (by kernel_rfl) ?_ _
      go_wp2
      go_meet
      case rel => exact ⟨rfl, HV⟩
   ·obtain rfl : rr = false := by rw [← HRR.out, decide_eq_false h0]; rfl
    have hkd : decide ((0 : Int) < (n : Int)) = false := by rw [decide_eq_false_iff_not]; omega
    have hkn : ¬ 0 < n := h0
    clear h0
    as_aux_lemma =>
     refine wp_region_held_drew (S := (fun X => (∀ b o, b < V.heap.size → X.cell? ⟨b, o, none⟩ = V.cell? ⟨b, o, none⟩) ∧ Below V.heap.size V X)) (by kernel_rfl) ?_ (fun hHeld => ?_)
     ·exact kw_S (kw_drew HV.out)
     have HI : Ix [0] := trivial
     (refine tkA HI (v := ?_) rfl (by kernel_rfl) (fun _ _ _ h => h) (.inl ⟨by rfl, fun wX hSw => ?_⟩) hHeld (fun HJ => ?_); rotate_left; (focus ((try dsimp only at hSw); go_simp; try with_reducible rfl)); clear HI; have HI := HJ; clear HJ; try simp only [Act.put, jjA, jjB, jjC, jjD, jjE, jjF])
     clear HI
     refine wpAnyH_ready (rs := [1]) (by kernel_rfl) (by simp) ?_
     refine AllReadyH.cons rfl (fun K hK => ?_) (AllReadyH.nil)
     go_simp
     ((go_at_call 46; (with_reducible refine (ordered_as true _ n c1 L _ (by first | exact (HID.out.below HV.out (Nat.le_refl _)).mono HV.out.size | exact (HID.out.below HV.out.drew (Nat.le_refl _)).mono HV.out.drew.size) HSL.out EO).mono ?_); rintro e z ⟨rfl, hb⟩; have hB2 : Hk (Below V.heap.size V z) := ⟨by first | exact kw_step HV.out (Nat.le_refl _) hb | exact kw_step HV.out.drew (Nat.le_refl _) hb⟩; clear hb; replace HV := hB2; clear hB2))
     refine hK.out _ _ ?_ (fun hHeld => ?_)
     ·exact kw_S HV.out
     clear hK K
     (try simp only [Act.put, jjA, jjB, jjC, jjD, jjE, jjF])
     have HI : Ix [2, 3, 4, 5, 6, 7] := trivial
     iterate 6 (refine tkA HI (v := ?_) rfl (by kernel_rfl) (fun _ _ _ h => h) (.inl ⟨by rfl, fun wX hSw => ?_⟩) hHeld (fun HJ => ?_); rotate_left; (focus ((try dsimp only at hSw); go_simp; try with_reducible rfl)); clear HI; have HI := HJ; clear HJ; try simp only [Act.put, jjA, jjB, jjC, jjD, jjE, jjF])
     clear HI
     have HI : Ix [8, 9, 10, 11, 12, 13, 14, 15, 16, 17, 18, 19] := trivial
     iterate 12 (refine tkA HI (v := undef) rfl (by kernel_rfl) (fun _ _ _ h => h) (.inr ⟨by rfl, rfl⟩) hHeld (fun HJ => ?_); clear HI; have HI := HJ; clear HJ; try simp only [Act.put, jjA, jjB, jjC, jjD, jjE, jjF])
     clear HI
     have HI : Ix [20, 21] := trivial
     iterate 2 (refine tkA HI (v := ?_) rfl (by kernel_rfl) (fun _ _ _ h => h) (.inl ⟨by rfl, fun wX hSw => ?_⟩) hHeld (fun HJ => ?_); rotate_left; (focus ((try dsimp only at hSw); go_simp; try with_reducible rfl)); clear HI; have HI := HJ; clear HJ; try simp only [Act.put, jjA, jjB, jjC, jjD, jjE, jjF])
     clear HI
     refine wpAnyH_done (by kernel_rfl) ?_ _
     go_wp2
     go_meet
     case rel => exact ⟨rfl, HV⟩
 case rest =>
 obtain ⟨rfl, HV⟩ := hcut
 clear HRR HBT
 cases rr
 ·obtain ⟨hre, hr0⟩ := HYES.out rfl
  subst hre
  have HOK := (ordN_sorted (EO.out.trans hr0)).1
  have HOKA := Hk.mk HOK
  clear HYES HNO hr0 EO HOK HPA HPP
  go_wp2
  go_loopw [5, 36] (fun mm i wr => ∃ (k : Nat) (M : List Cv) (sa : Option Addr) (sc : Nat), mm = .slice sa M.length sc ∧ i = .int .i64 k ∧ k ≤ n ∧ Hk (OwC wr V.heap.size (.slice sa M.length sc) M.length M ∧ abC M = flatN (abI (L.take k)) ∧ M.length ≤ 64 * k) ∧ Hk (Below w.heap.size w wr) ∧ Hk (Below V.heap.size V wr)) (fun _ i _ => n - (intOf i).toNat)
  case atStart => exact ⟨0, [], none, 0, rfl, rfl, Nat.zero_le _, ⟨OwC.nil _ _, rfl, Nat.le_refl _⟩, ⟨HBV.out.trans (HV.out.mono HBV.out.size)⟩, HV⟩
  case round =>
   clear HV
   obtain ⟨k, M, sa, sc, rfl, rfl, hk, HM, HB, HV⟩ := hrel
   by_cases hlt : k < n
   ·obtain ⟨b, off, ea, hbl, ⟨p0, p1, p2⟩, hd⟩ := (HID.out.below HV.out (Nat.le_refl _)).three hlt
    have hkl : k < L.length := by rw [hll]; exact hlt
    have HSQ := Hk.mk (HSL.out.m _ (getD_memI hkl))
    have hok := HOKA.out (L.getD k default).ab (List.mem_map.2 ⟨_, getD_memI hkl, rfl⟩)
    have HSN : Hk (abI (L.take (k + 1)) = abI (L.take k) ++ [(L.getD k default).ab]) := ⟨abI_snoc hkl⟩
    obtain ⟨q, hqq⟩ : ∃ q, L.getD k default = q := ⟨_, rfl⟩
    rw [hqq] at p0 p1 p2 hd HSQ hok HSN
    have hq64 : q.n ≤ 64 := by
     unfold okN at hok
     simp only [Bool.and_eq_true, decide_eq_true_eq] at hok
     have := hok.1.2.2.2.2
     rw [show q.ab.l = abC q.l from rfl, abC_len] at this
     rw [← hd.q.len]; exact this
    have HD : Hk (CmD (wr.alloc (.cells #[.int .i64 q.t, .int .i64 q.p, .slice q.a q.n q.c] 55)) (wr.alloc (.cells #[.int .i64 q.t, .int .i64 q.p, .slice q.a q.n q.c] 55)).heap.size q.a q.n q.l) := ⟨((hd.mono HV.out.size).below ((Below.refl _ _).alloc (Nat.le_refl _) (.cells #[.int .i64 q.t, .int .i64 q.p, .slice q.a q.n q.c] 55)) (Nat.le_refl _)).mono (by simp)⟩
    have t0 : (0 : Int) ≤ (k : Int) := by omega
    have t1 : (k : Int) < (n : Int) := by omega
    have HLT := Hk.mk hlt
    have gk : IntKind.i64.wrap ((k : Int) + 1) = ((k + 1 : Nat) : Int) := by push_cast; exact wr27 (by omega) (by omega)
    have hM64 : M.length ≤ 64 * k := HM.out.2.2
    have hk20 : k < 1048576 := by omega
    clear hd hqq hkl hok hlt hk
    subst ea
    as_aux_lemma =>
     go_wp2_with (first
      | (go_at_call 54; (with_reducible refine (cpcs_any q.a q.n q.c q.l _ HD.out HSQ.out).mono ?_); rintro e z ⟨v2, L2, rfl, ho2, hab2, hb⟩; obtain ⟨a2, c2, rfl⟩ := ho2.form; have HOC := Hk.mk ho2; have HAB := Hk.mk hab2; have HOM := Hk.mk ((HM.out.1.below ((Below.refl _ _).alloc (Nat.le_refl _) (.cells #[.int .i64 q.t, .int .i64 q.p, .slice q.a q.n q.c] 55))).below hb); have HB2 := Hk.mk (kw_step (HB.out.alloc HB.out.size (.cells #[.int .i64 q.t, .int .i64 q.p, .slice q.a q.n q.c] 55)) (Nat.le_refl _) hb); have HV2 := Hk.mk (kw_step (HV.out.alloc HV.out.size (.cells #[.int .i64 q.t, .int .i64 q.p, .slice q.a q.n q.c] 55)) (Nat.le_refl _) hb); have HSZ := Hk.mk hb.size; clear ho2 hab2 hb)
      | (at_builtin; go_must (refine append_row27 rfl _ _ 51 rfl V.heap.size 50 i0 (.agg (jkC 0 0 0 0 none 0 0 0 0 0 0 0)) 10 96 Try.underlying51 hi hz0 hz1 hz2 rfl (by decide) _ M.length (flt shC M) rfl HOM.out.o.row (.slice a2 q.n c2) q.n (flt shC L2) rfl (wr.alloc (.cells #[.int .i64 q.t, .int .i64 q.p, .slice q.a q.n q.c] 55)).heap.size HOC.out.o.row (flt_one shC L2) (by unfold maxLen; omega) (by omega) HV2.out.size ?_)))
     intro v3 z2 hown2 hgrow
     have hty : ∀ j, (Value.slice sa M.length sc).ownBlock = some j → ∃ cur fr, z.heap[j]? = some (.cells cur 50 fr) := fun j hj => HOM.out.o.typ hj
     have hI : ∀ j cur fr, z.heap[j]? = some (.cells cur 3 fr) → ¬ (Value.slice sa M.length sc).ownBlock = some j := fun j cur fr e hj => by
      obtain ⟨cur', fr', e'⟩ := hty j hj
      rw [e] at e'
      injection e' with e'
      injection e' with _ e'
      exact absurd e' (by decide)
     have hFr : Fr (fun j => (Value.slice sa M.length sc).ownBlock = some j) z z2 := (Fr.refl _ z).grown hgrow (fun j _ h => h)
     have hVA : V.heap.size ≤ (wr.alloc (.cells #[.int .i64 q.t, .int .i64 q.p, .slice q.a q.n q.c] 55)).heap.size := by have := HV.out.size; simp; omega
     have hl2 : L2.length = q.n := HOC.out.o.len
     have HO3 : Hk (OwC z2 V.heap.size v3 (M ++ L2).length (M ++ L2) ∧ abC (M ++ L2) = flatN (abI (L.take (k + 1))) ∧ (M ++ L2).length ≤ 64 * (k + 1)) := ⟨⟨⟨rfl, by rw [List.length_append, hl2, flt_app]; exact hown2⟩, fun x hx => by
      rcases List.mem_append.1 hx with hx | hx
      ·exact (HOM.out.u x hx).keep hFr hI
      ·exact ((HOC.out.u x hx).weak hVA).keep hFr hI⟩, by rw [abC_app, HM.out.2.1, HSN.out, flatN_app, HAB.out]; show _ = _ ++ (abC q.l ++ []); rw [List.append_nil], by rw [List.length_append, hl2]; omega⟩
     obtain ⟨sa2, sc2, rfl, -⟩ := HO3.out.1.o.form
     have HB3 : Hk (Below w.heap.size w z2) := ⟨HB2.out.grown hgrow HB2.out.size (fun g hg => Nat.le_trans HBV.out.size (HOM.out.o.lt g hg).1)⟩
     have HV3 : Hk (Below V.heap.size V z2) := ⟨HV2.out.grown hgrow HV2.out.size (fun g hg => (HOM.out.o.lt g hg).1)⟩
     have hnx : k + 1 ≤ n := HLT.out
     clear hown2 hgrow hty hI hFr HM HB HV HOM HOC HB2 HV2 HSZ hM64
     go_wp2
     exact ⟨⟨k + 1, M ++ L2, sa2, sc2, rfl, by go_num, hnx, HO3, HB3, HV3⟩, by first | exact nx_ms HLT.out | exact nx_ms' HLT.out⟩
   ·obtain rfl : k = n := by omega
    have hab : abC M = flatN (abI L) := by have := HM.out.2.1; rwa [List.take_of_length_le (by omega)] at this
    have HAB := Hk.mk hab
    clear hab
    as_aux_lemma =>
     go_wp2
     go_ret2
     exact ⟨HB.out, _, M, rfl, HM.out.1.weak HBV.out.size, HAB.out⟩
 ·obtain rfl := HNO.out rfl
  clear HYES HNO
  as_aux_lemma =>
   go_wp2
   go_ret2
   exact ⟨HBV.out.trans (HV.out.mono HBV.out.size), rfl⟩
end Go.Proofs.Ytdpblimhfmfbnaa
namespace Go.Proofs.Ytdpblimhfmfbnaa
open Go.ChangeShapes Go.WideShapes Go.ChangeAt Go.RowKit Go.Deep
structure Sn (B : Nat) (w z : World) : Prop where
 bl : Below B w z
 ty : ∀ (j : Nat) (cur : Array Value) (T : TypeId) fr, w.heap[j]? = some (Obj.cells cur T fr) → T ≠ 3 → z.heap[j]? = some (Obj.cells cur T fr)
 p : ∀ a n c u, OwnI w B (.slice a n c) n u → ∃ u', OwnI z B (.slice a n c) n u'
theorem Sn.refl (B : Nat) (w : World) : Sn B w w := ⟨Below.refl _ _, fun _ _ _ _ h _ => h, fun a n c u h => ⟨u, h⟩⟩
theorem Sn.trans {B : Nat} {w y z : World} (h : Sn B w y) (k : Sn B y z) : Sn B w z := ⟨h.bl.trans k.bl, fun j cur T fr e ne => k.ty j cur T fr (h.ty j cur T fr e ne) ne, fun a n c u o => by
 obtain ⟨u', o'⟩ := h.p a n c u o
 exact k.p a n c u' o'⟩
theorem cells_lt {w : World} {j : Nat} {o : Obj} (h : w.heap[j]? = some o) : j < w.heap.size := (Array.getElem?_eq_some_iff.1 h).1
theorem Sn.of_all {B : Nat} {w z : World} (hB : B ≤ w.heap.size) (h : Below w.heap.size w z) : Sn B w z := ⟨h.mono hB, fun j cur T fr e ne => by rw [h.block j (cells_lt e)]; exact e, fun a n c u o => ⟨u, o.below h⟩⟩
theorem OwnI.blk {w : World} {B n c : Nat} {a : Option Addr} {u : List Int} (h : OwnI w B (.slice a n c) n u) : (a = none ∧ n = 0 ∧ c = 0) ∨ ∃ g, a = some ⟨g, 0, none⟩ ∧ B ≤ g ∧ g < w.heap.size ∧ n ≤ c := by
 rcases h.2.2 with ⟨e, h0⟩ | ⟨g, cap, cur, e, hg, hh, hc, _⟩
 ·injection e with e1 e2 e3; exact .inl ⟨e1, h0, e3⟩
 ·injection e with e1 e2 e3; exact .inr ⟨g, e1, hg, cells_lt hh, by omega⟩
theorem Sn.setI {B n c g : Nat} {w : World} {u : List Int} (h : OwnI w B (.slice (some ⟨g, 0, none⟩) n c) n u) (k : Nat) (y : Int) : Sn B w (w.setCell ⟨g, k, none⟩ (.int .i64 y)) := by
 obtain ⟨cur, fr, e⟩ := h.typ (j := g) rfl
 have hg := (h.lt g rfl).1
 refine ⟨Below.setCell (Below.refl _ _) hg _, fun j cur' T fr' e' ne => ?_, fun a n' c' u' o => ?_⟩
 ·rw [heap_setCell_other w ⟨g, k, none⟩ j _ (fun hj => ?_)]
  ·exact e'
  ·have hj' : j = g := hj
   subst hj'
   rw [e] at e'
   injection e' with e'
   injection e' with _ e'
   exact ne e'.symm
 ·rcases o.blk with ⟨rfl, rfl, rfl⟩ | ⟨g', rfl, _⟩
  ·exact ⟨[], OwnI.nil _ _⟩
  ·by_cases hg' : g' = g
   ·subst hg'
    exact ⟨u'.set k y, by rw [List.length_set]; exact o.1, by rw [List.map_set]; exact (o.2.stored k _).1⟩
   ·exact ⟨u', Fr.owni (M := fun j => j = g) o (Fr.setCell (p := ⟨g, k, none⟩) (Fr.refl (fun j => j = g) w) (fun _ => rfl) _) fun j hj => by simp [Value.ownBlock] at hj; omega⟩
def ShN (w : World) (B : Nat) (a : Option Addr) (n c : Nat) : Prop := n ≤ 1048576 ∧ ∃ u, OwE w B a n c u
theorem Sn.shn {B n c : Nat} {w z : World} {a : Option Addr} (k : Sn B w z) (h : ShN w B a n c) : ShN z B a n c := ⟨h.1, by
 obtain ⟨u, h | h⟩ := h.2
 ·obtain ⟨u', h'⟩ := k.p _ _ _ _ h
  exact ⟨u', .inl h'⟩
 ·exact ⟨u, .inr h⟩⟩
theorem OwE.fin {w : World} {B n c : Nat} {a : Option Addr} {u : List Int} (h : OwE w B a n c u) : u.length = n ∧ n ≤ c ∧ (a = none → n = 0 ∧ c = 0) ∧ (∀ b, a = some b → ∀ (j : Nat) v, (u.map (Value.int .i64))[j]? = some v → w.cell? (b.add j) = some v) ∧ (n < c → ∃ g, a = some ⟨g, 0, none⟩ ∧ OwnI w B (.slice (some ⟨g, 0, none⟩) n c) n u) := by
 rcases h with h | ⟨rfl, rfl, rfl⟩
 ·refine ⟨h.1, ?_, ?_, ?_, ?_⟩
  ·rcases h.blk with ⟨_, h1, h2⟩ | ⟨g, _, _, _, h1⟩ <;> omega
  ·rintro rfl
   rcases h.blk with ⟨_, h1, h2⟩ | ⟨g, e, _⟩
   ·exact ⟨h1, h2⟩
   ·cases e
  ·rintro b rfl
   rcases h.blk with ⟨e, _⟩ | ⟨g, e, _⟩
   ·cases e
   ·injection e with e
    subst e
    exact h.2.cells (g := g) rfl
  ·intro hlt
   rcases h.blk with ⟨_, h1, h2⟩ | ⟨g, rfl, _⟩
   ·omega
   ·exact ⟨g, rfl, h⟩
 ·exact ⟨rfl, Nat.le_refl _, fun _ => ⟨rfl, rfl⟩, fun b _ j v hj => by simp at hj, fun h => absurd h (by omega)⟩
def setL (xs : List Value) : Nat → List Value → List Value
 | _, [] => xs
 | o, v :: r => setL (xs.set o v) (o + 1) r
theorem storedL {w : World} {B : Nat} {T : TypeId} {z g n c : Nat} : ∀ (vs : List Value) (o : Nat) (w : World) (xs : List Value), w.ownsRow B T z (.slice (some ⟨g, 0, none⟩) n c) n xs → (w.setCells g o vs).ownsRow B T z (.slice (some ⟨g, 0, none⟩) n c) n (setL xs o vs)
 | [], _, _, _, h => h
 | v :: r, o, w, xs, h => storedL (w := w) r (o + 1) _ _ (h.stored o v).1
theorem setL_out : ∀ (vs xs : List Value) (o : Nat), xs.length ≤ o → setL xs o vs = xs
 | [], _, _, _ => rfl
 | v :: r, xs, o, h => by
  show setL (xs.set o v) (o + 1) r = xs
  rw [List.set_eq_of_length_le h]
  exact setL_out r xs (o + 1) (by omega)
theorem setL_mid : ∀ (news olds pre post : List Value), news.length = olds.length → setL (pre ++ olds ++ post) pre.length news = pre ++ news ++ post
 | [], [], _, _, _ => rfl
 | v :: r, o :: os, pre, post, h => by
  show setL ((pre ++ (o :: os) ++ post).set pre.length v) (pre.length + 1) r = _
  have e : (pre ++ (o :: os) ++ post).set pre.length v = (pre ++ [v]) ++ os ++ post := by
   rw [List.append_assoc, List.set_append_right _ _ (Nat.le_refl _), Nat.sub_self]
   simp
  have := setL_mid r os (pre ++ [v]) post (by simpa using h)
  rw [e, show pre.length + 1 = (pre ++ [v]).length by simp, this]
  simp
theorem setL_flt {α : Type} (S : Sh α) (l : List α) (k : Nat) (x : α) : setL (flt S l) (k * S.z) (S.c x) = flt S (l.set k x) := by
 rcases Nat.lt_or_ge k l.length with h | h
 ·have e : l = l.take k ++ l[k] :: l.drop (k + 1) := by rw [List.getElem_cons_drop, List.take_append_drop]
  have e1 : flt S l = flt S (l.take k) ++ S.c l[k] ++ flt S (l.drop (k + 1)) := by
   conv => lhs; rw [e]
   rw [flt_app, flt_cons, List.append_assoc]
  have e2 : (flt S (l.take k)).length = k * S.z := by rw [flt_len, List.length_take, Nat.min_eq_left (Nat.le_of_lt h)]
  rw [e1, ← e2, setL_mid _ _ _ _ (by rw [S.len, S.len]), List.set_eq_take_append_cons_drop, if_pos h, flt_app, flt_cons, List.append_assoc]
 ·rw [setL_out _ _ _ (by rw [flt_len]; exact Nat.mul_le_mul_right _ h), List.set_eq_of_length_le h]
theorem Ow.setx {α : Type} {S : Sh α} {T : TypeId} {w : World} {base n c g : Nat} {l : List α} (h : Ow S T w base (.slice (some ⟨g, 0, none⟩) n c) n l) (k : Nat) (x : α) : Ow S T (w.setCells g (k * S.z) (S.c x)) base (.slice (some ⟨g, 0, none⟩) n c) n (l.set k x) :=
 ⟨by rw [List.length_set]; exact h.len, by rw [← setL_flt]; exact storedL (w := w) _ _ _ _ h.row⟩
theorem Ow.blk {α : Type} {S : Sh α} {T : TypeId} {w : World} {base n c : Nat} {a : Option Addr} {l : List α} (h : Ow S T w base (.slice a n c) n l) : (a = none ∧ n = 0 ∧ c = 0) ∨ ∃ g, a = some ⟨g, 0, none⟩ ∧ base ≤ g ∧ g < w.heap.size ∧ n ≤ c := by
 rcases h.row.2 with ⟨e, h0⟩ | ⟨g, cap, cur, e, hg, hh, hc, _⟩
 ·injection e with e1 e2 e3; exact .inl ⟨e1, h0, e3⟩
 ·injection e with e1 e2 e3; exact .inr ⟨g, e1, hg, cells_lt hh, by omega⟩
theorem Fr.setCells {M : Nat → Prop} {g : Nat} (hg : M g) : ∀ (vs : List Value) (o : Nat) {a b : World}, Fr M a b → Fr M a (b.setCells g o vs)
 | [], _, _, _, h => h
 | v :: r, o, _, _, h => Fr.setCells hg r (o + 1) (h.setCell (p := ⟨g, o, none⟩) (fun _ => hg) v)
def zrC (k : Int) : Cv := ⟨0, 0, k, 0, none, 0, 0, 0, 0, 0, 0, 0, []⟩
def zrI (t : Int) : Iv := ⟨t, 0, none, 0, 0, []⟩
structure Sc (B : Nat) (w z : World) : Prop where
 bl : Below B w z
 ty : ∀ (j : Nat) (cur : Array Value) (T : TypeId) fr, w.heap[j]? = some (Obj.cells cur T fr) → T ≠ 3 → T ≠ 50 → z.heap[j]? = some (Obj.cells cur T fr)
 p : ∀ a n c u, OwnI w B (.slice a n c) n u → ∃ u', OwnI z B (.slice a n c) n u'
 q : ∀ a n c l, Ow shC 50 w B (.slice a n c) n l → ∃ l', Ow shC 50 z B (.slice a n c) n l' ∧ ∀ x, x ∈ l' → x ∈ l ∨ ∃ k, x = zrC k
theorem Sc.refl (B : Nat) (w : World) : Sc B w w := ⟨Below.refl _ _, fun _ _ _ _ h _ _ => h, fun a n c u h => ⟨u, h⟩, fun a n c l h => ⟨l, h, fun x hx => .inl hx⟩⟩
theorem Sc.trans {B : Nat} {w y z : World} (h : Sc B w y) (k : Sc B y z) : Sc B w z := ⟨h.bl.trans k.bl, fun j cur T fr e ne ne2 => k.ty j cur T fr (h.ty j cur T fr e ne ne2) ne ne2, fun a n c u o => by
 obtain ⟨u', o'⟩ := h.p a n c u o
 exact k.p a n c u' o', fun a n c l o => by
 obtain ⟨l', o', hl⟩ := h.q a n c l o
 obtain ⟨l2, o2, hl2⟩ := k.q a n c l' o'
 exact ⟨l2, o2, fun x hx => (hl2 x hx).elim (fun h => hl x h) .inr⟩⟩
theorem Sc.of_all {B : Nat} {w z : World} (hB : B ≤ w.heap.size) (h : Below w.heap.size w z) : Sc B w z := ⟨h.mono hB, fun j cur T fr e _ _ => by rw [h.block j (cells_lt e)]; exact e, fun a n c u o => ⟨u, o.below h⟩, fun a n c l o => ⟨l, o.below h, fun x hx => .inl hx⟩⟩
theorem Sc.of_sn {B : Nat} {w z : World} (h : Sn B w z) : Sc B w z := ⟨h.bl, fun j cur T fr e ne _ => h.ty j cur T fr e ne, h.p, fun a n c l o => ⟨l, ⟨o.len, by
 refine ⟨o.row.1, ?_⟩
 rcases o.row.2 with e | ⟨g, cap, cur, e, hg, hh, r⟩
 ·exact .inl e
 ·exact .inr ⟨g, cap, cur, e, hg, h.ty _ _ _ _ hh (by decide), r⟩⟩, fun x hx => .inl hx⟩⟩
def ShC (w : World) (B : Nat) (a : Option Addr) (n c : Nat) : Prop := n ≤ 1048576 ∧ ((∃ l, Ow shC 50 w B (.slice a n c) n l ∧ ∀ x, x ∈ l → ShN w B x.a x.m x.c) ∨ (n = 0 ∧ c = 0))
theorem ShN.zr (w : World) (B : Nat) : ShN w B none 0 0 := ⟨by omega, [], .inl (OwnI.nil _ _)⟩
theorem Sc.shn {B n c : Nat} {w z : World} {a : Option Addr} (k : Sc B w z) (h : ShN w B a n c) : ShN z B a n c := ⟨h.1, by
 obtain ⟨u, h | h⟩ := h.2
 ·obtain ⟨u', h'⟩ := k.p _ _ _ _ h
  exact ⟨u', .inl h'⟩
 ·exact ⟨u, .inr h⟩⟩
theorem Sc.shc {B n c : Nat} {w z : World} {a : Option Addr} (k : Sc B w z) (h : ShC w B a n c) : ShC z B a n c := ⟨h.1, by
 rcases h.2 with ⟨l, ho, hu⟩ | h
 ·obtain ⟨l', ho', hl⟩ := k.q _ _ _ _ ho
  refine .inl ⟨l', ho', fun x hx => ?_⟩
  rcases hl x hx with h | ⟨y, rfl⟩
  ·exact k.shn (hu x h)
  ·exact ShN.zr _ _
 ·exact .inr h⟩
theorem ShC.fr {M : Nat → Prop} {B n c : Nat} {w z : World} {a : Option Addr} (h : ShC w B a n c) (k : Fr M w z) (hm : ∀ j cur fr, w.heap[j]? = some (Obj.cells cur 3 fr) → ¬ M j) (hm2 : ∀ j cur fr, w.heap[j]? = some (Obj.cells cur 50 fr) → ¬ M j) : ShC z B a n c := ⟨h.1, by
 rcases h.2 with ⟨l, ho, hu⟩ | h
 ·refine .inl ⟨l, ho.fr k fun j hj => by obtain ⟨cur, fr, e⟩ := ho.typ hj; exact hm2 j cur fr e, fun x hx => ⟨(hu x hx).1, ?_⟩⟩
  obtain ⟨u, h⟩ := (hu x hx).2
  exact ⟨u, h.keep k hm⟩
 ·exact .inr h⟩
def ShI (w : World) (B : Nat) (a : Option Addr) (n c : Nat) : Prop := n ≤ 1048576 ∧ ∃ l, Ow shI 55 w B (.slice a n c) n l ∧ ∀ x, x ∈ l → ShC w B x.a x.n x.c
theorem OwC.shc {w : World} {B n c : Nat} {a : Option Addr} {l : List Cv} (h : OwC w B (.slice a n c) n l) (hs : SmC l) : ShC w B a n c := ⟨by have := h.o.len; have := hs.n; omega, .inl ⟨l, h.o, fun x hx => ⟨hs.m x hx, x.u, h.u x hx⟩⟩⟩
theorem OwN.shi {w : World} {B n c : Nat} {a : Option Addr} {l : List Iv} (h : OwN w B (.slice a n c) n l) (hs : SmI l) : ShI w B a n c := ⟨by have := h.o.len; have := hs.n; omega, l, h.o, fun x hx => by
 rcases h.u x hx with h1 | ⟨h1, h2, _⟩
 ·exact h1.shc (hs.m x hx)
 ·exact ⟨by omega, .inr ⟨h1, h2⟩⟩⟩
theorem ShI.nil (w : World) (B : Nat) : ShI w B none 0 0 := ⟨by omega, [], Ow.nil _ _, fun _ h => by cases h⟩
theorem Ow.fin {α : Type} {S : Sh α} {T : TypeId} {w : World} {base n c : Nat} {a : Option Addr} {l : List α} (h : Ow S T w base (.slice a n c) n l) : n ≤ c ∧ (a = none → n = 0 ∧ c = 0) ∧ (∀ b, a = some b → ∀ (j : Nat) v, (flt S l)[j]? = some v → w.cell? (b.add j) = some v) := by
 refine ⟨?_, ?_, ?_⟩
 ·rcases h.blk with ⟨_, h1, h2⟩ | ⟨g, _, _, _, h1⟩ <;> omega
 ·rintro rfl
  rcases h.blk with ⟨_, h1, h2⟩ | ⟨g, e, _⟩
  ·exact ⟨h1, h2⟩
  ·cases e
 ·rintro b rfl
  rcases h.blk with ⟨e, _⟩ | ⟨g, e, _⟩
  ·cases e
  ·injection e with e
   subst e
   exact h.row.cells (g := g) rfl
end Go.Proofs.Ytdpblimhfmfbnaa
