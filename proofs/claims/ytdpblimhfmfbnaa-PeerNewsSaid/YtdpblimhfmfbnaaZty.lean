import Derived.ArgAppend
import Derived.Deep.QuietTactic
import Derived.BigQuiet
import Derived.Deep.RegionWith
import Derived.Deep.RegionHeld3
import Derived.Deep.DeepCutAuto
import Derived.Deep.DeepFit
import Derived.Outline
import Derived.Test.YtdpblimhfmfbnaaZtx
/- What is written into rows of one's own, and what that keeps. -/
namespace Go.Proofs.Ytdpblimhfmfbnaa
open Go.ChangeShapes Go.WideShapes Go.ChangeAt Go.RowKit Go.Deep
set_option linter.unusedVariables false
set_option linter.unusedSimpArgs false
/-- Blocks of numbers from B on are written with numbers alone; no other block is written. -/
structure Sn (B : Nat) (w z : World) : Prop where
  bl : Below B w z
  ty : ∀ (j : Nat) (cur : Array Value) (T : TypeId) fr, w.heap[j]? = some (Obj.cells cur T fr) → T ≠ 3 → z.heap[j]? = some (Obj.cells cur T fr)
  p : ∀ a n c u, OwnI w B (.slice a n c) n u → ∃ u', OwnI z B (.slice a n c) n u'
theorem Sn.refl (B : Nat) (w : World) : Sn B w w := ⟨Below.refl _ _, fun _ _ _ _ h _ => h, fun a n c u h => ⟨u, h⟩⟩
theorem Sn.trans {B : Nat} {w y z : World} (h : Sn B w y) (k : Sn B y z) : Sn B w z := ⟨h.bl.trans k.bl, fun j cur T fr e ne => k.ty j cur T fr (h.ty j cur T fr e ne) ne, fun a n c u o => by
  obtain ⟨u', o'⟩ := h.p a n c u o
  exact k.p a n c u' o'⟩
theorem cells_lt {w : World} {j : Nat} {o : Obj} (h : w.heap[j]? = some o) : j < w.heap.size := (Array.getElem?_eq_some_iff.1 h).1
theorem Sn.of_all {B : Nat} {w z : World} (hB : B ≤ w.heap.size) (h : Below w.heap.size w z) : Sn B w z := ⟨h.mono hB, fun j cur T fr e ne => by rw [h.block j (cells_lt e)]; exact e, fun a n c u o => ⟨u, o.below h⟩⟩
theorem OwnI.blk {w : World} {B n c : Nat} {a : Option Addr} {u : List Int} (h : OwnI w B (.slice a n c) n u) : (a = none ∧ n = 0 ∧ c = 0) ∨ ∃ g, a = some ⟨g, 0, none⟩ ∧ B ≤ g ∧ g < w.heap.size ∧ n ≤ c := by
  rcases h.2.2 with ⟨e, h0⟩ | ⟨g, cap, cur, e, hg, hh, hc, _⟩
  · injection e with e1 e2 e3; exact .inl ⟨e1, h0, e3⟩
  · injection e with e1 e2 e3; exact .inr ⟨g, e1, hg, cells_lt hh, by omega⟩
theorem Sn.setI {B n c g : Nat} {w : World} {u : List Int} (h : OwnI w B (.slice (some ⟨g, 0, none⟩) n c) n u) (k : Nat) (y : Int) : Sn B w (w.setCell ⟨g, k, none⟩ (.int .i64 y)) := by
  obtain ⟨cur, fr, e⟩ := h.typ (j := g) rfl
  have hg := (h.lt g rfl).1
  refine ⟨Below.setCell (Below.refl _ _) hg _, fun j cur' T fr' e' ne => ?_, fun a n' c' u' o => ?_⟩
  · rw [heap_setCell_other w ⟨g, k, none⟩ j _ (fun hj => ?_)]
    · exact e'
    · have hj' : j = g := hj
      subst hj'
      rw [e] at e'
      injection e' with e'
      injection e' with _ e'
      exact ne e'.symm
  · rcases o.blk with ⟨rfl, rfl, rfl⟩ | ⟨g', rfl, _⟩
    · exact ⟨[], OwnI.nil _ _⟩
    · by_cases hg' : g' = g
      · subst hg'
        exact ⟨u'.set k y, by rw [List.length_set]; exact o.1, by rw [List.map_set]; exact (o.2.stored k _).1⟩
      · exact ⟨u', Fr.owni (M := fun j => j = g) o (Fr.setCell (p := ⟨g, k, none⟩) (Fr.refl (fun j => j = g) w) (fun _ => rfl) _) fun j hj => by simp [Value.ownBlock] at hj; omega⟩
/-- Numbers that may be written: a row of one's own, or a slice without room. -/
def ShN (w : World) (B : Nat) (a : Option Addr) (n c : Nat) : Prop := n ≤ 1048576 ∧ ∃ u, OwE w B a n c u
theorem Sn.shn {B n c : Nat} {w z : World} {a : Option Addr} (k : Sn B w z) (h : ShN w B a n c) : ShN z B a n c := ⟨h.1, by
  obtain ⟨u, h | h⟩ := h.2
  · obtain ⟨u', h'⟩ := k.p _ _ _ _ h
    exact ⟨u', .inl h'⟩
  · exact ⟨u, .inr h⟩⟩
theorem OwE.fin {w : World} {B n c : Nat} {a : Option Addr} {u : List Int} (h : OwE w B a n c u) : u.length = n ∧ n ≤ c ∧ (a = none → n = 0 ∧ c = 0) ∧ (∀ b, a = some b → ∀ (j : Nat) v, (u.map (Value.int .i64))[j]? = some v → w.cell? (b.add j) = some v) ∧ (n < c → ∃ g, a = some ⟨g, 0, none⟩ ∧ OwnI w B (.slice (some ⟨g, 0, none⟩) n c) n u) := by
  rcases h with h | ⟨rfl, rfl, rfl⟩
  · refine ⟨h.1, ?_, ?_, ?_, ?_⟩
    · rcases h.blk with ⟨_, h1, h2⟩ | ⟨g, _, _, _, h1⟩ <;> omega
    · rintro rfl
      rcases h.blk with ⟨_, h1, h2⟩ | ⟨g, e, _⟩
      · exact ⟨h1, h2⟩
      · cases e
    · rintro b rfl
      rcases h.blk with ⟨e, _⟩ | ⟨g, e, _⟩
      · cases e
      · injection e with e
        subst e
        exact h.2.cells (g := g) rfl
    · intro hlt
      rcases h.blk with ⟨_, h1, h2⟩ | ⟨g, rfl, _⟩
      · omega
      · exact ⟨g, rfl, h⟩
  · exact ⟨rfl, Nat.le_refl _, fun _ => ⟨rfl, rfl⟩, fun b _ j v hj => by simp at hj, fun h => absurd h (by omega)⟩
/-- Cells laid over a list. -/
def setL (xs : List Value) : Nat → List Value → List Value
  | _, [] => xs
  | o, v :: r => setL (xs.set o v) (o + 1) r
theorem storedL {w : World} {B : Nat} {T : TypeId} {z g n c : Nat} : ∀ (vs : List Value) (o : Nat) (w : World) (xs : List Value), w.ownsRow B T z (.slice (some ⟨g, 0, none⟩) n c) n xs → (w.setCells g o vs).ownsRow B T z (.slice (some ⟨g, 0, none⟩) n c) n (setL xs o vs)
  | [], _, _, _, h => h
  | v :: r, o, w, xs, h => storedL (w := w) r (o + 1) _ _ (h.stored o v).1
theorem setL_out : ∀ (vs xs : List Value) (o : Nat), xs.length ≤ o → setL xs o vs = xs
  | [], _, _, _ => rfl
  | v :: r, xs, o, h => by
    show setL (xs.set o v) (o + 1) r = xs
    rw [List.set_eq_of_length_le h]
    exact setL_out r xs (o + 1) (by omega)
theorem setL_mid : ∀ (news olds pre post : List Value), news.length = olds.length → setL (pre ++ olds ++ post) pre.length news = pre ++ news ++ post
  | [], [], _, _, _ => rfl
  | v :: r, o :: os, pre, post, h => by
    show setL ((pre ++ (o :: os) ++ post).set pre.length v) (pre.length + 1) r = _
    have e : (pre ++ (o :: os) ++ post).set pre.length v = (pre ++ [v]) ++ os ++ post := by
      rw [List.append_assoc, List.set_append_right _ _ (Nat.le_refl _), Nat.sub_self]
      simp
    have := setL_mid r os (pre ++ [v]) post (by simpa using h)
    rw [e, show pre.length + 1 = (pre ++ [v]).length by simp, this]
    simp
theorem setL_flt {α : Type} (S : Sh α) (l : List α) (k : Nat) (x : α) : setL (flt S l) (k * S.z) (S.c x) = flt S (l.set k x) := by
  rcases Nat.lt_or_ge k l.length with h | h
  · have e : l = l.take k ++ l[k] :: l.drop (k + 1) := by rw [List.getElem_cons_drop, List.take_append_drop]
    have e1 : flt S l = flt S (l.take k) ++ S.c l[k] ++ flt S (l.drop (k + 1)) := by
      conv => lhs; rw [e]
      rw [flt_app, flt_cons, List.append_assoc]
    have e2 : (flt S (l.take k)).length = k * S.z := by rw [flt_len, List.length_take, Nat.min_eq_left (Nat.le_of_lt h)]
    rw [e1, ← e2, setL_mid _ _ _ _ (by rw [S.len, S.len]), List.set_eq_take_append_cons_drop, if_pos h, flt_app, flt_cons, List.append_assoc]
  · rw [setL_out _ _ _ (by rw [flt_len]; exact Nat.mul_le_mul_right _ h), List.set_eq_of_length_le h]
theorem Ow.setx {α : Type} {S : Sh α} {T : TypeId} {w : World} {base n c g : Nat} {l : List α} (h : Ow S T w base (.slice (some ⟨g, 0, none⟩) n c) n l) (k : Nat) (x : α) : Ow S T (w.setCells g (k * S.z) (S.c x)) base (.slice (some ⟨g, 0, none⟩) n c) n (l.set k x) :=
  ⟨by rw [List.length_set]; exact h.len, by rw [← setL_flt]; exact storedL (w := w) _ _ _ _ h.row⟩
theorem Ow.blk {α : Type} {S : Sh α} {T : TypeId} {w : World} {base n c : Nat} {a : Option Addr} {l : List α} (h : Ow S T w base (.slice a n c) n l) : (a = none ∧ n = 0 ∧ c = 0) ∨ ∃ g, a = some ⟨g, 0, none⟩ ∧ base ≤ g ∧ g < w.heap.size ∧ n ≤ c := by
  rcases h.row.2 with ⟨e, h0⟩ | ⟨g, cap, cur, e, hg, hh, hc, _⟩
  · injection e with e1 e2 e3; exact .inl ⟨e1, h0, e3⟩
  · injection e with e1 e2 e3; exact .inr ⟨g, e1, hg, cells_lt hh, by omega⟩
theorem Fr.setCells {M : Nat → Prop} {g : Nat} (hg : M g) : ∀ (vs : List Value) (o : Nat) {a b : World}, Fr M a b → Fr M a (b.setCells g o vs)
  | [], _, _, _, h => h
  | v :: r, o, _, _, h => Fr.setCells hg r (o + 1) (h.setCell (p := ⟨g, o, none⟩) (fun _ => hg) v)
/-- A command that is nothing, but for its kind. -/
def zrC (k : Int) : Cv := ⟨0, 0, k, 0, none, 0, 0, 0, 0, 0, 0, 0, []⟩
def zrI (t : Int) : Iv := ⟨t, 0, none, 0, 0, []⟩
/-- Blocks of numbers and of commands from B on are written with such alone; no other block is written. -/
structure Sc (B : Nat) (w z : World) : Prop where
  bl : Below B w z
  ty : ∀ (j : Nat) (cur : Array Value) (T : TypeId) fr, w.heap[j]? = some (Obj.cells cur T fr) → T ≠ 3 → T ≠ 50 → z.heap[j]? = some (Obj.cells cur T fr)
  p : ∀ a n c u, OwnI w B (.slice a n c) n u → ∃ u', OwnI z B (.slice a n c) n u'
  q : ∀ a n c l, Ow shC 50 w B (.slice a n c) n l → ∃ l', Ow shC 50 z B (.slice a n c) n l' ∧ ∀ x, x ∈ l' → x ∈ l ∨ ∃ k, x = zrC k
theorem Sc.refl (B : Nat) (w : World) : Sc B w w := ⟨Below.refl _ _, fun _ _ _ _ h _ _ => h, fun a n c u h => ⟨u, h⟩, fun a n c l h => ⟨l, h, fun x hx => .inl hx⟩⟩
theorem Sc.trans {B : Nat} {w y z : World} (h : Sc B w y) (k : Sc B y z) : Sc B w z := ⟨h.bl.trans k.bl, fun j cur T fr e ne ne2 => k.ty j cur T fr (h.ty j cur T fr e ne ne2) ne ne2, fun a n c u o => by
  obtain ⟨u', o'⟩ := h.p a n c u o
  exact k.p a n c u' o', fun a n c l o => by
  obtain ⟨l', o', hl⟩ := h.q a n c l o
  obtain ⟨l2, o2, hl2⟩ := k.q a n c l' o'
  exact ⟨l2, o2, fun x hx => (hl2 x hx).elim (fun h => hl x h) .inr⟩⟩
theorem Sc.of_all {B : Nat} {w z : World} (hB : B ≤ w.heap.size) (h : Below w.heap.size w z) : Sc B w z := ⟨h.mono hB, fun j cur T fr e _ _ => by rw [h.block j (cells_lt e)]; exact e, fun a n c u o => ⟨u, o.below h⟩, fun a n c l o => ⟨l, o.below h, fun x hx => .inl hx⟩⟩
theorem Sc.of_sn {B : Nat} {w z : World} (h : Sn B w z) : Sc B w z := ⟨h.bl, fun j cur T fr e ne _ => h.ty j cur T fr e ne, h.p, fun a n c l o => ⟨l, ⟨o.len, by
  refine ⟨o.row.1, ?_⟩
  rcases o.row.2 with e | ⟨g, cap, cur, e, hg, hh, r⟩
  · exact .inl e
  · exact .inr ⟨g, cap, cur, e, hg, h.ty _ _ _ _ hh (by decide), r⟩⟩, fun x hx => .inl hx⟩⟩
theorem Sc.setC {B n c g : Nat} {w : World} {l : List Cv} (h : Ow shC 50 w B (.slice (some ⟨g, 0, none⟩) n c) n l) (k : Nat) (y : Int) : Sc B w (w.setCells g (k * 10) (zrC y).cs) := by
  obtain ⟨cur, fr, e⟩ := h.typ (j := g) rfl
  have hg := (h.lt g rfl).1
  have hF : Fr (fun j => j = g) w (w.setCells g (k * 10) (zrC y).cs) := Fr.setCells (M := fun j => j = g) rfl _ _ (Fr.refl (fun j => j = g) w)
  refine ⟨hF.below (Nat.le_of_lt (Nat.lt_of_le_of_lt hg (cells_lt e))) (fun j _ hj => by omega), fun j cur' T fr' e' ne ne2 => ?_, fun a n' c' u' o => ?_, fun a n' c' l' o => ?_⟩
  · rw [hF.block j (cells_lt e') (fun hj => ?_)]
    · exact e'
    · subst hj
      rw [e] at e'
      injection e' with e'
      injection e' with _ e'
      exact ne2 e'.symm
  · refine ⟨u', Fr.owni o hF fun j hj hj2 => ?_⟩
    obtain ⟨cur', fr', e'⟩ := o.typ hj
    subst hj2
    rw [e] at e'
    injection e' with e'
    injection e' with _ e'
    exact absurd e' (by decide)
  · rcases o.blk with ⟨rfl, rfl, rfl⟩ | ⟨g', rfl, _⟩
    · exact ⟨l', o.fr hF fun j hj => by simp [Value.ownBlock] at hj, fun x hx => .inl hx⟩
    · by_cases hg' : g' = g
      · subst hg'
        exact ⟨_, o.setx k (zrC y), fun x hx => (List.mem_or_eq_of_mem_set hx).imp id fun e => ⟨y, e⟩⟩
      · exact ⟨l', o.fr hF fun j hj => by simp [Value.ownBlock] at hj; omega, fun x hx => .inl hx⟩
/-- Commands that may be written, with their units. -/
def ShC (w : World) (B : Nat) (a : Option Addr) (n c : Nat) : Prop := n ≤ 1048576 ∧ ((∃ l, Ow shC 50 w B (.slice a n c) n l ∧ ∀ x, x ∈ l → ShN w B x.a x.m x.c) ∨ (n = 0 ∧ c = 0))
theorem ShN.zr (w : World) (B : Nat) : ShN w B none 0 0 := ⟨by omega, [], .inl (OwnI.nil _ _)⟩
theorem Sc.shn {B n c : Nat} {w z : World} {a : Option Addr} (k : Sc B w z) (h : ShN w B a n c) : ShN z B a n c := ⟨h.1, by
  obtain ⟨u, h | h⟩ := h.2
  · obtain ⟨u', h'⟩ := k.p _ _ _ _ h
    exact ⟨u', .inl h'⟩
  · exact ⟨u, .inr h⟩⟩
theorem Sc.shc {B n c : Nat} {w z : World} {a : Option Addr} (k : Sc B w z) (h : ShC w B a n c) : ShC z B a n c := ⟨h.1, by
  rcases h.2 with ⟨l, ho, hu⟩ | h
  · obtain ⟨l', ho', hl⟩ := k.q _ _ _ _ ho
    refine .inl ⟨l', ho', fun x hx => ?_⟩
    rcases hl x hx with h | ⟨y, rfl⟩
    · exact k.shn (hu x h)
    · exact ShN.zr _ _
  · exact .inr h⟩
theorem ShC.fr {M : Nat → Prop} {B n c : Nat} {w z : World} {a : Option Addr} (h : ShC w B a n c) (k : Fr M w z) (hm : ∀ j cur fr, w.heap[j]? = some (Obj.cells cur 3 fr) → ¬ M j) (hm2 : ∀ j cur fr, w.heap[j]? = some (Obj.cells cur 50 fr) → ¬ M j) : ShC z B a n c := ⟨h.1, by
  rcases h.2 with ⟨l, ho, hu⟩ | h
  · refine .inl ⟨l, ho.fr k fun j hj => by obtain ⟨cur, fr, e⟩ := ho.typ hj; exact hm2 j cur fr e, fun x hx => ⟨(hu x hx).1, ?_⟩⟩
    obtain ⟨u, h⟩ := (hu x hx).2
    exact ⟨u, h.keep k hm⟩
  · exact .inr h⟩
/-- Inputs that may be written. -/
def ShI (w : World) (B : Nat) (a : Option Addr) (n c : Nat) : Prop := n ≤ 1048576 ∧ ∃ l, Ow shI 55 w B (.slice a n c) n l ∧ ∀ x, x ∈ l → ShC w B x.a x.n x.c
theorem OwC.shc {w : World} {B n c : Nat} {a : Option Addr} {l : List Cv} (h : OwC w B (.slice a n c) n l) (hs : SmC l) : ShC w B a n c := ⟨by have := h.o.len; have := hs.n; omega, .inl ⟨l, h.o, fun x hx => ⟨hs.m x hx, x.u, h.u x hx⟩⟩⟩
theorem OwN.shi {w : World} {B n c : Nat} {a : Option Addr} {l : List Iv} (h : OwN w B (.slice a n c) n l) (hs : SmI l) : ShI w B a n c := ⟨by have := h.o.len; have := hs.n; omega, l, h.o, fun x hx => by
  rcases h.u x hx with h1 | ⟨h1, h2, _⟩
  · exact h1.shc (hs.m x hx)
  · exact ⟨by omega, .inr ⟨h1, h2⟩⟩⟩
theorem ShI.nil (w : World) (B : Nat) : ShI w B none 0 0 := ⟨by omega, [], Ow.nil _ _, fun _ h => by cases h⟩
theorem Ow.fin {α : Type} {S : Sh α} {T : TypeId} {w : World} {base n c : Nat} {a : Option Addr} {l : List α} (h : Ow S T w base (.slice a n c) n l) : n ≤ c ∧ (a = none → n = 0 ∧ c = 0) ∧ (∀ b, a = some b → ∀ (j : Nat) v, (flt S l)[j]? = some v → w.cell? (b.add j) = some v) := by
  refine ⟨?_, ?_, ?_⟩
  · rcases h.blk with ⟨_, h1, h2⟩ | ⟨g, _, _, _, h1⟩ <;> omega
  · rintro rfl
    rcases h.blk with ⟨_, h1, h2⟩ | ⟨g, e, _⟩
    · exact ⟨h1, h2⟩
    · cases e
  · rintro b rfl
    rcases h.blk with ⟨e, _⟩ | ⟨g, e, _⟩
    · cases e
    · injection e with e
      subst e
      exact h.row.cells (g := g) rfl
end Go.Proofs.Ytdpblimhfmfbnaa
