import Derived.Deep.QuietTactic
import Derived.BigQuiet
import Derived.Deep.RegionWith
import Derived.Deep.RegionHeld3
import Derived.Deep.DeepCutAuto
import Derived.Deep.DeepFit
import Derived.Outline
import Derived.Test.YtcgilmjhbdehpaaZba
import Derived.OwnWalk
import Derived.IntWalk
/- Plain words of layer 10: filling, neighbour by neighbour. -/
namespace Go.Proofs.Ytcgilmjhbdehpaa
open Go.RowKit
set_option linter.unusedVariables false
set_option linter.unusedSimpArgs false
def updP (P : Nat → Int) (v : Nat) (x : Int) (k : Nat) : Int := if k = v then x else P k
theorem updP_at (P : Nat → Int) (v : Nat) (x : Int) : updP P v x v = x := if_pos rfl
theorem updP_far {P : Nat → Int} {v k : Nat} {x : Int} (h : k ≠ v) : updP P v x k = P k := if_neg h
/-- In a tile u, j of its neighbours done (M u is their list). -/
structure FilJ (n : Nat) (N : Nat → Nat → Prop) (M : Nat → List Nat) (fr : Nat → Bool) (s : Nat) (P0 P : Nat → Int) (L : List Nat) (u j : Nat) : Prop where
  old : ∀ t, t < n → P t = P0 t ∨ (P t = (s : Int) ∧ Rch N s t)
  at0 : P s = (s : Int)
  keep : ∀ t, t < n → 0 ≤ P0 t → P t = P0 t
  rel : ∀ t, t < n → Rch N s t → P t = (s : Int) → t ∈ L ∨ (t = u ∧ ∀ i (h : i < j) (h' : i < (M u).length), fr ((M u)[i]) = true → 0 ≤ P ((M u)[i])) ∨ ∀ v, N t v → 0 ≤ P v
  ru : Rch N s u
  wl : ∀ t, t ∈ L → t < n ∧ Rch N s t
/-- Between two tiles. -/
structure FilL (n : Nat) (N : Nat → Nat → Prop) (s : Nat) (P0 P : Nat → Int) (L : List Nat) : Prop where
  f : Fil n N s P0 P (fun t => t ∈ L)
  wl : ∀ t, t ∈ L → t < n ∧ Rch N s t
section
variable {n s u j : Nat} {N : Nat → Nat → Prop} {M : Nat → List Nat} {fr : Nat → Bool} {P0 P : Nat → Int} {L : List Nat}
theorem FilL.start (h : P0 s < 0) (hn : ∀ t, t < n → Rch N s t → P0 t ≠ (s : Int)) (hs : s < n) : FilL n N s P0 (updP P0 s s) [s] := by
  refine ⟨⟨fun t ht => ?_, updP_at _ _ _, fun t ht hk => ?_, fun t ht hr hp => ?_⟩, fun t ht => ?_⟩
  · by_cases e : t = s
    · subst e; exact Or.inr ⟨updP_at _ _ _, .refl⟩
    · exact Or.inl (updP_far e)
  · by_cases e : t = s
    · subst e; omega
    · exact updP_far e
  · by_cases e : t = s
    · subst e; exact Or.inl (List.mem_singleton.2 rfl)
    · rw [updP_far e] at hp
      exact absurd hp (hn t ht hr)
  · have := List.mem_singleton.1 ht
    subst this
    exact ⟨hs, .refl⟩
theorem FilL.pop (h : FilL n N s P0 P (L ++ [u])) : FilJ n N M fr s P0 P L u 0 := by
  refine ⟨h.f.old, h.f.at0, h.f.keep, fun t ht hr hp => ?_, (h.wl u (by simp)).2, fun t ht => h.wl t (List.mem_append_left _ ht)⟩
  rcases h.f.rel t ht hr hp with q | q
  · rcases List.mem_append.1 q with q | q
    · exact Or.inl q
    · exact Or.inr (Or.inl ⟨List.mem_singleton.1 q, fun i hi => by omega⟩)
  · exact Or.inr (Or.inr q)
theorem FilJ.put (h : FilJ n N M fr s P0 P L u j) (hj : j < (M u).length) (hv : (M u)[j] < n) (hN : N u ((M u)[j])) (hp : P ((M u)[j]) < 0) : FilJ n N M fr s P0 (updP P ((M u)[j]) s) (L ++ [(M u)[j]]) u (j + 1) := by
  generalize hx : (M u)[j] = x at *
  have hup : ∀ k, 0 ≤ P k → 0 ≤ updP P x s k := fun k hk => by
    by_cases e : k = x
    · subst e; omega
    · rw [updP_far e]; exact hk
  refine ⟨fun t ht => ?_, ?_, fun t ht hk => ?_, fun t ht hr hp2 => ?_, h.ru, fun t ht => ?_⟩
  · by_cases e : t = x
    · subst e; exact Or.inr ⟨updP_at _ _ _, h.ru.step hN⟩
    · rw [updP_far e]; exact h.old t ht
  · by_cases e : s = x
    · rw [← e]; exact updP_at _ _ _
    · rw [updP_far e]; exact h.at0
  · have h1 := h.keep t ht hk
    by_cases e : t = x
    · subst e; omega
    · rw [updP_far e]; exact h1
  · by_cases e : t = x
    · subst e; exact Or.inl (List.mem_append_right _ (List.mem_singleton.2 rfl))
    · rw [updP_far e] at hp2
      rcases h.rel t ht hr hp2 with q | ⟨q, q2⟩ | q
      · exact Or.inl (List.mem_append_left _ q)
      · refine Or.inr (Or.inl ⟨q, fun i hi hi' hf => ?_⟩)
        by_cases c : i < j
        · exact hup _ (q2 i c hi' hf)
        · have : i = j := by omega
          subst this
          rw [hx, updP_at]
          omega
      · exact Or.inr (Or.inr fun v hv2 => hup v (q v hv2))
  · rcases List.mem_append.1 ht with q | q
    · exact h.wl t q
    · have := List.mem_singleton.1 q
      subst this
      exact ⟨hv, h.ru.step hN⟩
theorem FilJ.skip (h : FilJ n N M fr s P0 P L u j) (hk : ∀ hj : j < (M u).length, fr ((M u)[j]) = false ∨ 0 ≤ P ((M u)[j])) : FilJ n N M fr s P0 P L u (j + 1) := by
  refine ⟨h.old, h.at0, h.keep, fun t ht hr hp => ?_, h.ru, h.wl⟩
  rcases h.rel t ht hr hp with q | ⟨q, q2⟩ | q
  · exact Or.inl q
  · refine Or.inr (Or.inl ⟨q, fun i hi hi' hf => ?_⟩)
    by_cases c : i < j
    · exact q2 i c hi' hf
    · have : i = j := by omega
      subst this
      rcases hk hi' with e | e
      · rw [e] at hf; cases hf
      · exact e
  · exact Or.inr (Or.inr q)
theorem FilJ.done (h : FilJ n N M fr s P0 P L u j) (hj : (M u).length ≤ j) (hN : ∀ v, N u v → v ∈ M u ∧ fr v = true) : FilL n N s P0 P L := by
  refine ⟨⟨h.old, h.at0, h.keep, fun t ht hr hp => ?_⟩, h.wl⟩
  rcases h.rel t ht hr hp with q | ⟨q, q2⟩ | q
  · exact Or.inl q
  · subst q
    refine Or.inr fun v hv => ?_
    obtain ⟨hm, hf⟩ := hN v hv
    obtain ⟨i, hi, he⟩ := List.getElem_of_mem hm
    have := q2 i (by omega) hi (by rw [he]; exact hf)
    rw [he] at this
    exact this
  · exact Or.inr q
theorem FilL.end_ (h : FilL n N s P0 P []) : Fil n N s P0 P (fun _ => False) :=
  ⟨h.f.old, h.f.at0, h.f.keep, fun t ht hr hp => by
    rcases h.f.rel t ht hr hp with q | q
    · cases q
    · exact Or.inr q⟩
/-- How many are not called yet. -/
def negP (P : Nat → Int) : Nat → Nat
  | 0 => 0
  | k + 1 => negP P k + (if P k < 0 then 1 else 0)
theorem negP_le (P : Nat → Int) : ∀ n, negP P n ≤ n
  | 0 => Nat.le_refl _
  | k + 1 => by
    have := negP_le P k
    unfold negP
    split <;> omega
theorem negP_far {P : Nat → Int} {v : Nat} {x : Int} : ∀ {n}, n ≤ v → negP (updP P v x) n = negP P n
  | 0, _ => rfl
  | k + 1, h => by
    show negP (updP P v x) k + _ = negP P k + _
    rw [negP_far (n := k) (by omega), updP_far (by omega)]
theorem negP_put {P : Nat → Int} {v : Nat} {x : Int} (hx : 0 ≤ x) (hv : P v < 0) : ∀ {n}, v < n → negP (updP P v x) n + 1 = negP P n
  | 0, h => by omega
  | k + 1, h => by
    show negP (updP P v x) k + _ + 1 = negP P k + _
    by_cases e : k = v
    · subst e
      rw [negP_far (Nat.le_refl _), updP_at, if_neg (by omega), if_pos hv]
    · have := negP_put (P := P) hx hv (n := k) (by omega)
      rw [updP_far e]
      omega
end
end Go.Proofs.Ytcgilmjhbdehpaa
/- Worlds that differ in some blocks alone. -/
namespace Go.Proofs.Ytcgilmjhbdehpaa
open Go.RowKit
set_option linter.unusedVariables false
/-- A block of bytes. -/
def U8 (w : World) (j : Nat) : Prop := ∃ cur fr, w.heap[j]? = some (.cells cur 5 fr)
theorem not_u8 (w : World) (cs : Array Value) (T : TypeId) (h : T ≠ 5) : ¬ U8 (w.alloc (.cells cs T)) w.heap.size := by
  rintro ⟨cur, fr, e⟩
  rw [Go.heap_alloc_new] at e
  injection e with e
  injection e with e1 e2
  exact h e2
theorem not_u8_of {w w' : World} {j : Nat} (h : ¬ U8 w j) (e : w'.heap[j]? = w.heap[j]?) : ¬ U8 w' j := fun ⟨cur, fr, x⟩ => h ⟨cur, fr, by rw [← e]; exact x⟩
/-- Old blocks but those of M are as they were. -/
structure Fr (M : Nat → Prop) (w w' : World) : Prop where
  os : w'.os = w.os
  tape : w'.tape = w.tape
  output : w'.output = w.output
  size : w.heap.size ≤ w'.heap.size
  block : ∀ k, k < w.heap.size → ¬ M k → w'.heap[k]? = w.heap[k]?
theorem Fr.refl (M : Nat → Prop) (w : World) : Fr M w w := ⟨rfl, rfl, rfl, Nat.le_refl _, fun _ _ _ => rfl⟩
theorem Fr.andThen {M N : Nat → Prop} {a b c : World} (h : Fr M a b) (k : Fr N b c) (hN : ∀ j, j < a.heap.size → N j → M j) : Fr M a c :=
  ⟨k.os.trans h.os, k.tape.trans h.tape, k.output.trans h.output, Nat.le_trans h.size k.size, fun j hj hm => (k.block j (Nat.lt_of_lt_of_le hj h.size) (fun n => hm (hN j hj n))).trans (h.block j hj hm)⟩
theorem Fr.trans {M : Nat → Prop} {a b c : World} (h : Fr M a b) (k : Fr M b c) : Fr M a c := h.andThen k fun _ _ x => x
theorem Fr.mono {M N : Nat → Prop} {a b : World} (h : Fr M a b) (hM : ∀ j, j < a.heap.size → M j → N j) : Fr N a b := (Fr.refl N a).andThen h hM
theorem Fr.of_below {B : Nat} {a b : World} (h : Below B a b) : Fr (fun k => B ≤ k) a b := ⟨h.os, h.tape, h.output, h.size, fun k _ hm => h.block k (by omega)⟩
theorem Fr.of_all {M : Nat → Prop} {a b : World} (h : Below a.heap.size a b) : Fr M a b := (Fr.of_below h).mono fun j hj h => by omega
theorem Fr.below {M : Nat → Prop} {B : Nat} {a b : World} (h : Fr M a b) (hB : B ≤ a.heap.size) (hM : ∀ j, j < a.heap.size → M j → B ≤ j) : Below B a b :=
  ⟨h.os, h.tape, h.output, h.size, fun k hk => h.block k (by omega) fun m => by have := hM k (by omega) m; omega⟩
theorem Fr.grown {M : Nat → Prop} {a b c : World} {row : Option Nat} (h : Fr M a b) (k : b.grownBy c row) (hM : ∀ j, j < a.heap.size → row = some j → M j) : Fr M a c :=
  h.andThen (N := fun j => row = some j) ⟨k.os, k.tape, k.output, k.size, fun j hj hm => k.block j hj fun e => hm e.symm⟩ hM
theorem Fr.setCell {M : Nat → Prop} {a b : World} (h : Fr M a b) {p : Addr} (hp : p.block < a.heap.size → M p.block) (u : Value) : Fr M a (b.setCell p u) :=
  h.andThen (N := fun j => j = p.block) ⟨rfl, rfl, rfl, by simp, fun j hj hm => Go.heap_setCell_other _ _ _ _ hm⟩ fun j hj e => by subst e; exact hp hj
theorem Fr.alloc {M : Nat → Prop} {a b : World} (h : Fr M a b) (o : Obj) : Fr M a (b.alloc o) :=
  h.andThen (Fr.of_all (M := M) ((Below.refl _ _).alloc (Nat.le_refl _) o)) fun _ _ x => x
theorem Fr.drewN {M : Nat → Prop} {a b : World} (h : Fr M a b) (n : Nat) : Fr M a (b.drewN n) := ⟨h.os, h.tape, h.output, h.size, h.block⟩
theorem Fr.drew {M : Nat → Prop} {a b : World} (h : Fr M a b) : Fr M a b.drew := ⟨h.os, h.tape, h.output, h.size, h.block⟩
theorem Fr.cell {M : Nat → Prop} {a b : World} (h : Fr M a b) {q o : Nat} (hq : q < a.heap.size) (hm : ¬ M q) : b.cell? ⟨q, o, none⟩ = a.cell? ⟨q, o, none⟩ := World.cell?_of_block (h.block q hq hm)
theorem Fr.frozen {M : Nat → Prop} {a b : World} (h : Fr M a b) {q o : Nat} (hq : q < a.heap.size) (hm : ¬ M q) : b.frozen? ⟨q, o, none⟩ = a.frozen? ⟨q, o, none⟩ := World.frozen?_of_block (h.block q hq hm)
theorem Fr.rd {M : Nat → Prop} {w w' : World} {B n : Nat} {a : Option Addr} {f : Nat → Value} (h : Rd w B a n f) (k : Fr M w w') (hB : B ≤ w.heap.size) (hm : ∀ b off, a = some ⟨b, off, none⟩ → b < w.heap.size → ¬ M b) : Rd w' B a n f := fun hn => by
  obtain ⟨b, off, e, hlt, hc⟩ := h hn
  exact ⟨b, off, e, hlt, fun j hj => (k.cell (by omega) (hm b off e (by omega))).trans (hc j hj)⟩
theorem Fr.by_ {M : Nat → Prop} {w w' : World} {B n : Nat} {a : Option Addr} {xs : List Int} (h : By w B a n xs) (k : Fr M w w') (hB : B ≤ w.heap.size) (hm : ∀ b off, a = some ⟨b, off, none⟩ → b < w.heap.size → ¬ M b) : By w' B a n xs := ⟨h.len, h.byt, k.rd h.rd hB hm⟩
theorem Fr.row {M : Nat → Prop} {w w' : World} {base size n : Nat} {e : TypeId} {v : Value} {xs : List Value} (h : w.ownsRow base e size v n xs) (k : Fr M w w') (hm : ∀ j, v.ownBlock = some j → ¬ M j) : w'.ownsRow base e size v n xs := by
  refine ⟨h.1, ?_⟩
  rcases h.2 with hn | ⟨g, cap, cur, rfl, hb, hgg, rest⟩
  · exact .inl hn
  · exact .inr ⟨g, cap, cur, rfl, hb, by rw [k.block g (Array.getElem?_eq_some_iff.1 hgg).1 (hm g rfl)]; exact hgg, rest⟩
theorem Fr.own {M : Nat → Prop} {w w' : World} {base n : Nat} {v : Value} {xs : List Int} (h : OwnB w base v n xs) (k : Fr M w w') (hm : ∀ j, v.ownBlock = some j → ¬ M j) : OwnB w' base v n xs := ⟨h.1, h.2.1, k.row h.2.2 hm⟩
end Go.Proofs.Ytcgilmjhbdehpaa
/- A block that holds an array: what its cells are, whole. -/
namespace Go.Proofs.Ytcgilmjhbdehpaa
open Go.RowKit
set_option linter.unusedVariables false
/-- Block g is n cells of type T; cell k holds f k. -/
structure Arr (w : World) (g n : Nat) (T : TypeId) (f : Nat → Value) : Prop where
  ex : ∃ cur : Array Value, w.heap[g]? = some (.cells cur T (0, 0)) ∧ cur.size = n ∧ ∀ k, k < n → cur[k]? = some (f k)
theorem Arr.lt {w : World} {g n : Nat} {T : TypeId} {f : Nat → Value} (h : Arr w g n T f) : g < w.heap.size := by
  obtain ⟨cur, e, _⟩ := h.ex
  exact (Array.getElem?_eq_some_iff.1 e).1
theorem Arr.cell {w : World} {g n : Nat} {T : TypeId} {f : Nat → Value} (h : Arr w g n T f) {k : Nat} (hk : k < n) : w.cell? ⟨g, k, none⟩ = some (f k) := by
  obtain ⟨cur, e, hs, hc⟩ := h.ex
  simp [World.cell?, e, hc k hk]
theorem Arr.frozen {w : World} {g n : Nat} {T : TypeId} {f : Nat → Value} (h : Arr w g n T f) (k : Nat) : w.frozen? ⟨g, k, none⟩ = false := by
  obtain ⟨cur, e, hs, hc⟩ := h.ex
  simp [World.frozen?, e]
theorem Arr.of_block {w w' : World} {g n : Nat} {T : TypeId} {f : Nat → Value} (h : Arr w g n T f) (e : w'.heap[g]? = w.heap[g]?) : Arr w' g n T f := by
  obtain ⟨cur, e', hs, hc⟩ := h.ex
  exact ⟨cur, by rw [e]; exact e', hs, hc⟩
theorem Arr.below {w w' : World} {B g n : Nat} {T : TypeId} {f : Nat → Value} (h : Arr w g n T f) (k : Below B w w') (hg : g < B) : Arr w' g n T f := h.of_block (k.block g hg)
theorem Arr.later {w w' : World} {g n : Nat} {T : TypeId} {f : Nat → Value} (h : Arr w g n T f) (k : Below w.heap.size w w') : Arr w' g n T f := h.below k h.lt
theorem Arr.fr {M : Nat → Prop} {w w' : World} {g n : Nat} {T : TypeId} {f : Nat → Value} (h : Arr w g n T f) (k : Fr M w w') (hm : ¬ M g) : Arr w' g n T f := h.of_block (k.block g h.lt hm)
theorem Arr.drewN {w : World} {g n : Nat} {T : TypeId} {f : Nat → Value} (h : Arr w g n T f) (m : Nat) : Arr (w.drewN m) g n T f := h.of_block rfl
theorem Arr.drew {w : World} {g n : Nat} {T : TypeId} {f : Nat → Value} (h : Arr w g n T f) : Arr w.drew g n T f := h.of_block rfl
theorem Arr.alloc {w : World} {g n : Nat} {T : TypeId} {f : Nat → Value} (h : Arr w g n T f) (o : Obj) : Arr (w.alloc o) g n T f := h.later ((Below.refl _ _).alloc (Nat.le_refl _) o)
theorem Arr.congr {w : World} {g n : Nat} {T : TypeId} {f f' : Nat → Value} (h : Arr w g n T f) (e : ∀ k, k < n → f' k = f k) : Arr w g n T f' := by
  obtain ⟨cur, e', hs, hc⟩ := h.ex
  exact ⟨cur, e', hs, fun k hk => by rw [e k hk]; exact hc k hk⟩
theorem Arr.far {w : World} {g n : Nat} {T : TypeId} {f : Nat → Value} (h : Arr w g n T f) (p : Addr) (v : Value) (hp : g ≠ p.block) : Arr (w.setCell p v) g n T f :=
  h.of_block (Go.heap_setCell_other _ _ _ _ hp)
theorem Arr.set {w : World} {g n : Nat} {T : TypeId} {f : Nat → Value} (h : Arr w g n T f) {k : Nat} (hk : k < n) (v : Value) : Arr (w.setCell ⟨g, k, none⟩ v) g n T (fun j => if j = k then v else f j) := by
  obtain ⟨cur, e, hs, hc⟩ := h.ex
  have hg := (Array.getElem?_eq_some_iff.1 e).1
  refine ⟨cur.setIfInBounds k v, ?_, by simp [hs], fun j hj => ?_⟩
  · have hge : w.heap[g] = .cells cur T (0, 0) := by simpa [hg] using e
    simp [World.setCell, hg, Array.getElem_modify, hge]
  · by_cases ej : j = k
    · subst ej; simp [hs, hj]
    · rw [Array.getElem?_setIfInBounds_ne (Ne.symm ej), if_neg ej]; exact hc j hj
theorem Arr.new (w : World) (cs : Array Value) (T : TypeId) (f : Nat → Value) (n : Nat) (hs : cs.size = n) (h : ∀ k, k < n → cs[k]? = some (f k)) : Arr (w.alloc (.cells cs T)) w.heap.size n T f :=
  ⟨cs, Go.heap_alloc_new _ _, hs, h⟩
theorem Arr.rd {w : World} {g n B : Nat} {T : TypeId} {f : Nat → Value} (h : Arr w g n T f) (hg : g < B) : Rd w B (some ⟨g, 0, none⟩) n f :=
  fun _ => ⟨g, 0, rfl, hg, fun k hk => by rw [Nat.zero_add]; exact h.cell hk⟩
theorem Arr.own {w : World} {base g n : Nat} {T : TypeId} {xs : List Value} (h : w.ownsRow base T 1 (.slice (some ⟨g, 0, none⟩) n n) n xs) (f : Nat → Value) (e : ∀ k, k < n → xs[k]? = some (f k)) : Arr w g n T f := by
  rcases h.2 with ⟨hv, _⟩ | ⟨g', cap, cur, hv, hb, hg, h1, h2, h3, h4⟩
  · simp at hv
  · simp at hv
    obtain ⟨rfl, rfl⟩ := hv
    refine ⟨cur, hg, by omega, fun k hk => ?_⟩
    have := e k hk
    rw [← h4, List.getElem?_take, if_pos (by omega)] at this
    simpa using this
theorem made_at (z : Value) (n k : Nat) (hk : k < n) : ((madeCells #[z] (n * 1)).toList)[k]? = some z := by
  unfold madeCells
  simp [hk]
  rw [Nat.mod_one]; rfl
theorem Arr.made {w : World} {base g n : Nat} {T : TypeId} {z : Value} (h : w.ownsRow base T 1 (.slice (some ⟨g, 0, none⟩) n n) n (madeCells z.cells (n * 1)).toList) (hz : z.cells = #[z]) : Arr w g n T (fun _ => z) :=
  Arr.own h _ fun k hk => by rw [hz]; exact made_at z n k hk
theorem below_grown {w w' : World} (h : w.grownBy w' none) : Below w.heap.size w w' := (Below.refl _ _).grown h (Nat.le_refl _) (fun _ h => by cases h)
end Go.Proofs.Ytcgilmjhbdehpaa
/- Plain words of layer 6: grounds. -/
namespace Go.Proofs.Ytcgilmjhbdehpaa
/-- May this be a ground? -/
def gB (W H : Int) (n : Nat) (xs : List Int) : Bool := decide (1 ≤ W ∧ W ≤ 128 ∧ 1 ≤ H ∧ H ≤ 128 ∧ (n : Int) = W * H ∧ ∀ x ∈ xs, x ≤ 5)
def gE (W H : Int) (n : Nat) (xs : List Int) : Int := if gB W H n xs = true then 0 else 1
structure GOk (W H : Int) (n : Nat) (xs : List Int) : Prop where
  w1 : 1 ≤ W
  w2 : W ≤ 128
  h1 : 1 ≤ H
  h2 : H ≤ 128
  nn : (n : Int) = W * H
  ts : ∀ x ∈ xs, x ≤ 5
theorem gB_iff {W H : Int} {n : Nat} {xs : List Int} : gB W H n xs = true ↔ GOk W H n xs := by
  unfold gB
  rw [decide_eq_true_iff]
  exact ⟨fun ⟨a, b, c, d, e, f⟩ => ⟨a, b, c, d, e, f⟩, fun ⟨a, b, c, d, e, f⟩ => ⟨a, b, c, d, e, f⟩⟩
theorem gE_yes {W H : Int} {n : Nat} {xs : List Int} (h : GOk W H n xs) : gE W H n xs = 0 := by unfold gE; rw [if_pos (gB_iff.2 h)]
theorem gE_no {W H : Int} {n : Nat} {xs : List Int} (h : ¬ GOk W H n xs) : gE W H n xs = 1 := by unfold gE; rw [if_neg (fun g => h (gB_iff.1 g))]
theorem gB_yes {W H : Int} {n : Nat} {xs : List Int} (h : GOk W H n xs) : gB W H n xs = true := gB_iff.2 h
theorem gB_no {W H : Int} {n : Nat} {xs : List Int} (h : ¬ GOk W H n xs) : gB W H n xs = false := by
  cases e : gB W H n xs
  · rfl
  · exact absurd (gB_iff.1 e) h
theorem mul_bd {W H : Int} (w1 : 1 ≤ W) (w2 : W ≤ 128) (h1 : 1 ≤ H) (h2 : H ≤ 128) : 1 ≤ W * H ∧ W * H ≤ 16384 := by
  have a := Int.mul_le_mul w2 h2 (by omega) (by omega)
  have b := Int.mul_le_mul w1 h1 (by omega) (by omega)
  omega
/-- What stands of a ground before its tiles are looked at. -/
structure GHd (W H : Int) (n : Nat) : Prop where
  w1 : 1 ≤ W
  w2 : W ≤ 128
  h1 : 1 ≤ H
  h2 : H ≤ 128
  nn : (n : Int) = W * H
end Go.Proofs.Ytcgilmjhbdehpaa
/- The contracts of package ground: whether it may be; of the program and of the reference. -/
namespace Go.Proofs.Ytcgilmjhbdehpaa
open Go.RowKit
set_option linter.unusedVariables false
def I64' (x : Int) : Prop := -9223372036854775808 ≤ x ∧ x ≤ 9223372036854775807
theorem rbo {a b : Bool} (h : a = b) : Ending.returned (.bool a) = .returned (.bool b) := by rw [h]
end Go.Proofs.Ytcgilmjhbdehpaa
/- Layer 6: whether a number is a tile's. -/
namespace Go.Proofs.Ytcgilmjhbdehpaa
open Go.RowKit
set_option linter.unusedVariables false
theorem bcellg {W w1 : World} (hb : Below W.heap.size W w1) : (∀ b o, b < W.heap.size → w1.cell? ⟨b, o, none⟩ = W.cell? ⟨b, o, none⟩) ∧ (∀ b o, b < W.heap.size → w1.frozen? ⟨b, o, none⟩ = W.frozen? ⟨b, o, none⟩) :=
  ⟨fun b o h => hb.cell (p := ⟨b, o, none⟩) h, fun b o h => hb.frozen (p := ⟨b, o, none⟩) h⟩
def ctE (W H : Int) (n : Nat) (xs : List Int) (t : Int) : Int := if gB W H n xs = true then (if 0 ≤ t ∧ t < W * H then 0 else 3) else 1
theorem ctE_yes {W H t : Int} {n : Nat} {xs : List Int} (g : GOk W H n xs) (h0 : 0 ≤ t) (h1 : t < W * H) : ctE W H n xs t = 0 := by unfold ctE; rw [if_pos (gB_yes g), if_pos ⟨h0, h1⟩]
theorem ctE_none {W H t : Int} {n : Nat} {xs : List Int} (g : GOk W H n xs) (h : ¬ (0 ≤ t ∧ t < W * H)) : ctE W H n xs t = 3 := by unfold ctE; rw [if_pos (gB_yes g), if_neg h]
theorem ctE_form {W H t : Int} {n : Nat} {xs : List Int} (g : ¬ GOk W H n xs) : ctE W H n xs t = 1 := by unfold ctE; rw [if_neg (by rw [gB_no g]; decide)]
end Go.Proofs.Ytcgilmjhbdehpaa
