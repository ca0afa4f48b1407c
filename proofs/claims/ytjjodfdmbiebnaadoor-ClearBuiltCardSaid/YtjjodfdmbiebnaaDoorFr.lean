/- Worlds that differ in some blocks alone. -/
import Derived.Test.YtjjodfdmbiebnaaDoorBya
namespace Go.Proofs.YtjjodfdmbiebnaaDoor
open Go.RowKit
set_option linter.unusedVariables false
/-- A block of bytes. -/
def U8 (w : World) (j : Nat) : Prop := ∃ cur fr, w.heap[j]? = some (.cells cur 5 fr)
theorem not_u8 (w : World) (cs : Array Value) (T : TypeId) (h : T ≠ 5) : ¬ U8 (w.alloc (.cells cs T)) w.heap.size := by
  rintro ⟨cur, fr, e⟩
  rw [Go.heap_alloc_new] at e
  injection e with e
  injection e with e1 e2
  exact h e2
theorem not_u8_of {w w' : World} {j : Nat} (h : ¬ U8 w j) (e : w'.heap[j]? = w.heap[j]?) : ¬ U8 w' j := fun ⟨cur, fr, x⟩ => h ⟨cur, fr, by rw [← e]; exact x⟩
/-- Old blocks but those of M are as they were. -/
structure Fr (M : Nat → Prop) (w w' : World) : Prop where
  os : w'.os = w.os
  tape : w'.tape = w.tape
  output : w'.output = w.output
  size : w.heap.size ≤ w'.heap.size
  block : ∀ k, k < w.heap.size → ¬ M k → w'.heap[k]? = w.heap[k]?
theorem Fr.refl (M : Nat → Prop) (w : World) : Fr M w w := ⟨rfl, rfl, rfl, Nat.le_refl _, fun _ _ _ => rfl⟩
theorem Fr.andThen {M N : Nat → Prop} {a b c : World} (h : Fr M a b) (k : Fr N b c) (hN : ∀ j, j < a.heap.size → N j → M j) : Fr M a c :=
  ⟨k.os.trans h.os, k.tape.trans h.tape, k.output.trans h.output, Nat.le_trans h.size k.size, fun j hj hm => (k.block j (Nat.lt_of_lt_of_le hj h.size) (fun n => hm (hN j hj n))).trans (h.block j hj hm)⟩
theorem Fr.trans {M : Nat → Prop} {a b c : World} (h : Fr M a b) (k : Fr M b c) : Fr M a c := h.andThen k fun _ _ x => x
theorem Fr.mono {M N : Nat → Prop} {a b : World} (h : Fr M a b) (hM : ∀ j, j < a.heap.size → M j → N j) : Fr N a b := (Fr.refl N a).andThen h hM
theorem Fr.of_below {B : Nat} {a b : World} (h : Below B a b) : Fr (fun k => B ≤ k) a b := ⟨h.os, h.tape, h.output, h.size, fun k _ hm => h.block k (by omega)⟩
theorem Fr.of_all {M : Nat → Prop} {a b : World} (h : Below a.heap.size a b) : Fr M a b := (Fr.of_below h).mono fun j hj h => by omega
theorem Fr.below {M : Nat → Prop} {B : Nat} {a b : World} (h : Fr M a b) (hB : B ≤ a.heap.size) (hM : ∀ j, j < a.heap.size → M j → B ≤ j) : Below B a b :=
  ⟨h.os, h.tape, h.output, h.size, fun k hk => h.block k (by omega) fun m => by have := hM k (by omega) m; omega⟩
theorem Fr.grown {M : Nat → Prop} {a b c : World} {row : Option Nat} (h : Fr M a b) (k : b.grownBy c row) (hM : ∀ j, j < a.heap.size → row = some j → M j) : Fr M a c :=
  h.andThen (N := fun j => row = some j) ⟨k.os, k.tape, k.output, k.size, fun j hj hm => k.block j hj fun e => hm e.symm⟩ hM
theorem Fr.setCell {M : Nat → Prop} {a b : World} (h : Fr M a b) {p : Addr} (hp : p.block < a.heap.size → M p.block) (u : Value) : Fr M a (b.setCell p u) :=
  h.andThen (N := fun j => j = p.block) ⟨rfl, rfl, rfl, by simp, fun j hj hm => Go.heap_setCell_other _ _ _ _ hm⟩ fun j hj e => by subst e; exact hp hj
theorem Fr.alloc {M : Nat → Prop} {a b : World} (h : Fr M a b) (o : Obj) : Fr M a (b.alloc o) :=
  h.andThen (Fr.of_all (M := M) ((Below.refl _ _).alloc (Nat.le_refl _) o)) fun _ _ x => x
theorem Fr.drewN {M : Nat → Prop} {a b : World} (h : Fr M a b) (n : Nat) : Fr M a (b.drewN n) := ⟨h.os, h.tape, h.output, h.size, h.block⟩
theorem Fr.drew {M : Nat → Prop} {a b : World} (h : Fr M a b) : Fr M a b.drew := ⟨h.os, h.tape, h.output, h.size, h.block⟩
theorem Fr.cell {M : Nat → Prop} {a b : World} (h : Fr M a b) {q o : Nat} (hq : q < a.heap.size) (hm : ¬ M q) : b.cell? ⟨q, o, none⟩ = a.cell? ⟨q, o, none⟩ := World.cell?_of_block (h.block q hq hm)
theorem Fr.frozen {M : Nat → Prop} {a b : World} (h : Fr M a b) {q o : Nat} (hq : q < a.heap.size) (hm : ¬ M q) : b.frozen? ⟨q, o, none⟩ = a.frozen? ⟨q, o, none⟩ := World.frozen?_of_block (h.block q hq hm)
theorem Fr.rd {M : Nat → Prop} {w w' : World} {B n : Nat} {a : Option Addr} {f : Nat → Value} (h : Rd w B a n f) (k : Fr M w w') (hB : B ≤ w.heap.size) (hm : ∀ b off, a = some ⟨b, off, none⟩ → b < w.heap.size → ¬ M b) : Rd w' B a n f := fun hn => by
  obtain ⟨b, off, e, hlt, hc⟩ := h hn
  exact ⟨b, off, e, hlt, fun j hj => (k.cell (by omega) (hm b off e (by omega))).trans (hc j hj)⟩
theorem Fr.by_ {M : Nat → Prop} {w w' : World} {B n : Nat} {a : Option Addr} {xs : List Int} (h : By w B a n xs) (k : Fr M w w') (hB : B ≤ w.heap.size) (hm : ∀ b off, a = some ⟨b, off, none⟩ → b < w.heap.size → ¬ M b) : By w' B a n xs := ⟨h.len, h.byt, k.rd h.rd hB hm⟩
theorem Fr.row {M : Nat → Prop} {w w' : World} {base size n : Nat} {e : TypeId} {v : Value} {xs : List Value} (h : w.ownsRow base e size v n xs) (k : Fr M w w') (hm : ∀ j, v.ownBlock = some j → ¬ M j) : w'.ownsRow base e size v n xs := by
  refine ⟨h.1, ?_⟩
  rcases h.2 with hn | ⟨g, cap, cur, rfl, hb, hgg, rest⟩
  · exact .inl hn
  · exact .inr ⟨g, cap, cur, rfl, hb, by rw [k.block g (Array.getElem?_eq_some_iff.1 hgg).1 (hm g rfl)]; exact hgg, rest⟩
theorem Fr.own {M : Nat → Prop} {w w' : World} {base n : Nat} {v : Value} {xs : List Int} (h : OwnB w base v n xs) (k : Fr M w w') (hm : ∀ j, v.ownBlock = some j → ¬ M j) : OwnB w' base v n xs := ⟨h.1, h.2.1, k.row h.2.2 hm⟩
end Go.Proofs.YtjjodfdmbiebnaaDoor
