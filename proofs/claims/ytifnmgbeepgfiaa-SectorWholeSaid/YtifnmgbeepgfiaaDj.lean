import Derived.Test.YtifnmgbeepgfiaaDi
import Derived.Test.YtifnmgbeepgfiaaDg
import Derived.Maps.AppendAt
import Derived.Test.YtifnmgbeepgfiaaDb
import Derived.WalkKit
import Derived.Below
import Derived.Test.YtifnmgbeepgfiaaProg
import Derived.OwnWalk
/- Layer 6: the neighbours of a tile. -/
namespace Go.Proofs.Ytifnmgbeepgfiaa
open Go.RowKit
set_option linter.unusedVariables false
/-- The eight cells of the answer under way, and the result's behind. -/
structure N8 (w0 w : World) (F : Nat → Int) : Prop where
  c : ∀ j, j < 8 → w.cell? ⟨w0.heap.size + 1, j, none⟩ = some (.int .i64 (F j))
  f : ∀ j, w.frozen? ⟨w0.heap.size + 1, j, none⟩ = false
  d : ∀ j, j < 8 → w.cell? ⟨w0.heap.size, j, none⟩ = some (.int .i64 0)
  g : ∀ j, w.frozen? ⟨w0.heap.size, j, none⟩ = false
  hs : w0.heap.size + 1 < w.heap.size
  hB : Below w0.heap.size w0 w
theorem N8.next {w0 w w' : World} {F : Nat → Int} (h : N8 w0 w F) (hb : Below w.heap.size w w') : N8 w0 w' F := by
  have hs := h.hs
  have a0 : w0.heap.size < w.heap.size := by omega
  exact ⟨fun j hj => (hb.cell (p := ⟨w0.heap.size + 1, j, none⟩) hs).trans (h.c j hj), fun j => (hb.frozen (p := ⟨w0.heap.size + 1, j, none⟩) hs).trans (h.f j),
    fun j hj => (hb.cell (p := ⟨w0.heap.size, j, none⟩) a0).trans (h.d j hj), fun j => (hb.frozen (p := ⟨w0.heap.size, j, none⟩) a0).trans (h.g j), Nat.lt_of_lt_of_le hs hb.size, h.hB.trans (hb.mono h.hB.size)⟩
theorem N8.alloc {w0 w : World} {F : Nat → Int} (h : N8 w0 w F) (o : Obj) : N8 w0 (w.alloc o) F := h.next ((Below.refl _ _).alloc (Nat.le_refl _) _)
theorem N8.drewN {w0 w : World} {F : Nat → Int} (h : N8 w0 w F) (n : Nat) : N8 w0 (w.drewN n) F := ⟨h.c, h.f, h.d, h.g, h.hs, below_drewN h.hB n⟩
theorem N8.set {w0 w : World} {F G : Nat → Int} (h : N8 w0 w F) (k : Nat) (v : Int) (hk : k < 8) (e : G k = v) (e' : ∀ j, j < 8 → j ≠ k → G j = F j) : N8 w0 (w.setCell ⟨w0.heap.size + 1, k, none⟩ (.int .i64 v)) G := by
  refine ⟨fun j hj => ?_, fun j => ?_, fun j hj => ?_, fun j => ?_, ?_, ?_⟩
  · by_cases ej : j = k
    · subst ej; rw [e]; exact World.cell?_setCell_same _ _ _ (u := .int .i64 (F j)) (h.c j hj)
    · rw [World.cell?_setCell_other _ _ _ _ (by simp <;> omega), e' j hj ej]; exact h.c j hj
  · simpa using h.f j
  · rw [World.cell?_setCell_other _ _ _ _ (by simp)]; exact h.d j hj
  · simpa using h.g j
  · simpa using h.hs
  · exact h.hB.setCell (by simp) _
theorem nbS_yes {W H t dx dy : Int} (a : 0 ≤ t % W + dx) (b : t % W + dx < W) (c : 0 ≤ t / W + dy) (d : t / W + dy < H) : nbS W H t dx dy = t % W + dx + W * (t / W + dy) := by unfold nbS; rw [if_pos ⟨a, b, c, d⟩]
theorem nbS_no {W H t dx dy : Int} (h : ¬ (0 ≤ t % W + dx ∧ t % W + dx < W ∧ 0 ≤ t / W + dy ∧ t / W + dy < H)) : nbS W H t dx dy = -1 := by unfold nbS; rw [if_neg h]
theorem d_bd (k : Nat) : (-1 ≤ dxL.getD k 0 ∧ dxL.getD k 0 ≤ 1) ∧ (-1 ≤ dyL.getD k 0 ∧ dyL.getD k 0 ≤ 1) := by
  by_cases h : k < 8
  · match k, h with
    | 0, _ | 1, _ | 2, _ | 3, _ | 4, _ | 5, _ | 6, _ | 7, _ => decide
  · have e1 : dxL.getD k 0 = 0 := by unfold dxL; simp [List.getD]; rw [List.getElem?_eq_none (by simp; omega)]; rfl
    have e2 : dyL.getD k 0 = 0 := by unfold dyL; simp [List.getD]; rw [List.getElem?_eq_none (by simp; omega)]; rfl
    rw [e1, e2]; omega
end Go.Proofs.Ytifnmgbeepgfiaa
/- Layer 6: the list of neighbours; lists compared. -/
namespace Go.Proofs.Ytifnmgbeepgfiaa
open Go.RowKit
set_option linter.unusedVariables false
/-- What the neighbours' list is: new memory. -/
def NearR (w : World) (xs : List Int) (e : Ending) (w' : World) : Prop := ∃ g, e = .returned (.tuple #[.slice (some ⟨g, 0, none⟩) 8 8, .int .i64 0]) ∧ w.heap.size ≤ g ∧ g < w'.heap.size ∧ xs.length = 8 ∧ (∀ j, j < 8 → w'.cell? ⟨g, j, none⟩ = some (.int .i64 (xs.getD j 0))) ∧ (∀ j, w'.frozen? ⟨g, j, none⟩ = false) ∧ Below w.heap.size w w'
theorem nb_lit (w2 : World) (W H t : Int) (T : TypeId) : ∀ j, j < 8 → (w2.alloc (.cells #[.int .i64 (nb W H t 0), .int .i64 (nb W H t 1), .int .i64 (nb W H t 2), .int .i64 (nb W H t 3), .int .i64 (nb W H t 4), .int .i64 (nb W H t 5), .int .i64 (nb W H t 6), .int .i64 (nb W H t 7)] T)).cell? ⟨w2.heap.size, j, none⟩ = some (.int .i64 ((nbL W H t).getD j 0)) := fun j hj => by
  match j, hj with
  | 0, _ | 1, _ | 2, _ | 3, _ | 4, _ | 5, _ | 6, _ | 7, _ => (rw [World.cell?_alloc_mark]; rfl)
theorem eqn_yes (a a' : Option Addr) (n c c' B B' : Nat) (xs : List Int) (w : World) (h : Nq w B a n xs) (h' : Nq w B' a' n xs) (hn : n ≤ 1099511627776) :
    Calls Try.prog 12 #[.slice a n c, .slice a' n c'] w fun e w' => e = .returned (.bool true) ∧ ∃ m, w' = w.drewN m := by
  have H := Hk.mk h
  have H' := Hk.mk h'
  clear h h'
  go_enter Try.func12, Try.ntmps12
  go_wp2
  go_loopw [5] (fun i wr => ∃ k : Nat, k ≤ n ∧ i = .int .i64 k ∧ Hk (∃ m, wr = w.drewN m)) (fun i _ => n - (intOf i).toNat)
  case atStart => exact ⟨0, Nat.zero_le _, rfl, ⟨0, rfl⟩⟩
  case round =>
    obtain ⟨k, hk, rfl, HB⟩ := hrel
    by_cases hlt : k < n
    · obtain ⟨b, off, rfl, hbl, hc⟩ := H.out.rd (by omega)
      obtain ⟨b', off', rfl, hbl', hc'⟩ := H'.out.rd (by omega)
      have hcx : wr.cell? ⟨b, off + k, none⟩ = some (.int .i64 (xs.getD k 0)) := by obtain ⟨m, rfl⟩ := HB.out; exact hc k hlt
      have hcy : wr.cell? ⟨b', off' + k, none⟩ = some (.int .i64 (xs.getD k 0)) := by obtain ⟨m, rfl⟩ := HB.out; exact hc' k hlt
      clear hc hc'
      generalize xs.getD k 0 = x at *
      have i1 : (0 : Int) ≤ (k : Int) := by omega
      have i2 : (k : Int) < (n : Int) := by omega
      go_wp2
      go_quiet (fail)
      go_wp2
      go_roundw
      case rel => exact ⟨k + 1, by omega, by go_num, ⟨by obtain ⟨m, rfl⟩ := HB.out; exact ⟨_, by rw [World.drewN_drewN]⟩⟩⟩
      case measure => simp [intOf]; omega
    · have hkn : k = n := by omega
      subst hkn
      go_wp2
      go_ret
      exact ⟨rfl, HB.out⟩
end Go.Proofs.Ytifnmgbeepgfiaa
/- Layer 6: the list of neighbours, of the reference. -/
namespace Go.Proofs.Ytifnmgbeepgfiaa
open Go.RowKit
set_option linter.unusedVariables false
theorem ow_weak {w : World} {base base' n : Nat} {v : Value} {xs : List Value} {E : TypeId} {sz : Nat} (h : w.ownsRow base E sz v n xs) (hb : base' ≤ base) : w.ownsRow base' E sz v n xs := by
  refine ⟨h.1, ?_⟩
  rcases h.2 with e | ⟨g, cap, cur, e1, hg, e2⟩
  · exact .inl e
  · exact .inr ⟨g, cap, cur, e1, by omega, e2⟩
theorem info_int : (Try.prog.info? 3).map (fun i => (i.zero, i.size, i.bytes)) = some (some (.int .i64 0), 1, 8) := by kernel_rfl
theorem rn_step {W H t v : Int} {k : Nat} {w1 : World} {B : Nat} {v' : Value} (e : nb W H t k = v) (hk : k < 8) (h : w1.ownsRow B 3 1 v' (k + 1) (((nbL W H t).map (Value.int .i64)).take k ++ [.int .i64 v])) : w1.ownsRow B 3 1 v' (k + 1) (((nbL W H t).take (k + 1)).map (Value.int .i64)) := by
  have e1 : (nbL W H t).take (k + 1) = (nbL W H t).take k ++ [v] := by
    rw [List.take_succ_eq_append_getElem (by unfold nbL; simpa using hk)]
    congr 1
    unfold nbL
    simp [← e]
  rw [e1, List.map_append, List.map_take]
  exact h
end Go.Proofs.Ytifnmgbeepgfiaa
/- Worlds that differ in some blocks alone. -/
namespace Go.Proofs.Ytifnmgbeepgfiaa
open Go.RowKit
set_option linter.unusedVariables false
/-- A block of bytes. -/
def U8 (w : World) (j : Nat) : Prop := ∃ cur fr, w.heap[j]? = some (.cells cur 5 fr)
theorem not_u8 (w : World) (cs : Array Value) (T : TypeId) (h : T ≠ 5) : ¬ U8 (w.alloc (.cells cs T)) w.heap.size := by
  rintro ⟨cur, fr, e⟩
  rw [Go.heap_alloc_new] at e
  injection e with e
  injection e with e1 e2
  exact h e2
theorem not_u8_of {w w' : World} {j : Nat} (h : ¬ U8 w j) (e : w'.heap[j]? = w.heap[j]?) : ¬ U8 w' j := fun ⟨cur, fr, x⟩ => h ⟨cur, fr, by rw [← e]; exact x⟩
/-- Old blocks but those of M are as they were. -/
structure Fr (M : Nat → Prop) (w w' : World) : Prop where
  os : w'.os = w.os
  tape : w'.tape = w.tape
  output : w'.output = w.output
  size : w.heap.size ≤ w'.heap.size
  block : ∀ k, k < w.heap.size → ¬ M k → w'.heap[k]? = w.heap[k]?
theorem Fr.refl (M : Nat → Prop) (w : World) : Fr M w w := ⟨rfl, rfl, rfl, Nat.le_refl _, fun _ _ _ => rfl⟩
theorem Fr.andThen {M N : Nat → Prop} {a b c : World} (h : Fr M a b) (k : Fr N b c) (hN : ∀ j, j < a.heap.size → N j → M j) : Fr M a c :=
  ⟨k.os.trans h.os, k.tape.trans h.tape, k.output.trans h.output, Nat.le_trans h.size k.size, fun j hj hm => (k.block j (Nat.lt_of_lt_of_le hj h.size) (fun n => hm (hN j hj n))).trans (h.block j hj hm)⟩
theorem Fr.trans {M : Nat → Prop} {a b c : World} (h : Fr M a b) (k : Fr M b c) : Fr M a c := h.andThen k fun _ _ x => x
theorem Fr.mono {M N : Nat → Prop} {a b : World} (h : Fr M a b) (hM : ∀ j, j < a.heap.size → M j → N j) : Fr N a b := (Fr.refl N a).andThen h hM
theorem Fr.of_below {B : Nat} {a b : World} (h : Below B a b) : Fr (fun k => B ≤ k) a b := ⟨h.os, h.tape, h.output, h.size, fun k _ hm => h.block k (by omega)⟩
theorem Fr.of_all {M : Nat → Prop} {a b : World} (h : Below a.heap.size a b) : Fr M a b := (Fr.of_below h).mono fun j hj h => by omega
theorem Fr.below {M : Nat → Prop} {B : Nat} {a b : World} (h : Fr M a b) (hB : B ≤ a.heap.size) (hM : ∀ j, j < a.heap.size → M j → B ≤ j) : Below B a b :=
  ⟨h.os, h.tape, h.output, h.size, fun k hk => h.block k (by omega) fun m => by have := hM k (by omega) m; omega⟩
theorem Fr.grown {M : Nat → Prop} {a b c : World} {row : Option Nat} (h : Fr M a b) (k : b.grownBy c row) (hM : ∀ j, j < a.heap.size → row = some j → M j) : Fr M a c :=
  h.andThen (N := fun j => row = some j) ⟨k.os, k.tape, k.output, k.size, fun j hj hm => k.block j hj fun e => hm e.symm⟩ hM
theorem Fr.setCell {M : Nat → Prop} {a b : World} (h : Fr M a b) {p : Addr} (hp : p.block < a.heap.size → M p.block) (u : Value) : Fr M a (b.setCell p u) :=
  h.andThen (N := fun j => j = p.block) ⟨rfl, rfl, rfl, by simp, fun j hj hm => Go.heap_setCell_other _ _ _ _ hm⟩ fun j hj e => by subst e; exact hp hj
theorem Fr.alloc {M : Nat → Prop} {a b : World} (h : Fr M a b) (o : Obj) : Fr M a (b.alloc o) :=
  h.andThen (Fr.of_all (M := M) ((Below.refl _ _).alloc (Nat.le_refl _) o)) fun _ _ x => x
theorem Fr.drewN {M : Nat → Prop} {a b : World} (h : Fr M a b) (n : Nat) : Fr M a (b.drewN n) := ⟨h.os, h.tape, h.output, h.size, h.block⟩
theorem Fr.drew {M : Nat → Prop} {a b : World} (h : Fr M a b) : Fr M a b.drew := ⟨h.os, h.tape, h.output, h.size, h.block⟩
theorem Fr.cell {M : Nat → Prop} {a b : World} (h : Fr M a b) {q o : Nat} (hq : q < a.heap.size) (hm : ¬ M q) : b.cell? ⟨q, o, none⟩ = a.cell? ⟨q, o, none⟩ := World.cell?_of_block (h.block q hq hm)
theorem Fr.frozen {M : Nat → Prop} {a b : World} (h : Fr M a b) {q o : Nat} (hq : q < a.heap.size) (hm : ¬ M q) : b.frozen? ⟨q, o, none⟩ = a.frozen? ⟨q, o, none⟩ := World.frozen?_of_block (h.block q hq hm)
theorem Fr.rd {M : Nat → Prop} {w w' : World} {B n : Nat} {a : Option Addr} {f : Nat → Value} (h : Rd w B a n f) (k : Fr M w w') (hB : B ≤ w.heap.size) (hm : ∀ b off, a = some ⟨b, off, none⟩ → b < w.heap.size → ¬ M b) : Rd w' B a n f := fun hn => by
  obtain ⟨b, off, e, hlt, hc⟩ := h hn
  exact ⟨b, off, e, hlt, fun j hj => (k.cell (by omega) (hm b off e (by omega))).trans (hc j hj)⟩
theorem Fr.by_ {M : Nat → Prop} {w w' : World} {B n : Nat} {a : Option Addr} {xs : List Int} (h : By w B a n xs) (k : Fr M w w') (hB : B ≤ w.heap.size) (hm : ∀ b off, a = some ⟨b, off, none⟩ → b < w.heap.size → ¬ M b) : By w' B a n xs := ⟨h.len, h.byt, k.rd h.rd hB hm⟩
theorem Fr.row {M : Nat → Prop} {w w' : World} {base size n : Nat} {e : TypeId} {v : Value} {xs : List Value} (h : w.ownsRow base e size v n xs) (k : Fr M w w') (hm : ∀ j, v.ownBlock = some j → ¬ M j) : w'.ownsRow base e size v n xs := by
  refine ⟨h.1, ?_⟩
  rcases h.2 with hn | ⟨g, cap, cur, rfl, hb, hgg, rest⟩
  · exact .inl hn
  · exact .inr ⟨g, cap, cur, rfl, hb, by rw [k.block g (Array.getElem?_eq_some_iff.1 hgg).1 (hm g rfl)]; exact hgg, rest⟩
theorem Fr.own {M : Nat → Prop} {w w' : World} {base n : Nat} {v : Value} {xs : List Int} (h : OwnB w base v n xs) (k : Fr M w w') (hm : ∀ j, v.ownBlock = some j → ¬ M j) : OwnB w' base v n xs := ⟨h.1, h.2.1, k.row h.2.2 hm⟩
end Go.Proofs.Ytifnmgbeepgfiaa
/- Rules by which a walk reads old cells in a later world. -/
namespace Go.Proofs.Ytifnmgbeepgfiaa
open Go.RowKit
theorem kw_rules {N : Nat} {W X : World} (h : Below N W X) (hN : N ≤ W.heap.size) :
    (∀ b o, b < N → X.cell? ⟨b, o, none⟩ = W.cell? ⟨b, o, none⟩) ∧ (∀ b o, b < N → X.frozen? ⟨b, o, none⟩ = W.frozen? ⟨b, o, none⟩) ∧ (∀ b, b < N → b < X.heap.size) ∧ (∀ b, b < N → ¬ b = X.heap.size) ∧ (∀ b, b < N → ¬ X.heap.size = b) := by
  have hs := h.size
  exact ⟨fun b o hb => h.cell (p := ⟨b, o, none⟩) hb, fun b o hb => h.frozen (p := ⟨b, o, none⟩) hb, fun b hb => by omega, fun b hb => by omega, fun b hb => by omega⟩
theorem kw_step {N : Nat} {W X Y : World} (h : Below N W X) (hN : N ≤ W.heap.size) (hb : Below X.heap.size X Y) : Below N W Y := h.trans (hb.mono (Nat.le_trans hN h.size))
theorem kw_drew {N : Nat} {W X : World} (h : Below N W X) : Below N W X.drew := h.drew
theorem bset {B : Nat} {w X : World} (h : Below B w X) {b : Nat} (off : Nat) (hb : B ≤ b) (v : Value) : Below B w (X.setCell ⟨b, off, none⟩ v) := Below.setCell (p := ⟨b, off, none⟩) h hb v
theorem kw_S {N : Nat} {W X : World} (h : Below N W X) : (∀ b o, b < N → X.cell? ⟨b, o, none⟩ = W.cell? ⟨b, o, none⟩) ∧ Below N W X := ⟨fun b o hb => h.cell (p := ⟨b, o, none⟩) hb, h⟩
theorem kw_size {N : Nat} {W X : World} (h : Below N W X) (hN : N ≤ W.heap.size) : N ≤ X.heap.size := Nat.le_trans hN h.size
end Go.Proofs.Ytifnmgbeepgfiaa
/- A block that holds an array: what its cells are, whole. -/
namespace Go.Proofs.Ytifnmgbeepgfiaa
open Go.RowKit
set_option linter.unusedVariables false
/-- Block g is n cells of type T; cell k holds f k. -/
structure Arr (w : World) (g n : Nat) (T : TypeId) (f : Nat → Value) : Prop where
  ex : ∃ cur : Array Value, w.heap[g]? = some (.cells cur T (0, 0)) ∧ cur.size = n ∧ ∀ k, k < n → cur[k]? = some (f k)
theorem Arr.lt {w : World} {g n : Nat} {T : TypeId} {f : Nat → Value} (h : Arr w g n T f) : g < w.heap.size := by
  obtain ⟨cur, e, _⟩ := h.ex
  exact (Array.getElem?_eq_some_iff.1 e).1
theorem Arr.cell {w : World} {g n : Nat} {T : TypeId} {f : Nat → Value} (h : Arr w g n T f) {k : Nat} (hk : k < n) : w.cell? ⟨g, k, none⟩ = some (f k) := by
  obtain ⟨cur, e, hs, hc⟩ := h.ex
  simp [World.cell?, e, hc k hk]
theorem Arr.frozen {w : World} {g n : Nat} {T : TypeId} {f : Nat → Value} (h : Arr w g n T f) (k : Nat) : w.frozen? ⟨g, k, none⟩ = false := by
  obtain ⟨cur, e, hs, hc⟩ := h.ex
  simp [World.frozen?, e]
theorem Arr.of_block {w w' : World} {g n : Nat} {T : TypeId} {f : Nat → Value} (h : Arr w g n T f) (e : w'.heap[g]? = w.heap[g]?) : Arr w' g n T f := by
  obtain ⟨cur, e', hs, hc⟩ := h.ex
  exact ⟨cur, by rw [e]; exact e', hs, hc⟩
theorem Arr.below {w w' : World} {B g n : Nat} {T : TypeId} {f : Nat → Value} (h : Arr w g n T f) (k : Below B w w') (hg : g < B) : Arr w' g n T f := h.of_block (k.block g hg)
theorem Arr.later {w w' : World} {g n : Nat} {T : TypeId} {f : Nat → Value} (h : Arr w g n T f) (k : Below w.heap.size w w') : Arr w' g n T f := h.below k h.lt
theorem Arr.fr {M : Nat → Prop} {w w' : World} {g n : Nat} {T : TypeId} {f : Nat → Value} (h : Arr w g n T f) (k : Fr M w w') (hm : ¬ M g) : Arr w' g n T f := h.of_block (k.block g h.lt hm)
theorem Arr.drewN {w : World} {g n : Nat} {T : TypeId} {f : Nat → Value} (h : Arr w g n T f) (m : Nat) : Arr (w.drewN m) g n T f := h.of_block rfl
theorem Arr.drew {w : World} {g n : Nat} {T : TypeId} {f : Nat → Value} (h : Arr w g n T f) : Arr w.drew g n T f := h.of_block rfl
theorem Arr.alloc {w : World} {g n : Nat} {T : TypeId} {f : Nat → Value} (h : Arr w g n T f) (o : Obj) : Arr (w.alloc o) g n T f := h.later ((Below.refl _ _).alloc (Nat.le_refl _) o)
theorem Arr.congr {w : World} {g n : Nat} {T : TypeId} {f f' : Nat → Value} (h : Arr w g n T f) (e : ∀ k, k < n → f' k = f k) : Arr w g n T f' := by
  obtain ⟨cur, e', hs, hc⟩ := h.ex
  exact ⟨cur, e', hs, fun k hk => by rw [e k hk]; exact hc k hk⟩
theorem Arr.far {w : World} {g n : Nat} {T : TypeId} {f : Nat → Value} (h : Arr w g n T f) (p : Addr) (v : Value) (hp : g ≠ p.block) : Arr (w.setCell p v) g n T f :=
  h.of_block (Go.heap_setCell_other _ _ _ _ hp)
theorem Arr.set {w : World} {g n : Nat} {T : TypeId} {f : Nat → Value} (h : Arr w g n T f) {k : Nat} (hk : k < n) (v : Value) : Arr (w.setCell ⟨g, k, none⟩ v) g n T (fun j => if j = k then v else f j) := by
  obtain ⟨cur, e, hs, hc⟩ := h.ex
  have hg := (Array.getElem?_eq_some_iff.1 e).1
  refine ⟨cur.setIfInBounds k v, ?_, by simp [hs], fun j hj => ?_⟩
  · have hge : w.heap[g] = .cells cur T (0, 0) := by simpa [hg] using e
    simp [World.setCell, hg, Array.getElem_modify, hge]
  · by_cases ej : j = k
    · subst ej; simp [hs, hj]
    · rw [Array.getElem?_setIfInBounds_ne (Ne.symm ej), if_neg ej]; exact hc j hj
theorem Arr.new (w : World) (cs : Array Value) (T : TypeId) (f : Nat → Value) (n : Nat) (hs : cs.size = n) (h : ∀ k, k < n → cs[k]? = some (f k)) : Arr (w.alloc (.cells cs T)) w.heap.size n T f :=
  ⟨cs, Go.heap_alloc_new _ _, hs, h⟩
theorem Arr.rd {w : World} {g n B : Nat} {T : TypeId} {f : Nat → Value} (h : Arr w g n T f) (hg : g < B) : Rd w B (some ⟨g, 0, none⟩) n f :=
  fun _ => ⟨g, 0, rfl, hg, fun k hk => by rw [Nat.zero_add]; exact h.cell hk⟩
theorem Arr.own {w : World} {base g n : Nat} {T : TypeId} {xs : List Value} (h : w.ownsRow base T 1 (.slice (some ⟨g, 0, none⟩) n n) n xs) (f : Nat → Value) (e : ∀ k, k < n → xs[k]? = some (f k)) : Arr w g n T f := by
  rcases h.2 with ⟨hv, _⟩ | ⟨g', cap, cur, hv, hb, hg, h1, h2, h3, h4⟩
  · simp at hv
  · simp at hv
    obtain ⟨rfl, rfl⟩ := hv
    refine ⟨cur, hg, by omega, fun k hk => ?_⟩
    have := e k hk
    rw [← h4, List.getElem?_take, if_pos (by omega)] at this
    simpa using this
theorem made_at (z : Value) (n k : Nat) (hk : k < n) : ((madeCells #[z] (n * 1)).toList)[k]? = some z := by
  unfold madeCells
  simp [hk]
  rw [Nat.mod_one]; rfl
theorem Arr.made {w : World} {base g n : Nat} {T : TypeId} {z : Value} (h : w.ownsRow base T 1 (.slice (some ⟨g, 0, none⟩) n n) n (madeCells z.cells (n * 1)).toList) (hz : z.cells = #[z]) : Arr w g n T (fun _ => z) :=
  Arr.own h _ fun k hk => by rw [hz]; exact made_at z n k hk
theorem below_grown {w w' : World} (h : w.grownBy w' none) : Below w.heap.size w w' := (Below.refl _ _).grown h (Nat.le_refl _) (fun _ h => by cases h)
end Go.Proofs.Ytifnmgbeepgfiaa
