import Derived.Test.YtdpblimhfmfbnaaZsa
import Derived.Maps.AppendAt
set_option linter.unusedVariables false
set_option linter.unusedSimpArgs false
namespace Go.Proofs.Ytdpblimhfmfbnaa
open Go.ChangeShapes Go.WideShapes Go.ChangeAt Go.RowKit Go.Deep
structure Nq (w : World) (B : Nat) (a : Option Addr) (n : Nat) (xs : List Int) : Prop where
 len : xs.length = n
 rd : 0 < n → ∃ b off, a = some ⟨b, off, none⟩ ∧ b < B ∧ ∀ k, k < n → w.cell? ⟨b, off + k, none⟩ = some (.int .i64 (xs.getD k 0))
theorem Nq.below {w w' : World} {B B' n : Nat} {a : Option Addr} {xs : List Int} (h : Nq w B a n xs) (hb : Below B' w w') (hB : B ≤ B') : Nq w' B a n xs := ⟨h.len, fun hn => by
 obtain ⟨b, off, e, hlt, hc⟩ := h.rd hn
 exact ⟨b, off, e, hlt, fun k hk => (hb.cell (p := ⟨b, off + k, none⟩) (Nat.lt_of_lt_of_le hlt hB)).trans (hc k hk)⟩⟩
theorem Nq.mono {w : World} {B B' n : Nat} {a : Option Addr} {xs : List Int} (h : Nq w B a n xs) (hB : B ≤ B') : Nq w B' a n xs := ⟨h.len, fun hn => by
 obtain ⟨b, off, e, hlt, hc⟩ := h.rd hn
 exact ⟨b, off, e, by omega, hc⟩⟩
theorem Nq.drewN {w : World} {B n : Nat} {a : Option Addr} {xs : List Int} (h : Nq w B a n xs) (m : Nat) : Nq (w.drewN m) B a n xs := ⟨h.len, h.rd⟩
theorem Nq.nil (w : World) (B : Nat) (a : Option Addr) : Nq w B a 0 [] := ⟨rfl, fun h => absurd h (by omega)⟩
theorem aq_plus {b off : Nat} (j : Nat) : (⟨b, off, none⟩ : Addr).add j = ⟨b, off + j, none⟩ := by
 unfold Addr.add; split <;> simp_all
end Go.Proofs.Ytdpblimhfmfbnaa
namespace Go.Proofs.Ytdpblimhfmfbnaa
open Go.RowKit
theorem drop_getD {xs : List Int} {k : Nat} (h : k < xs.length) : xs.drop k = xs.getD k 0 :: xs.drop (k + 1) := by
 rw [List.drop_eq_getElem_cons h]; simp [List.getD, List.getElem?_eq_getElem h]
theorem rb {a b : Bool} (h : a = b) : Ending.returned (.bool a) = .returned (.bool b) := by rw [h]
theorem Nq.at_ {w : World} {B n : Nat} {a : Option Addr} {xs : List Int} (h : Nq w B a n xs) (hn : 0 < n) : ∃ b off, a = some ⟨b, off, none⟩ ∧ b < B ∧ ∀ k, k < n → w.cell? ⟨b, off + k, none⟩ = some (.int .i64 (xs.getD k 0)) := h.rd hn
set_option maxRecDepth 100000 in
theorem asc_as (r : Bool) (a : Option Addr) (n c : Nat) (xs : List Int) (w : World) (h : Nq w w.heap.size a n xs) (hn : n ≤ 1099511627776) (E : Hk (ascL 0 xs = r)) :
  Calls Try.prog 86 #[.slice a n c] w fun e w' => e = .returned (.bool r) ∧ w = w' := by
 have H := Hk.mk h
 clear h
 go_enter Try.func86, Try.ntmps86
 go_wp2
 go_loop [3, 8] (fun l i => ∃ (k : Nat) (z : Int), l = .int .i64 z ∧ i = .int .i64 k ∧ k ≤ n ∧ Hk (ascL z (xs.drop k) = r)) (fun _ i => n - (intOf i).toNat)
 case atStart => exact ⟨0, 0, rfl, rfl, Nat.zero_le _, ⟨by simpa using E.out⟩⟩
 case round =>
  obtain ⟨k, z, rfl, rfl, hk, HR⟩ := hrel
  by_cases hlt : k < n
  ·obtain ⟨b, off, rfl, hbl, hc⟩ := H.out.at_ (by omega)
   have hcx := hc k hlt
   clear hc
   have hr := HR.out
   rw [drop_getD (by rw [H.out.len]; exact hlt), ascL] at hr
   generalize xs.getD k 0 = y at *
   have i1 : (0 : Int) ≤ (k : Int) := by omega
   have i2 : (k : Int) < (n : Int) := by omega
   by_cases q1 : y ≤ z
   ·have b1 : decide (y ≤ z) = true := by simp; omega
    have R : Hk (false = r) := ⟨by rw [← hr]; simp; omega⟩
    clear hr
    go_wp2
    go_ret
    exact ⟨rb R.out, rfl⟩
   have b1 : decide (y ≤ z) = false := by simp; omega
   by_cases q2 : 1099511627776 < y
   ·have b2 : decide (1099511627776 < y) = true := by simp; omega
    have R : Hk (false = r) := ⟨by rw [← hr]; simp; omega⟩
    clear hr
    go_wp2
    go_ret
    exact ⟨rb R.out, rfl⟩
   ·have b2 : decide (1099511627776 < y) = false := by simp; omega
    have R : Hk (ascL y (xs.drop (k + 1)) = r) := ⟨by rw [← hr, show decide (z < y ∧ y ≤ 1099511627776) = true by simp; omega]; rfl⟩
    clear hr
    go_wp2
    go_round
    case rel => exact ⟨k + 1, y, rfl, by go_num, by omega, R⟩
    case measure => simp [intOf]; omega
  ·have hkn : k = n := by omega
   subst hkn
   have R : Hk (true = r) := ⟨by have := HR.out; rwa [List.drop_of_length_le (by rw [H.out.len]; omega), ascL] at this⟩
   go_wp2
   go_ret
   exact ⟨rb R.out, rfl⟩
def OwnI (w : World) (base : Nat) (v : Value) (n : Nat) (xs : List Int) : Prop := xs.length = n ∧ w.ownsRow base 3 1 v n (xs.map (Value.int .i64))
theorem OwnI.lt {w : World} {base n : Nat} {v : Value} {xs : List Int} (h : OwnI w base v n xs) : ∀ k, v.ownBlock = some k → base ≤ k ∧ k < w.heap.size := h.2.lt
theorem OwnI.nil (w : World) (base : Nat) : OwnI w base (.slice none 0 0) 0 [] := ⟨rfl, World.ownsRow_nil _ _ _ _⟩
theorem OwnI.nq {w : World} {base n : Nat} {v : Value} {xs : List Int} (h : OwnI w base v n xs) : ∃ a c, v = .slice a n c ∧ n ≤ c ∧ Nq w w.heap.size a n xs := by
 obtain ⟨h1, h3⟩ := h
 have h3' := h3
 rcases h3.2 with ⟨rfl, rfl⟩ | ⟨g, cap, cur, rfl, hg, hh, hc, hm, hs, ht⟩
 ·exact ⟨none, 0, rfl, by omega, ⟨h1, fun h => absurd h (by omega)⟩⟩
 ·refine ⟨_, _, rfl, hc, ⟨h1, fun hn => ⟨g, 0, rfl, lt_of_block hh, fun k hk => ?_⟩⟩⟩
  have := h3'.cellAt k (by omega)
  rw [Nat.zero_add, this]
  simp [List.getElem?_map, List.getD, List.getElem?_eq_getElem (show k < xs.length by omega)]
theorem OwnI.below {w w' : World} {base n : Nat} {v : Value} {xs : List Int} (h : OwnI w base v n xs) (hb : Below w.heap.size w w') : OwnI w' base v n xs := by
 refine ⟨h.1, h.2.kept (row := none) ⟨hb.os, hb.tape, hb.output, hb.size, fun i hi _ => hb.block i hi⟩ ?_⟩
 cases h' : v.ownBlock
 ·exact .inl rfl
 ·exact .inr (by simp)
theorem OwnI.drewN {w : World} {base n : Nat} {v : Value} {xs : List Int} (h : OwnI w base v n xs) (k : Nat) : OwnI (w.drewN k) base v n xs := h
theorem info_i : (Try.prog.info? 3).map (fun i => (i.zero, i.size, i.bytes)) = some (some (.int .i64 0), 1, 8) := by kernel_rfl
end Go.Proofs.Ytdpblimhfmfbnaa
namespace Go.Proofs.Ytdpblimhfmfbnaa
open Go.RowKit
def U8 (w : World) (j : Nat) : Prop := ∃ cur fr, w.heap[j]? = some (.cells cur 5 fr)
theorem not_u8 (w : World) (cs : Array Value) (T : TypeId) (h : T ≠ 5) : ¬ U8 (w.alloc (.cells cs T)) w.heap.size := by
 rintro ⟨cur, fr, e⟩
 rw [Go.heap_alloc_new] at e
 injection e with e
 injection e with e1 e2
 exact h e2
structure Fr (M : Nat → Prop) (w w' : World) : Prop where
 os : w'.os = w.os
 tape : w'.tape = w.tape
 output : w'.output = w.output
 size : w.heap.size ≤ w'.heap.size
 block : ∀ k, k < w.heap.size → ¬ M k → w'.heap[k]? = w.heap[k]?
theorem Fr.refl (M : Nat → Prop) (w : World) : Fr M w w := ⟨rfl, rfl, rfl, Nat.le_refl _, fun _ _ _ => rfl⟩
theorem Fr.andThen {M N : Nat → Prop} {a b c : World} (h : Fr M a b) (k : Fr N b c) (hN : ∀ j, j < a.heap.size → N j → M j) : Fr M a c :=
 ⟨k.os.trans h.os, k.tape.trans h.tape, k.output.trans h.output, Nat.le_trans h.size k.size, fun j hj hm => (k.block j (Nat.lt_of_lt_of_le hj h.size) (fun n => hm (hN j hj n))).trans (h.block j hj hm)⟩
theorem Fr.trans {M : Nat → Prop} {a b c : World} (h : Fr M a b) (k : Fr M b c) : Fr M a c := h.andThen k fun _ _ x => x
theorem Fr.mono {M N : Nat → Prop} {a b : World} (h : Fr M a b) (hM : ∀ j, j < a.heap.size → M j → N j) : Fr N a b := (Fr.refl N a).andThen h hM
theorem Fr.of_below {B : Nat} {a b : World} (h : Below B a b) : Fr (fun k => B ≤ k) a b := ⟨h.os, h.tape, h.output, h.size, fun k _ hm => h.block k (by omega)⟩
theorem Fr.of_all {M : Nat → Prop} {a b : World} (h : Below a.heap.size a b) : Fr M a b := (Fr.of_below h).mono fun j hj h => by omega
theorem Fr.below {M : Nat → Prop} {B : Nat} {a b : World} (h : Fr M a b) (hB : B ≤ a.heap.size) (hM : ∀ j, j < a.heap.size → M j → B ≤ j) : Below B a b :=
 ⟨h.os, h.tape, h.output, h.size, fun k hk => h.block k (by omega) fun m => by have := hM k (by omega) m; omega⟩
theorem Fr.grown {M : Nat → Prop} {a b c : World} {row : Option Nat} (h : Fr M a b) (k : b.grownBy c row) (hM : ∀ j, j < a.heap.size → row = some j → M j) : Fr M a c :=
 h.andThen (N := fun j => row = some j) ⟨k.os, k.tape, k.output, k.size, fun j hj hm => k.block j hj fun e => hm e.symm⟩ hM
theorem Fr.setCell {M : Nat → Prop} {a b : World} (h : Fr M a b) {p : Addr} (hp : p.block < a.heap.size → M p.block) (u : Value) : Fr M a (b.setCell p u) :=
 h.andThen (N := fun j => j = p.block) ⟨rfl, rfl, rfl, by simp, fun j hj hm => Go.heap_setCell_other _ _ _ _ hm⟩ fun j hj e => by subst e; exact hp hj
theorem Fr.alloc {M : Nat → Prop} {a b : World} (h : Fr M a b) (o : Obj) : Fr M a (b.alloc o) :=
 h.andThen (Fr.of_all (M := M) ((Below.refl _ _).alloc (Nat.le_refl _) o)) fun _ _ x => x
theorem Fr.drewN {M : Nat → Prop} {a b : World} (h : Fr M a b) (n : Nat) : Fr M a (b.drewN n) := ⟨h.os, h.tape, h.output, h.size, h.block⟩
theorem Fr.drew {M : Nat → Prop} {a b : World} (h : Fr M a b) : Fr M a b.drew := ⟨h.os, h.tape, h.output, h.size, h.block⟩
theorem Fr.cell {M : Nat → Prop} {a b : World} (h : Fr M a b) {q o : Nat} (hq : q < a.heap.size) (hm : ¬ M q) : b.cell? ⟨q, o, none⟩ = a.cell? ⟨q, o, none⟩ := World.cell?_of_block (h.block q hq hm)
theorem Fr.frozen {M : Nat → Prop} {a b : World} (h : Fr M a b) {q o : Nat} (hq : q < a.heap.size) (hm : ¬ M q) : b.frozen? ⟨q, o, none⟩ = a.frozen? ⟨q, o, none⟩ := World.frozen?_of_block (h.block q hq hm)
theorem Fr.rd {M : Nat → Prop} {w w' : World} {B n : Nat} {a : Option Addr} {f : Nat → Value} (h : Rd w B a n f) (k : Fr M w w') (hB : B ≤ w.heap.size) (hm : ∀ b off, a = some ⟨b, off, none⟩ → b < w.heap.size → ¬ M b) : Rd w' B a n f := fun hn => by
 obtain ⟨b, off, e, hlt, hc⟩ := h hn
 exact ⟨b, off, e, hlt, fun j hj => (k.cell (by omega) (hm b off e (by omega))).trans (hc j hj)⟩
theorem Fr.row {M : Nat → Prop} {w w' : World} {base size n : Nat} {e : TypeId} {v : Value} {xs : List Value} (h : w.ownsRow base e size v n xs) (k : Fr M w w') (hm : ∀ j, v.ownBlock = some j → ¬ M j) : w'.ownsRow base e size v n xs := by
 refine ⟨h.1, ?_⟩
 rcases h.2 with hn | ⟨g, cap, cur, rfl, hb, hgg, rest⟩
 ·exact .inl hn
 ·exact .inr ⟨g, cap, cur, rfl, hb, by rw [k.block g (Array.getElem?_eq_some_iff.1 hgg).1 (hm g rfl)]; exact hgg, rest⟩
theorem Fr.own {M : Nat → Prop} {w w' : World} {base n : Nat} {v : Value} {xs : List Int} (h : OwnB w base v n xs) (k : Fr M w w') (hm : ∀ j, v.ownBlock = some j → ¬ M j) : OwnB w' base v n xs := ⟨h.1, h.2.1, k.row h.2.2 hm⟩
end Go.Proofs.Ytdpblimhfmfbnaa
namespace Go.Proofs.Ytdpblimhfmfbnaa
open Go.RowKit
def PartsR (k : Int) (w : World) (e : Ending) (w' : World) : Prop := ∃ b n L, e = .returned (.slice (some ⟨b, 0, none⟩) n n) ∧ partsL k = L ∧ L.length = n ∧ Nq w' w'.heap.size (some ⟨b, 0, none⟩) n L ∧ Below w.heap.size w w' ∧ b = w.heap.size ∧ b < w'.heap.size ∧ ¬ U8 w' b
theorem lit1 (w : World) (y : Int) (t : TypeId) : Nq (w.alloc (.cells #[.int .i64 y] t)) (w.alloc (.cells #[.int .i64 y] t)).heap.size (some ⟨w.heap.size, 0, none⟩) 1 [y] :=
 ⟨rfl, fun _ => ⟨_, _, rfl, by simp, fun k hk => by
  obtain rfl : k = 0 := by omega
  simp⟩⟩
theorem lit2 (w : World) (y z : Int) (t : TypeId) : Nq (w.alloc (.cells #[.int .i64 y, .int .i64 z] t)) (w.alloc (.cells #[.int .i64 y, .int .i64 z] t)).heap.size (some ⟨w.heap.size, 0, none⟩) 2 [y, z] :=
 ⟨rfl, fun _ => ⟨_, _, rfl, by simp, fun k hk => by
  have : k = 0 ∨ k = 1 := by omega
  rcases this with rfl | rfl <;> simp⟩⟩
theorem parts_no (k : Int) (w : World) (h : k < 1 ∨ 7 < k) : Calls Try.prog 71 #[.int .i64 k] w fun e w' => e = .returned (.slice none 0 0) ∧ w = w' := by
 have b1 : (k == 1) = false := by simp; omega
 have b2 : (k == 2) = false := by simp; omega
 have b3 : (k == 3) = false := by simp; omega
 have b4 : (k == 4) = false := by simp; omega
 have b5 : (k == 5) = false := by simp; omega
 have b6 : (k == 6) = false := by simp; omega
 have b7 : (k == 7) = false := by simp; omega
 clear h
 go_enter Try.func71, Try.ntmps71
 go_wp2
 go_ret
 exact ⟨rfl, rfl⟩
theorem parts_any (k : Int) (w : World) (h1 : 1 ≤ k) (h2 : k ≤ 7) : Calls Try.prog 71 #[.int .i64 k] w (PartsR k w) := by
 have hc : k = 1 ∨ k = 2 ∨ k = 3 ∨ k = 4 ∨ k = 5 ∨ k = 6 ∨ k = 7 := by omega
 rcases hc with rfl | rfl | rfl | rfl | rfl | rfl | rfl
 ·go_enter Try.func71, Try.ntmps71
  go_wp2
  go_ret
  exact ⟨w.heap.size, 2, [0, 5], rfl, rfl, rfl, lit2 w 0 5 _, (Below.refl _ _).alloc (Nat.le_refl _) _, rfl, by simp, not_u8 _ _ _ (by decide)⟩
 ·go_enter Try.func71, Try.ntmps71
  go_wp2
  go_ret
  exact ⟨w.heap.size, 2, [2, 3], rfl, rfl, rfl, lit2 w 2 3 _, (Below.refl _ _).alloc (Nat.le_refl _) _, rfl, by simp, not_u8 _ _ _ (by decide)⟩
 ·go_enter Try.func71, Try.ntmps71
  go_wp2
  go_ret
  exact ⟨w.heap.size, 1, [2], rfl, rfl, rfl, lit1 w 2 _, (Below.refl _ _).alloc (Nat.le_refl _) _, rfl, by simp, not_u8 _ _ _ (by decide)⟩
 ·go_enter Try.func71, Try.ntmps71
  go_wp2
  go_ret
  exact ⟨w.heap.size, 2, [3, 4], rfl, rfl, rfl, lit2 w 3 4 _, (Below.refl _ _).alloc (Nat.le_refl _) _, rfl, by simp, not_u8 _ _ _ (by decide)⟩
 ·go_enter Try.func71, Try.ntmps71
  go_wp2
  go_ret
  exact ⟨w.heap.size, 1, [1], rfl, rfl, rfl, lit1 w 1 _, (Below.refl _ _).alloc (Nat.le_refl _) _, rfl, by simp, not_u8 _ _ _ (by decide)⟩
 ·go_enter Try.func71, Try.ntmps71
  go_wp2
  go_ret
  exact ⟨w.heap.size, 2, [2, 1], rfl, rfl, rfl, lit2 w 2 1 _, (Below.refl _ _).alloc (Nat.le_refl _) _, rfl, by simp, not_u8 _ _ _ (by decide)⟩
 ·go_enter Try.func71, Try.ntmps71
  go_wp2
  go_ret
  exact ⟨w.heap.size, 2, [1, 3], rfl, rfl, rfl, lit2 w 1 3 _, (Below.refl _ _).alloc (Nat.le_refl _) _, rfl, by simp, not_u8 _ _ _ (by decide)⟩
set_option maxRecDepth 100000 in
set_option maxHeartbeats 1600000 in
theorem valid_as (r : Bool) (q : Int) (p s k n : Int) (a : Option Addr) (m c : Nat) (u : List Int) (t wd h x y : Int) (w : World) (hq0 : 0 ≤ q) (hq5 : q ≤ 5) (hN : Nq w w.heap.size a m u) (hm : m ≤ 1099511627776) (E : Hk (vB q ⟨n, u, t, wd, h, x, y⟩ = r)) :
  Calls Try.prog 72 #[.int .i64 q, .agg (jkC p s k n a m c t wd h x y)] w fun e w' => e = .returned (.bool r) ∧ Below w.heap.size w w' := by
 have HN := Hk.mk (Nq.mono (hN.below ((Below.refl _ _).alloc (Nat.le_refl _) (.cells (jkC p s k n a m c t wd h x y) 50)) (Nat.le_refl _)) (show w.heap.size ≤ (w.alloc (.cells (jkC p s k n a m c t wd h x y) 50)).heap.size by simp))
 have hl := hN.len
 clear hN
 have hc : q = 0 ∨ q = 1 ∨ q = 2 ∨ q = 3 ∨ q = 4 ∨ q = 5 := by omega
 clear hq0 hq5
 rcases hc with rfl | rfl | rfl | rfl | rfl | rfl
 ·by_cases q0 : ¬ (0 ≤ n)
  ·have b0 : decide (0 ≤ n) = false := by simp; omega
   have R : Hk (false = r) := ⟨by rw [← E.out]; unfold vB; simp; omega⟩
   clear E
   go_enter Try.func72, Try.ntmps72
   go_wp2
   go_ret
   exact ⟨rb R.out, (Below.refl _ _).alloc (Nat.le_refl _) _⟩
  have b0 : decide (0 ≤ n) = true := by simp; omega
  by_cases q1 : ¬ (n < 4)
  ·have b1 : decide (n < 4) = false := by simp; omega
   have R : Hk (false = r) := ⟨by rw [← E.out]; unfold vB; simp; omega⟩
   clear E
   go_enter Try.func72, Try.ntmps72
   go_wp2
   go_ret
   exact ⟨rb R.out, (Below.refl _ _).alloc (Nat.le_refl _) _⟩
  have b1 : decide (n < 4) = true := by simp; omega
  have R : Hk (true = r) := ⟨by rw [← E.out]; unfold vB; simp; omega⟩
  clear E
  go_enter Try.func72, Try.ntmps72
  go_wp2
  go_ret
  exact ⟨rb R.out, (Below.refl _ _).alloc (Nat.le_refl _) _⟩
 ·by_cases q0 : ¬ (1 ≤ n)
  ·have b0 : decide (1 ≤ n) = false := by simp; omega
   have R : Hk (false = r) := ⟨by rw [← E.out]; unfold vB; simp; omega⟩
   clear E
   go_enter Try.func72, Try.ntmps72
   go_wp2
   go_ret
   exact ⟨rb R.out, (Below.refl _ _).alloc (Nat.le_refl _) _⟩
  have b0 : decide (1 ≤ n) = true := by simp; omega
  by_cases q1 : ¬ (n ≤ 1099511627776)
  ·have b1 : decide (n ≤ 1099511627776) = false := by simp; omega
   have R : Hk (false = r) := ⟨by rw [← E.out]; unfold vB; simp; omega⟩
   clear E
   go_enter Try.func72, Try.ntmps72
   go_wp2
   go_ret
   exact ⟨rb R.out, (Below.refl _ _).alloc (Nat.le_refl _) _⟩
  have b1 : decide (n ≤ 1099511627776) = true := by simp; omega
  have R : Hk (true = r) := ⟨by rw [← E.out]; unfold vB; simp; omega⟩
  clear E
  go_enter Try.func72, Try.ntmps72
  go_wp2
  go_ret
  exact ⟨rb R.out, (Below.refl _ _).alloc (Nat.le_refl _) _⟩
 ·by_cases q0 : ¬ ((1 : Int) ≤ (m : Int))
  ·have b0 : decide ((1 : Int) ≤ (m : Int)) = false := by simp; omega
   have R : Hk (false = r) := ⟨by rw [← E.out]; unfold vB idsB; simp; omega⟩
   clear E
   go_enter Try.func72, Try.ntmps72
   go_wp2
   go_ret
   exact ⟨rb R.out, (Below.refl _ _).alloc (Nat.le_refl _) _⟩
  have b0 : decide ((1 : Int) ≤ (m : Int)) = true := by simp; omega
  by_cases q1 : ¬ ((m : Int) ≤ 64)
  ·have b1 : decide ((m : Int) ≤ 64) = false := by simp; omega
   have R : Hk (false = r) := ⟨by rw [← E.out]; unfold vB idsB; simp; omega⟩
   clear E
   go_enter Try.func72, Try.ntmps72
   go_wp2
   go_ret
   exact ⟨rb R.out, (Below.refl _ _).alloc (Nat.le_refl _) _⟩
  have b1 : decide ((m : Int) ≤ 64) = true := by simp; omega
  have R : Hk (ascL 0 u = r) := ⟨by rw [← E.out]; unfold vB idsB; simp; omega⟩
  clear E hl
  go_enter Try.func72, Try.ntmps72
  go_wp2_with (go_at_call 86; (with_reducible refine (asc_as r a m c u _ HN.out hm R).mono ?_); rintro e w' ⟨rfl, rfl⟩)
  go_ret
  exact ⟨rfl, (Below.refl _ _).alloc (Nat.le_refl _) _⟩
 ·by_cases q0 : ¬ (0 ≤ t)
  ·have b0 : decide (0 ≤ t) = false := by simp; omega
   have R : Hk (false = r) := ⟨by rw [← E.out]; unfold vB; simp; omega⟩
   clear E
   go_enter Try.func72, Try.ntmps72
   go_wp2
   go_ret
   exact ⟨rb R.out, (Below.refl _ _).alloc (Nat.le_refl _) _⟩
  have b0 : decide (0 ≤ t) = true := by simp; omega
  by_cases q1 : ¬ (t ≤ 16383)
  ·have b1 : decide (t ≤ 16383) = false := by simp; omega
   have R : Hk (false = r) := ⟨by rw [← E.out]; unfold vB; simp; omega⟩
   clear E
   go_enter Try.func72, Try.ntmps72
   go_wp2
   go_ret
   exact ⟨rb R.out, (Below.refl _ _).alloc (Nat.le_refl _) _⟩
  have b1 : decide (t ≤ 16383) = true := by simp; omega
  have R : Hk (true = r) := ⟨by rw [← E.out]; unfold vB; simp; omega⟩
  clear E
  go_enter Try.func72, Try.ntmps72
  go_wp2
  go_ret
  exact ⟨rb R.out, (Below.refl _ _).alloc (Nat.le_refl _) _⟩
 ·by_cases q0 : ¬ (1 ≤ wd)
  ·have b0 : decide (1 ≤ wd) = false := by simp; omega
   have R : Hk (false = r) := ⟨by rw [← E.out]; unfold vB; simp; omega⟩
   clear E
   go_enter Try.func72, Try.ntmps72
   go_wp2
   go_ret
   exact ⟨rb R.out, (Below.refl _ _).alloc (Nat.le_refl _) _⟩
  have b0 : decide (1 ≤ wd) = true := by simp; omega
  by_cases q1 : ¬ (wd ≤ 4)
  ·have b1 : decide (wd ≤ 4) = false := by simp; omega
   have R : Hk (false = r) := ⟨by rw [← E.out]; unfold vB; simp; omega⟩
   clear E
   go_enter Try.func72, Try.ntmps72
   go_wp2
   go_ret
   exact ⟨rb R.out, (Below.refl _ _).alloc (Nat.le_refl _) _⟩
  have b1 : decide (wd ≤ 4) = true := by simp; omega
  by_cases q2 : ¬ (1 ≤ h)
  ·have b2 : decide (1 ≤ h) = false := by simp; omega
   have R : Hk (false = r) := ⟨by rw [← E.out]; unfold vB; simp; omega⟩
   clear E
   go_enter Try.func72, Try.ntmps72
   go_wp2
   go_ret
   exact ⟨rb R.out, (Below.refl _ _).alloc (Nat.le_refl _) _⟩
  have b2 : decide (1 ≤ h) = true := by simp; omega
  by_cases q3 : ¬ (h ≤ 4)
  ·have b3 : decide (h ≤ 4) = false := by simp; omega
   have R : Hk (false = r) := ⟨by rw [← E.out]; unfold vB; simp; omega⟩
   clear E
   go_enter Try.func72, Try.ntmps72
   go_wp2
   go_ret
   exact ⟨rb R.out, (Below.refl _ _).alloc (Nat.le_refl _) _⟩
  have b3 : decide (h ≤ 4) = true := by simp; omega
  have R : Hk (true = r) := ⟨by rw [← E.out]; unfold vB; simp; omega⟩
  clear E
  go_enter Try.func72, Try.ntmps72
  go_wp2
  go_ret
  exact ⟨rb R.out, (Below.refl _ _).alloc (Nat.le_refl _) _⟩
 ·by_cases q0 : ¬ (-1099511627776 ≤ x)
  ·have b0 : decide (-1099511627776 ≤ x) = false := by simp; omega
   have R : Hk (false = r) := ⟨by rw [← E.out]; unfold vB; simp; omega⟩
   clear E
   go_enter Try.func72, Try.ntmps72
   go_wp2
   go_ret
   exact ⟨rb R.out, (Below.refl _ _).alloc (Nat.le_refl _) _⟩
  have b0 : decide (-1099511627776 ≤ x) = true := by simp; omega
  by_cases q1 : ¬ (x ≤ 1099511627776)
  ·have b1 : decide (x ≤ 1099511627776) = false := by simp; omega
   have R : Hk (false = r) := ⟨by rw [← E.out]; unfold vB; simp; omega⟩
   clear E
   go_enter Try.func72, Try.ntmps72
   go_wp2
   go_ret
   exact ⟨rb R.out, (Below.refl _ _).alloc (Nat.le_refl _) _⟩
  have b1 : decide (x ≤ 1099511627776) = true := by simp; omega
  by_cases q2 : ¬ (-1099511627776 ≤ y)
  ·have b2 : decide (-1099511627776 ≤ y) = false := by simp; omega
   have R : Hk (false = r) := ⟨by rw [← E.out]; unfold vB; simp; omega⟩
   clear E
   go_enter Try.func72, Try.ntmps72
   go_wp2
   go_ret
   exact ⟨rb R.out, (Below.refl _ _).alloc (Nat.le_refl _) _⟩
  have b2 : decide (-1099511627776 ≤ y) = true := by simp; omega
  by_cases q3 : ¬ (y ≤ 1099511627776)
  ·have b3 : decide (y ≤ 1099511627776) = false := by simp; omega
   have R : Hk (false = r) := ⟨by rw [← E.out]; unfold vB; simp; omega⟩
   clear E
   go_enter Try.func72, Try.ntmps72
   go_wp2
   go_ret
   exact ⟨rb R.out, (Below.refl _ _).alloc (Nat.le_refl _) _⟩
  have b3 : decide (y ≤ 1099511627776) = true := by simp; omega
  have R : Hk (true = r) := ⟨by rw [← E.out]; unfold vB; simp; omega⟩
  clear E
  go_enter Try.func72, Try.ntmps72
  go_wp2
  go_ret
  exact ⟨rb R.out, (Below.refl _ _).alloc (Nat.le_refl _) _⟩
structure CmB (w : World) (b : Nat) (p s k n : Int) (a : Option Addr) (m c : Nat) (t wd h x y : Int) : Prop where
 c0 : w.cell? ⟨b, 0, none⟩ = some (.int .i64 p)
 c1 : w.cell? ⟨b, 1, none⟩ = some (.int .i64 s)
 c2 : w.cell? ⟨b, 2, none⟩ = some (.int .i64 k)
 c3 : w.cell? ⟨b, 3, none⟩ = some (.int .i64 n)
 c4 : w.cell? ⟨b, 4, none⟩ = some (.slice a m c)
 c5 : w.cell? ⟨b, 5, none⟩ = some (.int .i64 t)
 c6 : w.cell? ⟨b, 6, none⟩ = some (.int .i64 wd)
 c7 : w.cell? ⟨b, 7, none⟩ = some (.int .i64 h)
 c8 : w.cell? ⟨b, 8, none⟩ = some (.int .i64 x)
 c9 : w.cell? ⟨b, 9, none⟩ = some (.int .i64 y)
 fz : ∀ j, w.frozen? ⟨b, j, none⟩ = false
theorem CmB.below {w w' : World} {B b : Nat} {p s k n : Int} {a : Option Addr} {m c : Nat} {t wd h x y : Int} (H : CmB w b p s k n a m c t wd h x y) (hb : Below B w w') (hB : b < B) : CmB w' b p s k n a m c t wd h x y :=
 ⟨(hb.cell (p := ⟨b, 0, none⟩) hB).trans H.c0, (hb.cell (p := ⟨b, 1, none⟩) hB).trans H.c1, (hb.cell (p := ⟨b, 2, none⟩) hB).trans H.c2, (hb.cell (p := ⟨b, 3, none⟩) hB).trans H.c3, (hb.cell (p := ⟨b, 4, none⟩) hB).trans H.c4, (hb.cell (p := ⟨b, 5, none⟩) hB).trans H.c5, (hb.cell (p := ⟨b, 6, none⟩) hB).trans H.c6, (hb.cell (p := ⟨b, 7, none⟩) hB).trans H.c7, (hb.cell (p := ⟨b, 8, none⟩) hB).trans H.c8, (hb.cell (p := ⟨b, 9, none⟩) hB).trans H.c9, fun j => (hb.frozen (p := ⟨b, j, none⟩) hB).trans (H.fz j)⟩
theorem CmB.box (w : World) (p s k n : Int) (a : Option Addr) (m c : Nat) (t wd h x y : Int) : CmB (w.alloc (.cells (jkC p s k n a m c t wd h x y) 50)) w.heap.size p s k n a m c t wd h x y :=
 ⟨by go_simp, by go_simp, by go_simp, by go_simp, by go_simp, by go_simp, by go_simp, by go_simp, by go_simp, by go_simp, fun j => by go_simp⟩
def EmptyR (q : Int) (b : Nat) (p s k n : Int) (a : Option Addr) (m c : Nat) (u : List Int) (t wd h x y : Int) (w : World) (e : Ending) (w' : World) : Prop := ∃ n' a' m' c' u' t' wd' h' x' y', e = .returned (.tuple #[]) ∧ CmB w' b p s k n' a' m' c' t' wd' h' x' y' ∧ eC q ⟨n, u, t, wd, h, x, y⟩ = ⟨n', u', t', wd', h', x', y'⟩ ∧ Nq w' b a' m' u' ∧ m' ≤ m ∧ Fr (fun j => j = b) w w' ∧ w.heap.size = w'.heap.size
set_option maxHeartbeats 1600000 in
theorem empty_any (q : Int) (b : Nat) (p s k n : Int) (a : Option Addr) (m c : Nat) (u : List Int) (t wd h x y : Int) (w : World) (hq0 : 0 ≤ q) (hq5 : q ≤ 5) (H : CmB w b p s k n a m c t wd h x y) (hN : Nq w b a m u) :
  Calls Try.prog 73 #[.int .i64 q, .pointer (some ⟨b, 0, none⟩)] w (EmptyR q b p s k n a m c u t wd h x y w) := by
 have hc : q = 0 ∨ q = 1 ∨ q = 2 ∨ q = 3 ∨ q = 4 ∨ q = 5 := by omega
 clear hq0 hq5
 have HN := Hk.mk hN
 clear hN
 have fz := Hk.mk H.fz
 obtain ⟨c0, c1, c2, c3, c4, c5, c6, c7, c8, c9, -⟩ := H
 rcases hc with rfl | rfl | rfl | rfl | rfl | rfl
 ·have f3 := fz.out 3
  go_enter Try.func73, Try.ntmps73
  go_wp2
  go_end0
  have HF : Fr (fun j => j = b) w _ := (Fr.refl (fun j => j = b) w).setCell (p := ⟨b, 3, none⟩) (fun _ => rfl) (.int .i64 0)
  have HB : Below b w _ := HF.below (Nat.le_of_lt (World.block_lt_of_cell? _ _ c0)) (fun j _ e => Nat.le_of_eq e.symm)
  refine ⟨0, a, m, c, u, t, wd, h, x, y, rfl, ⟨by go_simp, by go_simp, by go_simp, by go_simp, by go_simp, by go_simp, by go_simp, by go_simp, by go_simp, by go_simp, fun j => ?_⟩, rfl, HN.out.below HB (Nat.le_refl _), by omega, HF, by simp⟩
  have := fz.out j
  go_simp
 ·have f3 := fz.out 3
  go_enter Try.func73, Try.ntmps73
  go_wp2
  go_end0
  have HF : Fr (fun j => j = b) w _ := (Fr.refl (fun j => j = b) w).setCell (p := ⟨b, 3, none⟩) (fun _ => rfl) (.int .i64 0)
  have HB : Below b w _ := HF.below (Nat.le_of_lt (World.block_lt_of_cell? _ _ c0)) (fun j _ e => Nat.le_of_eq e.symm)
  refine ⟨0, a, m, c, u, t, wd, h, x, y, rfl, ⟨by go_simp, by go_simp, by go_simp, by go_simp, by go_simp, by go_simp, by go_simp, by go_simp, by go_simp, by go_simp, fun j => ?_⟩, rfl, HN.out.below HB (Nat.le_refl _), by omega, HF, by simp⟩
  have := fz.out j
  go_simp
 ·have f4 := fz.out 4
  go_enter Try.func73, Try.ntmps73
  go_wp2
  go_end0
  have HF : Fr (fun j => j = b) w _ := (Fr.refl (fun j => j = b) w).setCell (p := ⟨b, 4, none⟩) (fun _ => rfl) (.slice none 0 0)
  have HB : Below b w _ := HF.below (Nat.le_of_lt (World.block_lt_of_cell? _ _ c0)) (fun j _ e => Nat.le_of_eq e.symm)
  refine ⟨n, none, 0, 0, [], t, wd, h, x, y, rfl, ⟨by go_simp, by go_simp, by go_simp, by go_simp, by go_simp, by go_simp, by go_simp, by go_simp, by go_simp, by go_simp, fun j => ?_⟩, rfl, Nq.nil _ _ _, by omega, HF, by simp⟩
  have := fz.out j
  go_simp
 ·have f5 := fz.out 5
  go_enter Try.func73, Try.ntmps73
  go_wp2
  go_end0
  have HF : Fr (fun j => j = b) w _ := (Fr.refl (fun j => j = b) w).setCell (p := ⟨b, 5, none⟩) (fun _ => rfl) (.int .i64 0)
  have HB : Below b w _ := HF.below (Nat.le_of_lt (World.block_lt_of_cell? _ _ c0)) (fun j _ e => Nat.le_of_eq e.symm)
  refine ⟨n, a, m, c, u, 0, wd, h, x, y, rfl, ⟨by go_simp, by go_simp, by go_simp, by go_simp, by go_simp, by go_simp, by go_simp, by go_simp, by go_simp, by go_simp, fun j => ?_⟩, rfl, HN.out.below HB (Nat.le_refl _), by omega, HF, by simp⟩
  have := fz.out j
  go_simp
 ·have f6 := fz.out 6
  have f7 := fz.out 7
  go_enter Try.func73, Try.ntmps73
  go_wp2
  go_end0
  have HF : Fr (fun j => j = b) w _ := ((Fr.refl (fun j => j = b) w).setCell (p := ⟨b, 6, none⟩) (fun _ => rfl) (.int .i64 0)).setCell (p := ⟨b, 7, none⟩) (fun _ => rfl) (.int .i64 0)
  have HB : Below b w _ := HF.below (Nat.le_of_lt (World.block_lt_of_cell? _ _ c0)) (fun j _ e => Nat.le_of_eq e.symm)
  refine ⟨n, a, m, c, u, t, 0, 0, x, y, rfl, ⟨by go_simp, by go_simp, by go_simp, by go_simp, by go_simp, by go_simp, by go_simp, by go_simp, by go_simp, by go_simp, fun j => ?_⟩, rfl, HN.out.below HB (Nat.le_refl _), by omega, HF, by simp⟩
  have := fz.out j
  go_simp
 ·have f8 := fz.out 8
  have f9 := fz.out 9
  go_enter Try.func73, Try.ntmps73
  go_wp2
  go_end0
  have HF : Fr (fun j => j = b) w _ := ((Fr.refl (fun j => j = b) w).setCell (p := ⟨b, 8, none⟩) (fun _ => rfl) (.int .i64 0)).setCell (p := ⟨b, 9, none⟩) (fun _ => rfl) (.int .i64 0)
  have HB : Below b w _ := HF.below (Nat.le_of_lt (World.block_lt_of_cell? _ _ c0)) (fun j _ e => Nat.le_of_eq e.symm)
  refine ⟨n, a, m, c, u, t, wd, h, 0, 0, rfl, ⟨by go_simp, by go_simp, by go_simp, by go_simp, by go_simp, by go_simp, by go_simp, by go_simp, by go_simp, by go_simp, fun j => ?_⟩, rfl, HN.out.below HB (Nat.le_refl _), by omega, HF, by simp⟩
  have := fz.out j
  go_simp
end Go.Proofs.Ytdpblimhfmfbnaa
namespace Go.Proofs.Ytdpblimhfmfbnaa
open Go.RowKit
theorem rz {a b : Int} (h : a = b) : Ending.returned (.int .i64 a) = .returned (.int .i64 b) := by rw [h]
set_option maxRecDepth 100000 in
set_option maxHeartbeats 3200000 in
theorem check22_as (z : Int) (p s k n : Int) (a : Option Addr) (m c : Nat) (u : List Int) (t wd h x y : Int) (w : World) (hN : Nq w w.heap.size a m u) (hm : m ≤ 1099511627776) (E : Hk ((if okC p s k ⟨n, u, t, wd, h, x, y⟩ then (0 : Int) else 1) = z)) :
  Calls Try.prog 63 #[.agg (jkC p s k n a m c t wd h x y)] w fun e w' => e = .returned (.int .i64 z) ∧ Below w.heap.size w w' := by
 have HN := Hk.mk hN
 clear hN
 have HBX := Hk.mk (CmB.box w p s k n a m c t wd h x y)
 have HBW : Hk (Below w.heap.size w (w.alloc (.cells (jkC p s k n a m c t wd h x y) 50))) := ⟨(Below.refl _ _).alloc (Nat.le_refl _) _⟩
 by_cases hk : k < 1 ∨ 7 < k
 ·have R : Hk ((1 : Int) = z) := ⟨by rw [← E.out]; unfold okC; rw [partsL_none hk]; simp⟩
  clear E
  go_enter Try.func63, Try.ntmps63
  go_wp2_with (go_at_call 71; (with_reducible refine (parts_no k _ hk).mono ?_); rintro e w' ⟨rfl, rfl⟩)
  go_ret
  exact ⟨rz R.out, HBW.out⟩
 have hk1 : 1 ≤ k := by omega
 have hk2 : k ≤ 7 := by omega
 clear hk
 by_cases g0 : ¬ (1 ≤ p)
 ·have b0 : decide (p < 1) = true := by simp; omega
  have R : Hk ((1 : Int) = z) := ⟨by rw [← E.out, show okC p s k ⟨n, u, t, wd, h, x, y⟩ = false by unfold okC baseB; simp; omega]; rfl⟩
  clear E
  go_enter Try.func63, Try.ntmps63
  go_wp2_with (go_at_call 71; (with_reducible refine (parts_any k _ hk1 hk2).mono ?_); rintro e w1 ⟨b, nn, L, rfl, hL, hlen, hnq, hb1, hbb, hlt, -⟩; (obtain rfl : b = w.heap.size + 1 := by simpa using hbb); clear hbb; have HX := Hk.mk (HBX.out.below hb1 (by simp)); have HL := Hk.mk hL; have HQ := Hk.mk hnq; have HB1 := Hk.mk hb1; have hn1 : 1 ≤ nn := (by have := partsL_some hk1 hk2; rw [hL, hlen] at this; exact this); have hn2 : nn ≤ 2 := (by have := (partsL_bd k).1; rw [hL, hlen] at this; exact this); have z0 : ((nn : Int) == 0) = false := (by simp; omega); clear hL hlen hnq hb1; have d0 := HX.out.c0; have d1 := HX.out.c1)
  go_ret
  exact ⟨rz R.out, HBW.out.trans (HB1.out.mono (by simp))⟩
 have b0 : decide (p < 1) = false := by simp; omega
 by_cases g1 : ¬ (p ≤ 8)
 ·have b1 : decide (8 < p) = true := by simp; omega
  have R : Hk ((1 : Int) = z) := ⟨by rw [← E.out, show okC p s k ⟨n, u, t, wd, h, x, y⟩ = false by unfold okC baseB; simp; omega]; rfl⟩
  clear E
  go_enter Try.func63, Try.ntmps63
  go_wp2_with (go_at_call 71; (with_reducible refine (parts_any k _ hk1 hk2).mono ?_); rintro e w1 ⟨b, nn, L, rfl, hL, hlen, hnq, hb1, hbb, hlt, -⟩; (obtain rfl : b = w.heap.size + 1 := by simpa using hbb); clear hbb; have HX := Hk.mk (HBX.out.below hb1 (by simp)); have HL := Hk.mk hL; have HQ := Hk.mk hnq; have HB1 := Hk.mk hb1; have hn1 : 1 ≤ nn := (by have := partsL_some hk1 hk2; rw [hL, hlen] at this; exact this); have hn2 : nn ≤ 2 := (by have := (partsL_bd k).1; rw [hL, hlen] at this; exact this); have z0 : ((nn : Int) == 0) = false := (by simp; omega); clear hL hlen hnq hb1; have d0 := HX.out.c0; have d1 := HX.out.c1)
  go_ret
  exact ⟨rz R.out, HBW.out.trans (HB1.out.mono (by simp))⟩
 have b1 : decide (8 < p) = false := by simp; omega
 by_cases g2 : ¬ (0 ≤ s)
 ·have b2 : decide (s < 0) = true := by simp; omega
  have R : Hk ((1 : Int) = z) := ⟨by rw [← E.out, show okC p s k ⟨n, u, t, wd, h, x, y⟩ = false by unfold okC baseB; simp; omega]; rfl⟩
  clear E
  go_enter Try.func63, Try.ntmps63
  go_wp2_with (go_at_call 71; (with_reducible refine (parts_any k _ hk1 hk2).mono ?_); rintro e w1 ⟨b, nn, L, rfl, hL, hlen, hnq, hb1, hbb, hlt, -⟩; (obtain rfl : b = w.heap.size + 1 := by simpa using hbb); clear hbb; have HX := Hk.mk (HBX.out.below hb1 (by simp)); have HL := Hk.mk hL; have HQ := Hk.mk hnq; have HB1 := Hk.mk hb1; have hn1 : 1 ≤ nn := (by have := partsL_some hk1 hk2; rw [hL, hlen] at this; exact this); have hn2 : nn ≤ 2 := (by have := (partsL_bd k).1; rw [hL, hlen] at this; exact this); have z0 : ((nn : Int) == 0) = false := (by simp; omega); clear hL hlen hnq hb1; have d0 := HX.out.c0; have d1 := HX.out.c1)
  go_ret
  exact ⟨rz R.out, HBW.out.trans (HB1.out.mono (by simp))⟩
 have b2 : decide (s < 0) = false := by simp; omega
 by_cases g3 : ¬ (s ≤ 1099511627776)
 ·have b3 : decide (1099511627776 < s) = true := by simp; omega
  have R : Hk ((1 : Int) = z) := ⟨by rw [← E.out, show okC p s k ⟨n, u, t, wd, h, x, y⟩ = false by unfold okC baseB; simp; omega]; rfl⟩
  clear E
  go_enter Try.func63, Try.ntmps63
  go_wp2_with (go_at_call 71; (with_reducible refine (parts_any k _ hk1 hk2).mono ?_); rintro e w1 ⟨b, nn, L, rfl, hL, hlen, hnq, hb1, hbb, hlt, -⟩; (obtain rfl : b = w.heap.size + 1 := by simpa using hbb); clear hbb; have HX := Hk.mk (HBX.out.below hb1 (by simp)); have HL := Hk.mk hL; have HQ := Hk.mk hnq; have HB1 := Hk.mk hb1; have hn1 : 1 ≤ nn := (by have := partsL_some hk1 hk2; rw [hL, hlen] at this; exact this); have hn2 : nn ≤ 2 := (by have := (partsL_bd k).1; rw [hL, hlen] at this; exact this); have z0 : ((nn : Int) == 0) = false := (by simp; omega); clear hL hlen hnq hb1; have d0 := HX.out.c0; have d1 := HX.out.c1)
  go_ret
  exact ⟨rz R.out, HBW.out.trans (HB1.out.mono (by simp))⟩
 have b3 : decide (1099511627776 < s) = false := by simp; omega
 obtain ⟨r, hr⟩ : ∃ r, chkL (partsL k) ⟨n, u, t, wd, h, x, y⟩ = r := ⟨_, rfl⟩
 have R : Hk ((if r then (0 : Int) else 1) = z) := ⟨by
  rw [← E.out, ← hr]; unfold okC
  rw [show baseB p s = true by unfold baseB; simp; omega, show (partsL k).isEmpty = false by have := partsL_some hk1 hk2; cases hp : partsL k <;> simp_all]; rfl⟩
 have ER := Hk.mk hr
 clear hr E g0 g1 g2 g3
 go_enter Try.func63, Try.ntmps63
 go_wp2_with (go_at_call 71; (with_reducible refine (parts_any k _ hk1 hk2).mono ?_); rintro e w1 ⟨b, nn, L, rfl, hL, hlen, hnq, hb1, hbb, hlt, -⟩; (obtain rfl : b = w.heap.size + 1 := by simpa using hbb); clear hbb; have HX := Hk.mk (HBX.out.below hb1 (by simp)); have HL := Hk.mk hL; have HQ := Hk.mk hnq; have HB1 := Hk.mk hb1; have hn1 : 1 ≤ nn := (by have := partsL_some hk1 hk2; rw [hL, hlen] at this; exact this); have hn2 : nn ≤ 2 := (by have := (partsL_bd k).1; rw [hL, hlen] at this; exact this); have z0 : ((nn : Int) == 0) = false := (by simp; omega); clear hL hlen hnq hb1; have d0 := HX.out.c0; have d1 := HX.out.c1)
 have ER2 : Hk (chkL L ⟨n, u, t, wd, h, x, y⟩ = r) := ⟨by rw [← HL.out]; exact ER.out⟩
 have HLB : Hk (L.length = nn ∧ ∀ q ∈ L, 0 ≤ q ∧ q ≤ 5) := ⟨⟨HQ.out.len, by rw [← HL.out]; exact (partsL_bd k).2⟩⟩
 have HN1 : Hk (Nq w1 w.heap.size a m u) := ⟨(HN.out.below HBW.out (Nat.le_refl _)).below HB1.out (by simp)⟩
 have HB2 : Hk (Below w.heap.size w w1) := ⟨HBW.out.trans (HB1.out.mono (by simp))⟩
 clear d0 d1 HB1 HL ER HN HBX b0 b1 b2 b3 z0
 go_loopw [34] (fun i wr => ∃ (j : Nat) (n' : Int) (a' : Option Addr) (m' c' : Nat) (u' : List Int) (t' wd' h' x' y' : Int), i = .int .i64 j ∧ j ≤ nn ∧ m' ≤ m ∧ Hk (CmB wr w.heap.size p s k n' a' m' c' t' wd' h' x' y') ∧ Hk (Nq wr w.heap.size a' m' u') ∧ Hk (chkL (L.drop j) ⟨n', u', t', wd', h', x', y'⟩ = r) ∧ Hk (Below w.heap.size w wr) ∧ Hk (Nq wr wr.heap.size (some ⟨w.heap.size + 1, 0, none⟩) nn L)) (fun i _ => nn - (intOf i).toNat)
 case atStart => exact ⟨0, n, a, m, c, u, t, wd, h, x, y, rfl, by omega, by omega, HX, HN1, ⟨by simpa using ER2.out⟩, HB2, HQ⟩
 case round =>
  clear HX HN1 HB2 HQ ER2 hlt
  obtain ⟨j, n', a', m', c', u', t', wd', h', x', y', rfl, hj, hmm, HX, HN1, ER, HB, HQ⟩ := hrel
  obtain ⟨c0, c1, c2, c3, c4, c5, c6, c7, c8, c9, -⟩ := HX.out
  have hbs : w.heap.size + 1 < wr.heap.size := by
   have := HQ.out.rd (by omega)
   obtain ⟨b', off', e, h1, -⟩ := this
   injection e with e; injection e with e1 e2; omega
  by_cases hlt : j < nn
  ·have i1 : (0 : Int) ≤ (j : Int) := by omega
   have i2 : (j : Int) < (nn : Int) := by omega
   obtain ⟨b', off', eb, -, hc⟩ := HQ.out.rd (by omega)
   injection eb with eb
   injection eb with eb1 eb2
   subst eb1 eb2
   have hq := hc j hlt
   simp only [Nat.zero_add] at hq
   clear hc
   have hr := ER.out
   rw [drop_getD (by rw [HLB.out.1]; exact hlt), chkL] at hr
   obtain ⟨q0, q5⟩ := HLB.out.2 _ (getD_mem (by rw [HLB.out.1]; exact hlt))
   generalize L.getD j 0 = q at *
   have HNV := Hk.mk (HN1.out.mono (show w.heap.size ≤ wr.heap.size from HB.out.size))
   cases hv : vB q ⟨n', u', t', wd', h', x', y'⟩
   case false =>
    have V := Hk.mk hv
    have R2 : Hk ((1 : Int) = z) := ⟨by rw [← R.out, ← hr, hv]; rfl⟩
    clear hv hr
    go_wp2_with (go_at_call 72; (with_reducible refine (valid_as false q p s k n' a' m' c' u' t' wd' h' x' y' _ q0 q5 HNV.out (by omega) V).mono ?_); rintro e w2 ⟨rfl, hb2⟩; have HB2 := Hk.mk hb2; clear hb2)
    go_ret
    exact ⟨rz R2.out, HB.out.trans (HB2.out.mono HB.out.size)⟩
   case true =>
    have V := Hk.mk hv
    have R2 : Hk (chkL (L.drop (j + 1)) (eC q ⟨n', u', t', wd', h', x', y'⟩) = r) := ⟨by rw [← hr, hv]; rfl⟩
    have hws : w.heap.size < wr.heap.size := World.block_lt_of_cell? _ _ c0
    clear hv hr
    go_wp2_with (first | (go_at_call 72; (with_reducible refine (valid_as true q p s k n' a' m' c' u' t' wd' h' x' y' _ q0 q5 HNV.out (by omega) V).mono ?_); rintro e w2 ⟨rfl, hb2⟩; have HB2 := Hk.mk hb2; clear hb2 c0 c1 c2 c3 c4 c5 c6 c7 c8 c9; have HX2 := Hk.mk (HX.out.below HB2.out hws); have HN2 := Hk.mk (HN1.out.below HB2.out (Nat.le_of_lt hws))) | (go_at_call 73; (with_reducible refine (empty_any q w.heap.size p s k n' a' m' c' u' t' wd' h' x' y' _ q0 q5 HX2.out HN2.out).mono ?_); rintro e w3 ⟨n2, a2, m2, c2, u2, t2, wd2, h2, x2, y2, rfl, hX3, hE3, hN3, hm3, hF3, hs3⟩; have HX3 := Hk.mk hX3; have HN3 := Hk.mk hN3; have HF3 := Hk.mk hF3; have HE3 := Hk.mk hE3; have HS3 := Hk.mk hs3; clear hX3 hN3 hF3 hE3 hs3))
    go_roundw
    case rel =>
     have hb3 : Below w.heap.size w2 w3 := HF3.out.below (Nat.le_trans HB.out.size HB2.out.size) (fun j _ e => Nat.le_of_eq e.symm)
     refine ⟨j + 1, n2, a2, m2, c2, u2, t2, wd2, h2, x2, y2, by go_num, by omega, by omega, HX3, HN3, ⟨by rw [← HE3.out]; exact R2.out⟩, ⟨(HB.out.trans (HB2.out.mono HB.out.size)).trans hb3⟩, ⟨HQ.out.len, fun hn => ?_⟩⟩
     obtain ⟨b', off', e, h1, h2⟩ := HQ.out.rd hn
     injection e with e
     injection e with e1 e2
     subst e1 e2
     have := HF3.out.size
     have := HB2.out.size
     refine ⟨_, _, rfl, by omega, fun i hi => ?_⟩
     rw [HF3.out.cell (by omega) (by omega)]
     exact (HB2.out.cell (p := ⟨_, _, none⟩) (by omega)).trans (h2 i hi)
    case measure => simp [intOf]; omega
  ·have hjn : j = nn := by omega
   subst hjn
   have hr := ER.out
   rw [List.drop_of_length_le (by rw [HLB.out.1]; omega), chkL] at hr
   have hl0 := HN1.out.len
   clear HN1 ER HX HQ
   have FAIL : remB ⟨n', u', t', wd', h', x', y'⟩ = false → Hk ((1 : Int) = z) := fun h0 => ⟨by rw [← R.out, ← hr, h0]; rfl⟩
   have PASS : remB ⟨n', u', t', wd', h', x', y'⟩ = true → Hk ((0 : Int) = z) := fun h0 => ⟨by rw [← R.out, ← hr, h0]; rfl⟩
   clear hr
   by_cases en : n' = 0
   case neg =>
    have R2 := FAIL (by unfold remB; simp; intros; omega)
    clear FAIL PASS
    have f0 : (n' == 0) = false := by simp; omega
    have f1 : (n' != 0) = true := by simp; omega
    go_wp2
    go_ret
    exact ⟨rz R2.out, HB.out⟩
   subst en
   by_cases em : m' = 0
   case neg =>
    have R2 := FAIL (by unfold remB; simp; intro h0; rw [h0] at hl0; simp at hl0; omega)
    clear FAIL PASS hl0
    have f0 : decide ((0 : Int) < (m' : Int)) = true := by simp; omega
    go_wp2
    go_ret
    exact ⟨rz R2.out, HB.out⟩
   subst em
   obtain rfl : u' = [] := List.eq_nil_of_length_eq_zero hl0
   by_cases et : t' = 0
   case neg =>
    have R2 := FAIL (by unfold remB; simp; intros; omega)
    clear FAIL PASS
    have f0 : (t' == 0) = false := by simp; omega
    have f1 : (t' != 0) = true := by simp; omega
    go_wp2
    go_ret
    exact ⟨rz R2.out, HB.out⟩
   subst et
   by_cases ewd : wd' = 0
   case neg =>
    have R2 := FAIL (by unfold remB; simp; intros; omega)
    clear FAIL PASS
    have f0 : (wd' == 0) = false := by simp; omega
    have f1 : (wd' != 0) = true := by simp; omega
    go_wp2
    go_ret
    exact ⟨rz R2.out, HB.out⟩
   subst ewd
   by_cases eh : h' = 0
   case neg =>
    have R2 := FAIL (by unfold remB; simp; intros; omega)
    clear FAIL PASS
    have f0 : (h' == 0) = false := by simp; omega
    have f1 : (h' != 0) = true := by simp; omega
    go_wp2
    go_ret
    exact ⟨rz R2.out, HB.out⟩
   subst eh
   by_cases e1 : x' = 0
   case neg =>
    have R2 := FAIL (by unfold remB; simp; intros; omega)
    clear FAIL PASS
    have f0 : (x' == 0) = false := by simp; omega
    have f1 : (x' != 0) = true := by simp; omega
    go_wp2
    go_ret
    exact ⟨rz R2.out, HB.out⟩
   subst e1
   by_cases e2 : y' = 0
   case neg =>
    have R2 := FAIL (by unfold remB; simp; intros; omega)
    clear FAIL PASS
    have f0 : (y' == 0) = false := by simp; omega
    have f1 : (y' != 0) = true := by simp; omega
    go_wp2
    go_ret
    exact ⟨rz R2.out, HB.out⟩
   subst e2
   have R2 := PASS (by decide)
   clear FAIL PASS
   go_wp2
   go_ret
   exact ⟨rz R2.out, HB.out⟩
end Go.Proofs.Ytdpblimhfmfbnaa
namespace Go.Proofs.Ytdpblimhfmfbnaa
open Go.RowKit
def eqcB (p s k n : Int) (u : List Int) (t wd h x y p' s' k' n' : Int) (u' : List Int) (t' wd' h' x' y' : Int) : Bool := decide (p = p' ∧ s = s' ∧ k = k' ∧ n = n' ∧ u = u' ∧ t = t' ∧ wd = wd' ∧ h = h' ∧ x = x' ∧ y = y')
theorem Fr.owni {M : Nat → Prop} {w w' : World} {base n : Nat} {v : Value} {xs : List Int} (h : OwnI w base v n xs) (k : Fr M w w') (hm : ∀ j, v.ownBlock = some j → ¬ M j) : OwnI w' base v n xs := ⟨h.1, k.row h.2 hm⟩
theorem OwnI.weak {w : World} {base base' n : Nat} {v : Value} {xs : List Int} (h : OwnI w base v n xs) (hb : base' ≤ base) : OwnI w base' v n xs := by
 refine ⟨h.1, h.2.1, ?_⟩
 rcases h.2.2 with e | ⟨g, cap, cur, e1, hg, e2⟩
 ·exact .inl e
 ·exact .inr ⟨g, cap, cur, e1, by omega, e2⟩
def CopyC (p s k n : Int) (a : Option Addr) (m c : Nat) (u : List Int) (t wd h x y : Int) (w : World) (e : Ending) (w' : World) : Prop := ∃ a2 c2, e = .returned (.agg (jkC p s k n a2 m c2 t wd h x y)) ∧ m ≤ c2 ∧ OwnI w' w.heap.size (.slice a2 m c2) m u ∧ Below w.heap.size w w'
end Go.Proofs.Ytdpblimhfmfbnaa
