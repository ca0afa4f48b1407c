import Derived.Test.YtejilcnldllhpaaUg
import Derived.Deep.RegionHeld3
import Derived.Test.YtejilcnldllhpaaUe
import Derived.WalkKit
import Derived.Below
import Derived.Test.YtejilcnldllhpaaProg
import Derived.OneCell
import Derived.Laws.Rows
import Derived.Test.YtejilcnldllhpaaUa
import Derived.Test.YtejilcnldllhpaaUb
/- Layer 22: what the statements call beside. -/
namespace Go.Proofs.Ytejilcnldllhpaa
open Go.RowKit
set_option linter.unusedVariables false
theorem lawnum22_any (n : Int) (w : World) : Calls Try.prog 19 #[.int .i64 n] w fun e w' => e = .returned (.int .i64 n) ∧ w = w' := by
  go_enter Try.func19, Try.ntmps19
  go_wp2
  go_ret
  exact ⟨rfl, rfl⟩
theorem heavy22_as (r : Bool) (p s k n : Int) (a : Option Addr) (m c : Nat) (t wd h x y : Int) (ax : Option Addr) (nx cx : Nat) (w : World) (E : Hk (decide (300 < m ∨ 3000 < nx) = r)) :
    Calls Try.prog 15 #[.agg #[.int .i64 p, .int .i64 s, .int .i64 k, .int .i64 n, .slice a m c, .int .i64 t, .int .i64 wd, .int .i64 h, .int .i64 x, .int .i64 y, .slice ax nx cx]] w fun e w' => e = .returned (.bool r) ∧ Below w.heap.size w w' := by
  by_cases h1 : 300 < m
  · have b0 : decide ((300 : Int) < (m : Int)) = true := by simp; omega
    have R : Hk (true = r) := ⟨by rw [← E.out]; simp; omega⟩
    clear E h1
    go_enter Try.func15, Try.ntmps15
    go_wp2
    go_ret
    exact ⟨rb R.out, (Below.refl _ _).alloc (Nat.le_refl _) _⟩
  have b0 : decide ((300 : Int) < (m : Int)) = false := by simp; omega
  by_cases h2 : 3000 < nx
  · have b1 : decide ((3000 : Int) < (nx : Int)) = true := by simp; omega
    have R : Hk (true = r) := ⟨by rw [← E.out]; simp; omega⟩
    clear E h1 h2
    go_enter Try.func15, Try.ntmps15
    go_wp2
    go_ret
    exact ⟨rb R.out, (Below.refl _ _).alloc (Nat.le_refl _) _⟩
  · have b1 : decide ((3000 : Int) < (nx : Int)) = false := by simp; omega
    have R : Hk (false = r) := ⟨by rw [← E.out]; simp; omega⟩
    clear E h1 h2
    go_enter Try.func15, Try.ntmps15
    go_wp2
    go_ret
    exact ⟨rb R.out, (Below.refl _ _).alloc (Nat.le_refl _) _⟩
theorem wk_bytes : bytesC 1 2 3 ⟨0, [5], 0, 0, 0, 0, 0⟩ = [3, 1, 2, 1, 5] := by
  simp [bytesC, partsL, wrB, uL, Wr.numL_low]
theorem wk_byt : ∀ b ∈ ([3, 1, 2, 1, 5] : List Int), Fn.Byt b := by
  intro b hb
  simp at hb
  unfold Fn.Byt; omega
theorem wakes22_any (w : World) : Calls Try.prog 24 #[] w fun e w' => e = .returned (.bool true) ∧ Below w.heap.size w w' := by
  have E : Hk (okC 1 2 3 ⟨0, [5], 0, 0, 0, 0, 0⟩ = true) := ⟨by decide⟩
  have HQ := Hk.mk (lit1 w 5 3)
  have HB := Hk.mk (bytes22_yes 1 2 3 0 (some ⟨w.heap.size, 0, none⟩) 1 1 [5] 0 0 0 0 0 _ HQ.out (by omega) E)
  rw [wk_bytes] at HB
  go_enter Try.func24, Try.ntmps24
  go_wp2_with (first | (go_at_call 17; refine HB.out.mono ?_; rintro e w1 ⟨v, rfl, ho, hb⟩; obtain ⟨a, c, rfl, hnc, hby, hfr⟩ := ho.by_; have HY := Hk.mk hby; have HB1 := Hk.mk hb; clear hfr ho hby hb) | (go_at_call 19; (with_reducible refine (lawnum22_any _ _).mono ?_); rintro e w' ⟨rfl, rfl⟩) | (go_at_call 21; refine (eqb_yes _ _ 5 _ _ [3, 1, 2, 1, 5] _ ?_ ?_ (by omega)).mono ?_; exact (HY.out.alloc (Nat.le_refl _) _).mono (by simp); exact By.lit _ [3, 1, 2, 1, 5] _ _ _ 5 rfl wk_byt (by simp); rintro e w' ⟨rfl, m, rfl⟩))
  go_ret
  exact ⟨rfl, below_drewN ((((Below.refl _ _).alloc (Nat.le_refl _) _).trans (HB1.out.mono (by simp))).alloc (by have := HB1.out.size; simp at this; omega) _) m⟩
end Go.Proofs.Ytejilcnldllhpaa
/- Bytes appended in a region that draws its order. -/
namespace Go.Proofs.Ytejilcnldllhpaa
open Go.RowKit
set_option linter.unusedVariables false
theorem wp_append_by (w : World) {o : Oper} {a : Act} {K : Act → World → Prop} {Q : Exit → Act → World → Prop} (s x : Operand)
    (ho : o.op = .call { callee := .builtin .append, args := #[s, x], argTypes := #[29, 29] })
    (base : Nat) (v : Value) (n : Nat) (xs : List Int) (hs : a.eval s = v) (hown : OwnB w base v n xs)
    (B : Nat) (A : Option Addr) (m c : Nat) (ys : List Int) (hx : a.eval x = .slice A m c) (hby : By w B A m ys) (hc : A = none → c = 0) (hlen : n + m ≤ 1099511627776) (hbase : base ≤ w.heap.size)
    (h : ∀ v' w', OwnB w' base v' (n + m) (xs ++ ys) → w.grownBy w' v.ownBlock → K (a.put o.dst v') w') : o.wp Try.prog a w K Q := by
  obtain ⟨i0, hi, hz0, hz1, hz2⟩ := info_parts info_u8
  have hmem : ∀ b ∈ xs ++ ys, Fn.Byt b := fun b hb => by
    rcases List.mem_append.1 hb with h1 | h1
    · exact hown.2.1 b h1
    · exact hby.byt b h1
  cases A with
  | none =>
    obtain rfl : m = 0 := by
      rcases Nat.eq_zero_or_pos m with h0 | h0
      · exact h0
      · obtain ⟨_, _, e, _⟩ := hby.at_ h0; cases e
    obtain rfl : c = 0 := hc rfl
    obtain rfl : ys = [] := List.eq_nil_of_length_eq_zero hby.len
    have hrun := run_append_owned_none (P := Try.prog) (w := w) base 29 o.type 5 i0 1 Try.underlying29 hi v n _ hown.2.2
    unfold Oper.wp
    simp [execOp, ho, resolve, invoke, builtin, hs, hx, hrun, Result.andThen]
    exact h v w (by simpa using hown) (World.grownBy.refl _ _)
  | some ad =>
    refine wp_append_own w s x _ ho base 5 i0 (.int .u8 0) 1 1 Try.underlying29 hi hz0 hz1 hz2 rfl (by decide) v n (xs.map (Value.int .u8)) hs hown.2.2 ad m c (ys.map (Value.int .u8)) hx (by simp [hby.len]) ?_ ?_ (by unfold maxLen; omega) (by omega) hbase ?_
    · intro j u hj
      have hl := hby.len
      have hjl : j < ys.length := by
        rcases Nat.lt_or_ge j ys.length with h0 | h0
        · exact h0
        · rw [List.getElem?_eq_none (by simpa using h0)] at hj; cases hj
      obtain ⟨b, off, e, _, hcell⟩ := hby.at_ (by omega)
      obtain rfl : ad = ⟨b, off, none⟩ := by injection e
      have h1 := hcell j (by omega)
      have h2 : (⟨b, off, none⟩ : Addr).add j = ⟨b, off + j, none⟩ := by unfold Addr.add; split <;> simp_all
      rw [h2, h1, ← hj]
      simp [List.getD, List.getElem?_eq_getElem hjl]
    · intro u hu
      obtain ⟨z, _, rfl⟩ := List.mem_map.1 hu
      rfl
    · intro v' w' h2 h3 _
      exact h v' w' ⟨by simp [hown.1, hby.len], hmem, by simpa using h2⟩ h3
theorem step_append_by (w : World) {ops : Array Oper} {o : Oper} {a : Act} {K : Act → World → Prop} {Q : Exit → Act → World → Prop} {E : Prop} (hw : Region.wanted o (yielded ops a.tmps) = true) (s x : Operand)
    (ho : o.op = .call { callee := .builtin .append, args := #[s, x], argTypes := #[29, 29] })
    (base : Nat) (v : Value) (n : Nat) (xs : List Int) (hs : a.eval s = v) (hown : OwnB w base v n xs)
    (B : Nat) (A : Option Addr) (m c : Nat) (ys : List Int) (hx : a.eval x = .slice A m c) (hby : By w B A m ys) (hc : A = none → c = 0) (hlen : n + m ≤ 1099511627776) (hbase : base ≤ w.heap.size)
    (h : ∀ v' w', OwnB w' base v' (n + m) (xs ++ ys) → w.grownBy w' v.ownBlock → K (a.put o.dst v') w') :
    if Region.wanted o (yielded ops a.tmps) = true then Oper.wp Try.prog o a w K Q else E := by
  rw [if_pos hw]
  exact wp_append_by w s x ho base v n xs hs hown B A m c ys hx hby hc hlen hbase h
end Go.Proofs.Ytejilcnldllhpaa
/- Rules by which a walk reads old cells in a later world. -/
namespace Go.Proofs.Ytejilcnldllhpaa
open Go.RowKit
theorem kw_rules {N : Nat} {W X : World} (h : Below N W X) (hN : N ≤ W.heap.size) :
    (∀ b o, b < N → X.cell? ⟨b, o, none⟩ = W.cell? ⟨b, o, none⟩) ∧ (∀ b o, b < N → X.frozen? ⟨b, o, none⟩ = W.frozen? ⟨b, o, none⟩) ∧ (∀ b, b < N → b < X.heap.size) ∧ (∀ b, b < N → ¬ b = X.heap.size) ∧ (∀ b, b < N → ¬ X.heap.size = b) := by
  have hs := h.size
  exact ⟨fun b o hb => h.cell (p := ⟨b, o, none⟩) hb, fun b o hb => h.frozen (p := ⟨b, o, none⟩) hb, fun b hb => by omega, fun b hb => by omega, fun b hb => by omega⟩
theorem kw_step {N : Nat} {W X Y : World} (h : Below N W X) (hN : N ≤ W.heap.size) (hb : Below X.heap.size X Y) : Below N W Y := h.trans (hb.mono (Nat.le_trans hN h.size))
theorem kw_drew {N : Nat} {W X : World} (h : Below N W X) : Below N W X.drew := h.drew
theorem bset {B : Nat} {w X : World} (h : Below B w X) {b : Nat} (off : Nat) (hb : B ≤ b) (v : Value) : Below B w (X.setCell ⟨b, off, none⟩ v) := Below.setCell (p := ⟨b, off, none⟩) h hb v
theorem kw_S {N : Nat} {W X : World} (h : Below N W X) : (∀ b o, b < N → X.cell? ⟨b, o, none⟩ = W.cell? ⟨b, o, none⟩) ∧ Below N W X := ⟨fun b o hb => h.cell (p := ⟨b, o, none⟩) hb, h⟩
theorem kw_size {N : Nat} {W X : World} (h : Below N W X) (hN : N ≤ W.heap.size) : N ≤ X.heap.size := Nat.le_trans hN h.size
end Go.Proofs.Ytejilcnldllhpaa
/- Regions whose orders meet: states are merged; blocks that the region itself makes are known whole. -/
namespace Go.Proofs.Ytejilcnldllhpaa
open Go.RowKit
theorem reg_merge {p q : Prop} (f : Hk p → q) (x : p) : q := f ⟨x⟩
theorem reg_cast {P : Program} {md : Region.Mode} {ops : Array Oper} {Q : Exit → Act → World → Prop} {S : World → Prop} {n : Nat} {l l' : Array Bool} {a : Act} {w : World} (h : l = l') (k : wpAnyH P md ops Q S n l' a w) : wpAnyH P md ops Q S n l a w := h ▸ k
/-- The block holds just these cells, and may be written. -/
structure Bk (w : World) (P : Nat) (cs : Array Value) : Prop where
  bl : ∃ T, w.heap[P]? = some (.cells cs T (0, 0))
theorem Bk.lt {w : World} {P : Nat} {cs : Array Value} (h : Bk w P cs) : P < w.heap.size := by
  obtain ⟨T, h⟩ := h.bl; exact lt_of_block h
theorem Bk.c {w : World} {P : Nat} {cs : Array Value} (h : Bk w P cs) (i : Nat) : w.cell? ⟨P, i, none⟩ = cs[i]? := by
  obtain ⟨T, h⟩ := h.bl; simp [World.cell?, h]
theorem Bk.f {w : World} {P : Nat} {cs : Array Value} (h : Bk w P cs) (i : Nat) : w.frozen? ⟨P, i, none⟩ = false := by
  obtain ⟨T, h⟩ := h.bl; simp [World.frozen?, h]
theorem Bk.new (w : World) (cs : Array Value) (T : TypeId) : Bk (w.alloc (.cells cs T)) w.heap.size cs := ⟨T, heap_alloc_new w _⟩
theorem Bk.al {w : World} {P : Nat} {cs : Array Value} (h : Bk w P cs) (o : Obj) : Bk (w.alloc o) P cs := by
  have hlt := h.lt
  obtain ⟨T, h⟩ := h.bl; exact ⟨T, by rw [Below.heap_alloc w o P hlt]; exact h⟩
theorem Bk.below {w w' : World} {P : Nat} {cs : Array Value} (h : Bk w P cs) (hb : Below w.heap.size w w') : Bk w' P cs := by
  have hlt := h.lt
  obtain ⟨T, h⟩ := h.bl; exact ⟨T, by rw [hb.block P hlt]; exact h⟩
theorem Bk.drew {w : World} {P : Nat} {cs : Array Value} (h : Bk w P cs) : Bk w.drew P cs := ⟨h.bl⟩
theorem Bk.drewN {w : World} {P : Nat} {cs : Array Value} (h : Bk w P cs) (n : Nat) : Bk (w.drewN n) P cs := ⟨h.bl⟩
theorem Bk.oth {w : World} {P Q : Nat} {cs : Array Value} (h : Bk w P cs) (hn : ¬ P = Q) (i : Nat) (v : Value) : Bk (w.setCell ⟨Q, i, none⟩ v) P cs := by
  obtain ⟨T, h⟩ := h.bl; exact ⟨T, by rw [Below.heap_setCell _ _ _ _ (by simpa using hn)]; exact h⟩
theorem Bk.set {w : World} {P : Nat} {cs : Array Value} (h : Bk w P cs) (i : Nat) (v : Value) : Bk (w.setCell ⟨P, i, none⟩ v) P (cs.setIfInBounds i v) := by
  have hlt := h.lt
  obtain ⟨T, h⟩ := h.bl
  refine ⟨T, ?_⟩
  have h' : w.heap[P] = .cells cs T (0, 0) := by simpa [Array.getElem?_eq_getElem hlt] using h
  show (w.heap.modify P _)[P]? = _
  rw [Array.getElem?_eq_getElem (by simpa using hlt), Array.getElem_modify_self, h']
  rfl
theorem Bk.ne {w : World} {P : Nat} {cs : Array Value} (h : Bk w P cs) : ¬ P = w.heap.size := by have := h.lt; omega
theorem Bk.ne' {w : World} {P : Nat} {cs : Array Value} (h : Bk w P cs) : ¬ w.heap.size = P := by have := h.lt; omega
theorem kw_al {N : Nat} {W X : World} (h : Below N W X) (hN : N ≤ W.heap.size) (o : Obj) : Below N W (X.alloc o) := h.alloc (Nat.le_trans hN h.size) o
theorem kw_le {N : Nat} {W X : World} (h : Below N W X) (hN : N ≤ W.heap.size) : N ≤ X.heap.size := Nat.le_trans hN h.size
theorem kw_s {N : Nat} {W X : World} (h : Below N W X) : ∀ b o, b < N → X.cell? ⟨b, o, none⟩ = W.cell? ⟨b, o, none⟩ := fun b o hb => h.cell (p := ⟨b, o, none⟩) hb
end Go.Proofs.Ytejilcnldllhpaa
/- What type a block is of: so two blocks are told apart. -/
namespace Go.Proofs.Ytejilcnldllhpaa
open Go.RowKit
/-- The block is one of cells of this type. -/
structure Ty (w : World) (P : Nat) (T : TypeId) : Prop where
  ex : ∃ cs fr, w.heap[P]? = some (.cells cs T fr)
theorem Ty.lt {w : World} {P : Nat} {T : TypeId} (h : Ty w P T) : P < w.heap.size := by
  obtain ⟨cs, fr, h⟩ := h.ex; exact lt_of_block h
theorem Ty.new (w : World) (cs : Array Value) (T : TypeId) : Ty (w.alloc (.cells cs T)) w.heap.size T := ⟨cs, _, heap_alloc_new w _⟩
theorem Ty.of_block {w w' : World} {P : Nat} {T : TypeId} (h : Ty w P T) (e : w'.heap[P]? = w.heap[P]?) : Ty w' P T := by
  obtain ⟨cs, fr, h⟩ := h.ex; exact ⟨cs, fr, by rw [e]; exact h⟩
theorem Ty.al {w : World} {P : Nat} {T : TypeId} (h : Ty w P T) (o : Obj) : Ty (w.alloc o) P T := h.of_block (Below.heap_alloc w o P h.lt)
theorem Ty.below {w w' : World} {P : Nat} {T : TypeId} (h : Ty w P T) (hb : Below w.heap.size w w') : Ty w' P T := h.of_block (hb.block P h.lt)
theorem Ty.set {w : World} {P : Nat} {T : TypeId} (h : Ty w P T) (p : Addr) (v : Value) : Ty (w.setCell p v) P T := by
  by_cases e : P = p.block
  · subst e
    have hlt := h.lt
    obtain ⟨cs, fr, h⟩ := h.ex
    have h' : w.heap[p.block] = .cells cs T fr := by simpa [Array.getElem?_eq_getElem hlt] using h
    refine ⟨(if p.spot.isSome then cs else cs.setIfInBounds p.off v), fr, ?_⟩
    show (w.heap.modify p.block _)[p.block]? = _
    rw [Array.getElem?_eq_getElem (by simpa using hlt), Array.getElem_modify_self, h']
  · exact h.of_block (Below.heap_setCell _ _ _ _ e)
theorem Ty.grown {w w' : World} {P : Nat} {T : TypeId} {row : Option Nat} (h : Ty w P T) (hg : w.grownBy w' row) (hne : row ≠ some P) : Ty w' P T := h.of_block (hg.block P h.lt (fun e => hne e.symm))
theorem Bk.grown {w w' : World} {P : Nat} {cs : Array Value} {row : Option Nat} (h : Bk w P cs) (hg : w.grownBy w' row) (hne : row ≠ some P) : Bk w' P cs := by
  have hlt := h.lt
  obtain ⟨T, h⟩ := h.bl; exact ⟨T, by rw [hg.block P hlt (fun e => hne e.symm)]; exact h⟩
/-- A row of the call's own lies in a block of its own type. -/
theorem row_ty_ne {w : World} {base size n P : Nat} {e T : TypeId} {v : Value} {xs : List Value} (h : w.ownsRow base e size v n xs) (ht : Ty w P T) (hT : T ≠ e) : v.ownBlock ≠ some P := by
  intro hb
  rcases h.2 with ⟨rfl, _⟩ | ⟨g, cap, cur, rfl, _, hh, _⟩
  · cases hb
  · simp [Value.ownBlock] at hb
    subst hb
    obtain ⟨cs, fr, h2⟩ := ht.ex
    rw [hh] at h2
    simp at h2
    exact hT h2.2.1.symm
end Go.Proofs.Ytejilcnldllhpaa
