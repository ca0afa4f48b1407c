import Derived.Laws.AppendOwnNone
import Derived.Test.YtgmhalcofcokbaaVa
import Derived.StillTailTactics
import Derived.ProofKit
import Derived.OpenShut
import Derived.ShutString
import Derived.ChangeOld
import Derived.Below
import Derived.Deep.Slices
import Derived.Deep.Fields
import Derived.ChangeSame
import Derived.Test.YtgmhalcofcokbaaRows
import Derived.Test.YtgmhalcofcokbaaChecked
/- Bytes appended to bytes of the call's own. -/
namespace Go.Proofs.Ytgmhalcofcokbaa
open Go.RowKit
set_option linter.unusedVariables false
/-- 'append(v, x...)': v the call's own, x whatever reads as bytes. -/
theorem wpList_append_by (w : World) {ops : Array Oper} {rest : List Oper} {o : Oper} {a : Act} {Q : Exit → Act → World → Prop} (hgd : o.guard = none) (s x : Operand)
    (ho : o.op = .call { callee := .builtin .append, args := #[s, x], argTypes := #[37, 37] })
    (base : Nat) (v : Value) (n : Nat) (xs : List Int) (hs : a.eval s = v) (hown : OwnB w base v n xs)
    (B : Nat) (A : Option Addr) (m c : Nat) (ys : List Int) (hx : a.eval x = .slice A m c) (hby : By w B A m ys) (hc : A = none → c = 0) (hlen : n + m ≤ 1099511627776) (hbase : base ≤ w.heap.size)
    (h : ∀ v' w', OwnB w' base v' (n + m) (xs ++ ys) → w.grownBy w' v.ownBlock → wpList Try.prog ops Q rest (a.put o.dst v') w') : wpList Try.prog ops Q (o :: rest) a w := by
  obtain ⟨i0, hi, hz0, hz1, hz2⟩ := info_parts info_u8
  have hmem : ∀ b ∈ xs ++ ys, Fn.Byt b := fun b hb => by
    rcases List.mem_append.1 hb with h1 | h1
    · exact hown.2.1 b h1
    · exact hby.byt b h1
  cases A with
  | none =>
    obtain rfl : m = 0 := by
      rcases Nat.eq_zero_or_pos m with h0 | h0
      · exact h0
      · obtain ⟨_, _, e, _⟩ := hby.at_ h0; cases e
    obtain rfl : c = 0 := hc rfl
    obtain rfl : ys = [] := List.eq_nil_of_length_eq_zero hby.len
    exact wpList_append_own_none hgd s x _ ho base 5 i0 1 Try.underlying37 hi v n _ hs hown.2.2 hx (h v w (by simpa using hown) (World.grownBy.refl _ _))
  | some ad =>
    refine wpList_append_own w hgd s x _ ho base 5 i0 (.int .u8 0) 1 1 Try.underlying37 hi hz0 hz1 hz2 rfl (by decide) v n (xs.map (Value.int .u8)) hs hown.2.2 ad m c (ys.map (Value.int .u8)) hx (by simp [hby.len]) ?_ ?_ (by unfold maxLen; omega) (by omega) hbase ?_
    · intro j u hj
      have hl := hby.len
      have hjl : j < ys.length := by
        rcases Nat.lt_or_ge j ys.length with h0 | h0
        · exact h0
        · rw [List.getElem?_eq_none (by simpa using h0)] at hj; cases hj
      obtain ⟨b, off, e, _, hcell⟩ := hby.at_ (by omega)
      obtain rfl : ad = ⟨b, off, none⟩ := by injection e
      have h1 := hcell j (by omega)
      have h2 : (⟨b, off, none⟩ : Addr).add j = ⟨b, off + j, none⟩ := by unfold Addr.add; split <;> simp_all
      rw [h2, h1, ← hj]
      simp [List.getD, List.getElem?_eq_getElem hjl]
    · intro u hu
      obtain ⟨z, _, rfl⟩ := List.mem_map.1 hu
      rfl
    · intro v' w' h2 h3 _
      exact h v' w' ⟨by simp [hown.1, hby.len], hmem, by simpa using h2⟩ h3
theorem OwnB.next {w w0 w1 : World} {q : Nat} {v : Value} {p : List Int} (h : OwnB w w0.heap.size v q p) (hb : Below w0.heap.size w0 w) (hg : w.grownBy w1 v.ownBlock) : Below w0.heap.size w0 w1 :=
  hb.grown hg hb.size (fun g hg => (h.lt g hg).1)
end Go.Proofs.Ytgmhalcofcokbaa
/- Layer 3: what each function answers. -/
namespace Go.Proofs.Ytgmhalcofcokbaa
open Go.RowKit
set_option linter.unusedVariables false
end Go.Proofs.Ytgmhalcofcokbaa
/- Layer 3: sums by another name. -/
namespace Go.Proofs.Ytgmhalcofcokbaa
open Go.RowKit
set_option linter.unusedVariables false
theorem By.cut {w : World} {B n c k b off : Nat} {xs : List Int} (h : By w B (some ⟨b, off, none⟩) n xs) (hk : k ≤ n) (hc : n ≤ c) : By w B (if c = k then some ⟨b, off, none⟩ else some ⟨b, off + k, none⟩) (n - k) (xs.drop k) := by
  by_cases h1 : c = k
  · have hl := h.len
    rw [List.drop_of_length_le (by omega), show n - k = 0 by omega]; exact By.nil _ _ _
  · rw [if_neg h1]; exact h.tail hk
end Go.Proofs.Ytgmhalcofcokbaa
/- Layer 4: bytes with their number ahead. -/
namespace Go.Proofs.Ytgmhalcofcokbaa
open Go.RowKit
set_option linter.unusedVariables false
def rawL (xs : List Int) : List Int := Wr.numL xs.length ++ xs
set_option maxRecDepth 100000 in
theorem raw_any (a : Option Addr) (n c : Nat) (xs : List Int) (w : World) (h : By w w.heap.size a n xs) (hc : a = none → c = 0) (hn : n ≤ 1048576) :
    Calls Try.prog 20 #[.slice a n c] w fun e w' => ∃ v, e = .returned (.tuple #[v, .int .i64 0]) ∧ OwnB w' w.heap.size v (rawL xs).length (rawL xs) ∧ Below w.heap.size w w' := by
  have H := Hk.mk h
  have HC := Hk.mk hc
  have h9 := Hk.mk (Wr.numL_nine (n := n) (by omega))
  clear h hc
  go_enter Try.func20, Try.ntmps20
  go_wp2_with (first | (go_at_call 14; (with_reducible refine (num_any n _ (by omega)).mono ?_); rintro e w1 ⟨v, rfl, ho, hb⟩) | (refine wpList_append_by _ rfl (.tmp 15) (.tmp 16) rfl w.heap.size v (Wr.numL n).length (Wr.numL n) rfl ho w.heap.size a n c xs rfl (H.out.below hb (Nat.le_refl _)) HC.out (by have := h9.out; omega) hb.size ?_; intro v2 w2 ho2 hg2))
  go_ret2
  have e : rawL xs = Wr.numL n ++ xs := by unfold rawL; rw [H.out.len]
  rw [e, show (Wr.numL n ++ xs).length = (Wr.numL n).length + n by simp [H.out.len]]
  exact ⟨v2, rfl, ho2, ho.next hb hg2⟩
def rawErr (xs : List Int) : Int := if (Wr.getS xs).2.2 = 0 then (if 1048576 < (Wr.getS xs).1 then 1 else if (xs.length : Int) - (Wr.getS xs).2.1 < (Wr.getS xs).1 then 11 else 0) else (Wr.getS xs).2.2
theorem raw_cases (xs : List Int) (hx : ∀ b ∈ xs, Fn.Byt b) : ∃ (N K : Nat) (E : Int), Hk (Wr.getS xs = ((N : Int), (K : Int), E)) ∧ K ≤ xs.length ∧ (N : Int) ≤ 9223372036854775807 ∧
    ((E ≠ 0 ∧ rawErr xs = E) ∨ (E = 0 ∧ 1 ≤ K ∧ 1048576 < N ∧ rawErr xs = 1) ∨ (E = 0 ∧ 1 ≤ K ∧ N ≤ 1048576 ∧ xs.length - K < N ∧ rawErr xs = 11) ∨ (E = 0 ∧ 1 ≤ K ∧ N ≤ 1048576 ∧ K + N ≤ xs.length ∧ rawErr xs = 0)) := by
  have hb := Wr.getS_bd hx
  unfold rawErr
  obtain ⟨R, hR⟩ : ∃ R, Wr.getS xs = R := ⟨_, rfl⟩
  rw [hR] at hb ⊢
  obtain ⟨N, K, E⟩ := R
  unfold Wr.GetOk at hb
  obtain ⟨h1, h2, h3, h4, h5, h6⟩ := hb
  simp only at h1 h2 h3 h4 h5 h6 ⊢
  obtain ⟨N, rfl⟩ := Int.eq_ofNat_of_zero_le h1
  obtain ⟨K, rfl⟩ := Int.eq_ofNat_of_zero_le h3
  refine ⟨N, K, E, ⟨rfl⟩, by omega, h2, ?_⟩
  by_cases he : E = 0
  · subst he
    rw [if_pos rfl]
    by_cases g1 : 1048576 < (N : Int)
    · rw [if_pos g1]; right; left; exact ⟨rfl, by omega, by omega, rfl⟩
    · rw [if_neg g1]
      by_cases g2 : (xs.length : Int) - (K : Int) < (N : Int)
      · rw [if_pos g2]; right; right; left; exact ⟨rfl, by omega, by omega, by omega, rfl⟩
      · rw [if_neg g2]; right; right; right; exact ⟨rfl, by omega, by omega, by omega, rfl⟩
  · rw [if_neg he]; exact .inl ⟨he, rfl⟩
def rawK (xs : List Int) : Int := (Wr.getS xs).2.1 + (Wr.getS xs).1
def rawN (xs : List Int) : Nat := (Wr.getS xs).1.toNat
def rawX (xs : List Int) : List Int := (xs.drop (Wr.getS xs).2.1.toNat).take (Wr.getS xs).1.toNat
set_option maxRecDepth 100000 in
theorem getraw_bad (a : Option Addr) (n c : Nat) (xs : List Int) (E0 : Int) (w : World) (h : By w w.heap.size a n xs) (hn : n ≤ 1099511627776) (hE : Hk (rawErr xs = E0)) (h0 : E0 ≠ 0) :
    Calls Try.prog 21 #[.slice a n c] w fun e w' => e = .returned (.tuple #[.slice none 0 0, .int .i64 0, .int .i64 E0]) ∧ w = w' := by
  have HG := Hk.mk (getnum_any a n c xs w h hn)
  obtain ⟨N, K, E, HS, hK, hN, hcase⟩ := raw_cases xs h.byt
  have hl := h.len
  rw [hl] at hK hcase
  rw [HS.out] at HG
  simp only at HG
  clear h hl
  rcases hcase with ⟨he, h2⟩ | ⟨rfl, h1, h3, h2⟩ | ⟨rfl, h1, h3, h4, h2⟩ | ⟨rfl, h1, h3, h4, h2⟩
  · rw [hE.out] at h2
    subst h2
    have g1 : (E0 == 0) = false := by simpa using h0
    have g2 : (E0 != 0) = true := by simpa using h0
    go_enter Try.func21, Try.ntmps21
    go_wp2_with (go_at_call 16; refine HG.out.mono ?_; rintro e w' ⟨rfl, rfl⟩)
    go_ret3
    exact ⟨rfl, rfl⟩
  · rw [hE.out] at h2
    subst h2
    have g2 : decide (1048576 < (N : Int)) = true := by simp; omega
    go_enter Try.func21, Try.ntmps21
    go_wp2_with (go_at_call 16; refine HG.out.mono ?_; rintro e w' ⟨rfl, rfl⟩)
    go_ret3
    exact ⟨rfl, rfl⟩
  · rw [hE.out] at h2
    subst h2
    have g2 : decide (1048576 < (N : Int)) = false := by simp; omega
    have g3 : decide ((n : Int) - (K : Int) < (N : Int)) = true := by simp; omega
    have i1 : (K : Int) ≤ (n : Int) := by omega
    have i2 : (n : Int) ≤ 1099511627776 := by omega
    go_enter Try.func21, Try.ntmps21
    go_wp2_with (go_at_call 16; refine HG.out.mono ?_; rintro e w' ⟨rfl, rfl⟩)
    go_ret3
    exact ⟨rfl, rfl⟩
  · exact absurd (hE.out.symm.trans h2) h0
set_option maxRecDepth 100000 in
theorem getraw_ok (a : Option Addr) (n c : Nat) (xs : List Int) (w : World) (h : By w w.heap.size a n xs) (hnc : n ≤ c) (hcm : c ≤ 9223372036854775807) (hn : n ≤ 1099511627776) (hE : Hk (rawErr xs = 0)) :
    Calls Try.prog 21 #[.slice a n c] w fun e w' => ∃ v, e = .returned (.tuple #[v, .int .i64 (rawK xs), .int .i64 0]) ∧ OwnB w' w.heap.size v (rawN xs) (rawX xs) ∧ Below w.heap.size w w' := by
  have HG := Hk.mk (getnum_any a n c xs w h hn)
  obtain ⟨N, K, E, HS, hK, hN, hcase⟩ := raw_cases xs h.byt
  have hl := h.len
  rw [hl] at hK hcase
  rw [HS.out] at HG
  simp only at HG
  obtain ⟨rfl, h1, h3, h4⟩ : E = 0 ∧ 1 ≤ K ∧ N ≤ 1048576 ∧ K + N ≤ n := by
    have := hE.out
    rcases hcase with ⟨he, h2⟩ | ⟨rfl, h1, h3, h2⟩ | ⟨rfl, h1, h3, h4, h2⟩ | ⟨rfl, h1, h3, h4, h2⟩ <;> omega
  obtain ⟨b, off, rfl, hbl, -⟩ := h.at_ (by omega)
  have HM := Hk.mk ((h.cut hK hnc).head (k := N) (by omega))
  obtain ⟨TA, hTA⟩ : ∃ TA, (if c = K then some (⟨b, off, none⟩ : Addr) else some ⟨b, off + K, none⟩) = TA := ⟨_, rfl⟩
  have HTN : Hk (TA = none → c - K = 0) := ⟨by rw [← hTA]; split <;> (intro h; cases h)⟩
  rw [hTA] at HM
  have HM2 : Hk (By w w.heap.size TA (K + N - K) ((xs.drop K).take N)) := ⟨by rw [Nat.add_sub_cancel_left]; exact HM.out⟩
  have eK : rawK xs = (K : Int) + N := by unfold rawK; rw [HS.out]
  have eN : rawN xs = N := by unfold rawN; rw [HS.out]; rfl
  have eX : rawX xs = (xs.drop K).take N := by unfold rawX; rw [HS.out]; rfl
  have EK := Hk.mk eK
  have EN := Hk.mk eN
  have EX := Hk.mk eX
  clear eK eN eX hcase hl HS h
  have g2 : decide (1048576 < (N : Int)) = false := by simp; omega
  have g3 : decide ((n : Int) - (K : Int) < (N : Int)) = false := by simp; omega
  have i1 : (K : Int) ≤ (n : Int) := by omega
  have i2 : (n : Int) ≤ 1099511627776 := by omega
  have i3 : (K : Int) + (N : Int) ≤ (n : Int) := by omega
  have i4 : (n : Int) ≤ (c : Int) := by omega
  have i5 : (K : Int) + (N : Int) ≤ (c : Int) := by omega
  have i6 : (c : Int) ≤ 9223372036854775807 := by omega
  clear hN hcm h4
  go_enter Try.func21, Try.ntmps21
  go_wp2_with (first | (go_at_call 16; refine HG.out.mono ?_; rintro e w' ⟨rfl, rfl⟩) | (at_builtin; refine wpList_append_by _ rfl (.tmp 26) (.tmp 32) rfl w.heap.size (.slice none 0 0) 0 [] rfl (OwnB.nil _ _) w.heap.size TA (K + N - K) (c - K) _ rfl HM2.out HTN.out (by omega) (Nat.le_refl _) ?_; intro v2 w2 ho2 hg2))
  go_ret3
  simp only [Nat.zero_add, List.nil_append, Nat.add_sub_cancel_left] at ho2
  rw [EK.out, EN.out, EX.out]
  exact ⟨v2, rfl, ho2, (OwnB.nil w w.heap.size).next (Below.refl _ _) hg2⟩
end Go.Proofs.Ytgmhalcofcokbaa
/- Arguments that hold slices of bytes: what is known of them. -/
namespace Go.Proofs.Ytgmhalcofcokbaa
open Go.ChangeShapes Go.WideShapes Go.ChangeAt Go.RowKit Go.Deep
set_option linter.unusedVariables false
theorem add_plus {b off : Nat} (j : Nat) : (⟨b, off, none⟩ : Addr).add j = ⟨b, off + j, none⟩ := by
  unfold Addr.add; split <;> simp_all
theorem by_of {H : Type} {enc : TypeId × Value → H} {w : World} {base : Nat} {spare : Nat → Bool} {held : Bool} {fuel : Nat} {x : DataW H × List MemPlace} {v : Value}
    (hf : DataW.trod enc Try.prog w base spare held fuel 37 [v] = some x) : ∃ a n c xs, v = .slice a n c ∧ n ≤ c ∧ c ≤ 9223372036854775807 ∧ By w w.heap.size a n xs := by
  rcases open_ints Try.underlying37 Try.underlying5 (by kernel_rfl) hf with ⟨hcs, _⟩ | ⟨a, l, c, zs, hcs, _, hl, hm, hz, _, hc, hwf⟩
  · simp at hcs; subst hcs
    exact ⟨none, 0, 0, [], rfl, by omega, by omega, By.nil _ _ _⟩
  · simp at hcs; subst hcs
    have hzl : l ≤ zs.length := by rw [hz]; split <;> omega
    refine ⟨_, _, _, zs.take l, rfl, hl, hm, by simp; omega, fun b hb => ?_, fun hn => ?_⟩
    · have := bounds_u8 (hwf b (List.mem_of_mem_take hb)); exact this
    · obtain ⟨b, off, spot⟩ := a
      have hs : spot = none := by
        have h0 := World.cell?_spot (hc 0 (by omega))
        simpa [Addr.add] using h0
      subst hs
      refine ⟨b, off, rfl, ?_, fun k hk => ?_⟩
      · have := hc 0 (by omega); rw [add_plus] at this; exact World.block_lt_of_cell? _ _ this
      · have := hc k (by omega)
        rw [add_plus] at this
        rw [this]
        simp [List.getD, hk]
end Go.Proofs.Ytgmhalcofcokbaa
/- Layer 3: an array of sums that a statement fills. -/
namespace Go.Proofs.Ytgmhalcofcokbaa
open Go.RowKit
set_option linter.unusedVariables false
/-- Block G holds m cells, the first j of which are these numbers. -/
def Arr (w : World) (G : Nat) (t : TypeId) (m j : Nat) (k : IntKind) (f : Nat → Int) : Prop := ∃ cs : Array Value, w.heap[G]? = some (.cells cs t (0, 0)) ∧ cs.size = m ∧ ∀ i, i < j → cs[i]? = some (.int k (f i))
section
variable {w w' : World} {G m j : Nat} {t : TypeId} {k : IntKind} {f : Nat → Int}
theorem Arr.lt (h : Arr w G t m j k f) : G < w.heap.size := by obtain ⟨cs, h1, _⟩ := h; exact lt_of_block h1
theorem Arr.cell (h : Arr w G t m j k f) {i : Nat} (hi : i < j) : w.cell? ⟨G, i, none⟩ = some (.int k (f i)) := by
  obtain ⟨cs, h1, _, h3⟩ := h
  rw [cell_of_row w G i cs t (0, 0) h1]; exact h3 i hi
theorem Arr.ex (h : Arr w G t m j k f) {i : Nat} (hi : i < m) : ∃ v, w.cell? ⟨G, i, none⟩ = some v := by
  obtain ⟨cs, h1, h2, _⟩ := h
  rw [cell_of_row w G i cs t (0, 0) h1]; exact ⟨_, Array.getElem?_eq_getElem (by omega)⟩
theorem Arr.free (h : Arr w G t m j k f) (i : Nat) : w.frozen? ⟨G, i, none⟩ = false := by
  obtain ⟨cs, h1, _⟩ := h; simp [World.frozen?, h1]
theorem Arr.below {B : Nat} (h : Arr w G t m j k f) (hb : Below B w w') (hG : G < B) : Arr w' G t m j k f := by
  obtain ⟨cs, h1, h2⟩ := h; exact ⟨cs, (hb.block G hG).trans h1, h2⟩
theorem Arr.drewN (h : Arr w G t m j k f) (q : Nat) : Arr (w.drewN q) G t m j k f := h
theorem Arr.set_ (h : Arr w G t m j k f) (hj : j < m) : Arr (w.setCell ⟨G, j, none⟩ (.int k (f j))) G t m (j + 1) k f := by
  obtain ⟨cs, h1, h2, h3⟩ := h
  refine ⟨cs.setIfInBounds j (.int k (f j)), by simp [World.setCell, Array.getElem?_modify, h1], by simpa using h2, fun i hi => ?_⟩
  by_cases e : i = j
  · subst e; simp [h2, hj]
  · rw [Array.getElem?_setIfInBounds_ne (fun h => e h.symm)]; exact h3 i (by omega)
theorem Arr.new (w : World) (cs : Array Value) (t : TypeId) (m : Nat) (k : IntKind) (f : Nat → Int) (h : cs.size = m) : Arr (w.alloc (.cells cs t)) w.heap.size t m 0 k f := ⟨cs, heap_alloc_new w _, h, fun i hi => absurd hi (by omega)⟩
end
theorem By.lit1 (w : World) (x : Int) (t : TypeId) (fr : Nat × Nat) (hx : Fn.Byt x) : By (w.alloc (.cells #[.int .u8 x] t fr)) (w.alloc (.cells #[.int .u8 x] t fr)).heap.size (some ⟨w.heap.size, 0, none⟩) 1 [x] :=
  By.lit w [x] t fr _ 1 rfl (by intro b hb; simp at hb; subst hb; exact hx) (by simp)
theorem By.lit2 (w : World) (x y : Int) (t : TypeId) (fr : Nat × Nat) (hx : Fn.Byt x) (hy : Fn.Byt y) : By (w.alloc (.cells #[.int .u8 x, .int .u8 y] t fr)) (w.alloc (.cells #[.int .u8 x, .int .u8 y] t fr)).heap.size (some ⟨w.heap.size, 0, none⟩) 2 [x, y] :=
  By.lit w [x, y] t fr _ 2 rfl (by intro b hb; simp at hb; rcases hb with rfl | rfl; exact hx; exact hy) (by simp)
theorem By.at1 (w : World) (x : Int) (t : TypeId) (fr : Nat × Nat) (H : Nat) (hH : H = w.heap.size) (hx : Fn.Byt x) : By (w.alloc (.cells #[.int .u8 x] t fr)) (w.alloc (.cells #[.int .u8 x] t fr)).heap.size (some ⟨H, 0, none⟩) 1 [x] := by
  subst hH; exact By.lit1 w x t fr hx
theorem By.at2 (w : World) (x y : Int) (t : TypeId) (fr : Nat × Nat) (H : Nat) (hH : H = w.heap.size) (hx : Fn.Byt x) (hy : Fn.Byt y) : By (w.alloc (.cells #[.int .u8 x, .int .u8 y] t fr)) (w.alloc (.cells #[.int .u8 x, .int .u8 y] t fr)).heap.size (some ⟨H, 0, none⟩) 2 [x, y] := by
  subst hH; exact By.lit2 w x y t fr hx hy
theorem ones : Fn.sumS 14695981039346656037 [0] ≠ 14695981039346656037 ∧ Fn.sumS 14695981039346656037 [0, 0] ≠ Fn.sumS 14695981039346656037 [0] ∧ Fn.sumS 14695981039346656037 [1, 2] ≠ Fn.sumS 14695981039346656037 [2, 1] := by decide +kernel
theorem ones_ex : ∃ ST A1 A2 A3 A4 : Int, Hk (ST = 14695981039346656037) ∧ Hk (Fn.sumS ST [0] = A1) ∧ Hk (Fn.sumS ST [0, 0] = A2) ∧ Hk (Fn.sumS ST [1, 2] = A3) ∧ Hk (Fn.sumS ST [2, 1] = A4) ∧ (A1 == ST) = false ∧ (A2 == A1) = false ∧ (A3 == A4) = false :=
  ⟨14695981039346656037, _, _, _, _, ⟨rfl⟩, ⟨rfl⟩, ⟨rfl⟩, ⟨rfl⟩, ⟨rfl⟩, beq_eq_false_iff_ne.2 ones.1, beq_eq_false_iff_ne.2 ones.2.1, beq_eq_false_iff_ne.2 ones.2.2⟩
end Go.Proofs.Ytgmhalcofcokbaa
