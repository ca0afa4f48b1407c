import Derived.Test.YtgmhalcofcokbaaVb
import Derived.Deep.RegionHeld3
import Derived.Test.YtgmhalcofcokbaaVa
/- Layer 4: what the statements call besides. -/
namespace Go.Proofs.Ytgmhalcofcokbaa
open Go.ChangeShapes Go.WideShapes Go.ChangeAt Go.RowKit Go.Deep
set_option linter.unusedVariables false
theorem wakes4_any (w : World) : Calls Try.prog 23 #[] w fun e w' => e = .returned (.bool true) ∧ Below w.heap.size w w' := by
  have e1 : Wr.numL (Wr.zig (-1)) = [1] := by rw [show Wr.zig (-1) = 1 by decide, Wr.numL_low (by omega)]; rfl
  have HI := Hk.mk (int_any (-1) w (by unfold I62; omega))
  rw [e1] at HI
  clear e1
  go_enter Try.func23, Try.ntmps23
  go_wp2_with (first | (go_at_call 18; refine HI.out.mono ?_; rintro e w1 ⟨v, rfl, ho, hb⟩; obtain ⟨a, c, rfl, hnc, hby, hfr⟩ := ho.by_; have HY := Hk.mk hby; clear hfr ho hby) | (go_at_call 15; (with_reducible refine (lawnum_any _ _).mono ?_); rintro e w' ⟨rfl, rfl⟩) | (go_at_call 22; refine (eqb_yes _ _ 1 _ _ [1] _ ?_ ?_ (by omega)).mono ?_; exact (HY.out.alloc (Nat.le_refl _) _).mono (by simp); exact By.at1 _ 1 _ _ _ rfl (by unfold Fn.Byt; omega); rintro e w' ⟨rfl, m, rfl⟩))
  go_ret
  exact ⟨rfl, below_drewN (hb.alloc hb.size _) m⟩
theorem heavy_no (x : Value) (a a' : Option Addr) (n c n' c' : Nat) (w : World) (h1 : n ≤ 5000) (h2 : n' ≤ 5000) : Calls Try.prog 13 #[.agg #[x, .slice a n c, .slice a' n' c']] w fun e w' => e = .returned (.bool false) ∧ Below w.heap.size w w' := by
  have i1 : decide ((5000 : Int) < (n : Int)) = false := by simp; omega
  have i2 : decide ((5000 : Int) < (n' : Int)) = false := by simp; omega
  go_enter Try.func13, Try.ntmps13
  go_wp2
  go_ret
  exact ⟨rfl, (Below.refl _ _).alloc (Nat.le_refl _) _⟩
theorem heavy_yes (x : Value) (a a' : Option Addr) (n c n' c' : Nat) (w : World) (h : ¬ (n ≤ 5000 ∧ n' ≤ 5000)) : Calls Try.prog 13 #[.agg #[x, .slice a n c, .slice a' n' c']] w fun e w' => e = .returned (.bool true) ∧ Below w.heap.size w w' := by
  by_cases h1 : n ≤ 5000
  · have i1 : decide ((5000 : Int) < (n : Int)) = false := by simp; omega
    have i2 : decide ((5000 : Int) < (n' : Int)) = true := by simp; omega
    go_enter Try.func13, Try.ntmps13
    go_wp2
    go_ret
    exact ⟨rfl, (Below.refl _ _).alloc (Nat.le_refl _) _⟩
  · have i1 : decide ((5000 : Int) < (n : Int)) = true := by simp; omega
    go_enter Try.func13, Try.ntmps13
    go_wp2
    go_ret
    exact ⟨rfl, (Below.refl _ _).alloc (Nat.le_refl _) _⟩
/-- The argument: a number, bytes, more bytes. -/
def Asks4 (w : World) (a : Option Addr) (len cap : Nat) : Prop :=
  len ≤ cap ∧ cap ≤ 9223372036854775807 ∧ ∀ i, i < len → ∃ (b off : Nat) (s : Int) (ab : Option Addr) (nb cb : Nat) (xs : List Int) (ax : Option Addr) (nx cx : Nat) (ys : List Int), a = some ⟨b, off, none⟩ ∧ b < w.heap.size ∧ (-9223372036854775808 ≤ s ∧ s ≤ 9223372036854775807) ∧ (nb ≤ cb ∧ cb ≤ 9223372036854775807 ∧ (ab = none → cb = 0) ∧ By w w.heap.size ab nb xs) ∧ (nx ≤ cx ∧ cx ≤ 9223372036854775807 ∧ (ax = none → cx = 0) ∧ By w w.heap.size ax nx ys) ∧
    w.cell? ⟨b, off + i * 3, none⟩ = some (.int .i64 s) ∧ w.cell? ⟨b, off + i * 3 + 1, none⟩ = some (.slice ab nb cb) ∧ w.cell? ⟨b, off + i * 3 + 2, none⟩ = some (.slice ax nx cx)
theorem by_of2 {H : Type} {enc : TypeId × Value → H} {w : World} {base : Nat} {spare : Nat → Bool} {held : Bool} {fuel : Nat} {x : DataW H × List MemPlace} {v : Value}
    (hf : DataW.trod enc Try.prog w base spare held fuel 37 [v] = some x) : ∃ a n c xs, v = .slice a n c ∧ n ≤ c ∧ c ≤ 9223372036854775807 ∧ (a = none → c = 0) ∧ By w w.heap.size a n xs := by
  obtain ⟨a, n, c, xs, rfl, h1, h2, h3⟩ := by_of hf
  refine ⟨a, n, c, xs, rfl, h1, h2, fun ha => ?_, h3⟩
  rcases open_ints Try.underlying37 Try.underlying5 (by kernel_rfl) hf with ⟨hcs, _⟩ | ⟨a', l, c', zs, hcs, _⟩
  · simp at hcs; exact hcs.2.2
  · simp at hcs; rw [hcs.1] at ha; cases ha
set_option maxRecDepth 100000 in
theorem asks4_of {H : Type} {enc : TypeId × Value → H} {w : World} {base : Nat} {held : Bool} {fuel : Nat} {x : DataW H × List MemPlace} {a : Option Addr} {len cap : Nat}
    (hf : DataW.trod enc Try.prog w base (fun _ => true) held fuel 35 [.slice a len cap] = some x) : Asks4 w a len cap := by
  rcases open_slice Try.underlying35 hf with ⟨hcs, _⟩ | ⟨a', l, c, m, n, D, Pl, hcs, _, hl, hm, hmm, _, hi⟩
  · simp at hcs
    obtain ⟨rfl, rfl, rfl⟩ := hcs
    exact ⟨Nat.le_refl _, by omega, fun i h => absurd h (by omega)⟩
  · simp at hcs
    obtain ⟨rfl, rfl, rfl⟩ := hcs
    refine ⟨hl, by unfold maxLen at hm; omega, fun i hlt => ?_⟩
    have hC : Try.prog.cellsOf 39 = 3 := by kernel_rfl
    have h1 : Try.prog.cellsOf 3 = 1 := by kernel_rfl
    have h3 : Try.prog.cellsOf 37 = 1 := by kernel_rfl
    obtain ⟨cs', hc, ht⟩ := hi i (by rw [hmm]; simp; omega)
    rw [hC] at hc
    obtain ⟨ys, n', _, _, _, hyl, hg⟩ := DataW.trod_struct Try.underlying39 ht
    obtain ⟨_, hcl, hat⟩ := World.cells?_some hc
    match cs', hcl with
    | [c0, c1, c2], _ =>
      match ys, hyl with
      | [y0, y1, y2], _ =>
        have g0 := hg 0 _ rfl
        have g1 := hg 1 _ rfl
        have g2 := hg 2 _ rfl
        simp [h1, h3] at g0 g1 g2
        obtain ⟨x0, e0, _, w0⟩ := DataW.trod_int Try.underlying3 g0
        obtain ⟨ab, nb, cb, xs, rfl, hn, hcb, hab, hby⟩ := by_of2 g1
        obtain ⟨ax, nx, cx, zs, rfl, hn2, hcb2, hab2, hby2⟩ := by_of2 g2
        simp at e0
        subst e0
        have k0 := hat 0 (by omega)
        have k1 := hat 1 (by omega)
        have k2 := hat 2 (by omega)
        obtain ⟨b, off, spot⟩ := a'
        have hs : spot = none := by
          obtain ⟨cs2, hc2, _⟩ := hi 0 (by rw [hmm]; simp; omega)
          rw [hC] at hc2
          obtain ⟨_, hcl2, hat2⟩ := World.cells?_some hc2
          have h0 := hat2 0 (by omega)
          rw [List.getElem?_eq_getElem (by omega)] at h0
          simpa [Addr.add] using World.cell?_spot h0
        subst hs
        simp only [add_plus, Nat.add_zero] at k0 k1 k2
        exact ⟨b, off, x0, ab, nb, cb, xs, ax, nx, cx, zs, rfl, World.block_lt_of_cell? _ _ k0, bounds_i64 w0, ⟨hn, hcb, hab, hby⟩, ⟨hn2, hcb2, hab2, hby2⟩, k0, k1, k2⟩
end Go.Proofs.Ytgmhalcofcokbaa
/- Bytes appended in a region that draws its order. -/
namespace Go.Proofs.Ytgmhalcofcokbaa
open Go.RowKit
set_option linter.unusedVariables false
theorem wp_append_by (w : World) {o : Oper} {a : Act} {K : Act → World → Prop} {Q : Exit → Act → World → Prop} (s x : Operand)
    (ho : o.op = .call { callee := .builtin .append, args := #[s, x], argTypes := #[37, 37] })
    (base : Nat) (v : Value) (n : Nat) (xs : List Int) (hs : a.eval s = v) (hown : OwnB w base v n xs)
    (B : Nat) (A : Option Addr) (m c : Nat) (ys : List Int) (hx : a.eval x = .slice A m c) (hby : By w B A m ys) (hc : A = none → c = 0) (hlen : n + m ≤ 1099511627776) (hbase : base ≤ w.heap.size)
    (h : ∀ v' w', OwnB w' base v' (n + m) (xs ++ ys) → w.grownBy w' v.ownBlock → K (a.put o.dst v') w') : o.wp Try.prog a w K Q := by
  obtain ⟨i0, hi, hz0, hz1, hz2⟩ := info_parts info_u8
  have hmem : ∀ b ∈ xs ++ ys, Fn.Byt b := fun b hb => by
    rcases List.mem_append.1 hb with h1 | h1
    · exact hown.2.1 b h1
    · exact hby.byt b h1
  cases A with
  | none =>
    obtain rfl : m = 0 := by
      rcases Nat.eq_zero_or_pos m with h0 | h0
      · exact h0
      · obtain ⟨_, _, e, _⟩ := hby.at_ h0; cases e
    obtain rfl : c = 0 := hc rfl
    obtain rfl : ys = [] := List.eq_nil_of_length_eq_zero hby.len
    have hrun := run_append_owned_none (P := Try.prog) (w := w) base 37 o.type 5 i0 1 Try.underlying37 hi v n _ hown.2.2
    unfold Oper.wp
    simp [execOp, ho, resolve, invoke, builtin, hs, hx, hrun, Result.andThen]
    exact h v w (by simpa using hown) (World.grownBy.refl _ _)
  | some ad =>
    refine wp_append_own w s x _ ho base 5 i0 (.int .u8 0) 1 1 Try.underlying37 hi hz0 hz1 hz2 rfl (by decide) v n (xs.map (Value.int .u8)) hs hown.2.2 ad m c (ys.map (Value.int .u8)) hx (by simp [hby.len]) ?_ ?_ (by unfold maxLen; omega) (by omega) hbase ?_
    · intro j u hj
      have hl := hby.len
      have hjl : j < ys.length := by
        rcases Nat.lt_or_ge j ys.length with h0 | h0
        · exact h0
        · rw [List.getElem?_eq_none (by simpa using h0)] at hj; cases hj
      obtain ⟨b, off, e, _, hcell⟩ := hby.at_ (by omega)
      obtain rfl : ad = ⟨b, off, none⟩ := by injection e
      have h1 := hcell j (by omega)
      have h2 : (⟨b, off, none⟩ : Addr).add j = ⟨b, off + j, none⟩ := by unfold Addr.add; split <;> simp_all
      rw [h2, h1, ← hj]
      simp [List.getD, List.getElem?_eq_getElem hjl]
    · intro u hu
      obtain ⟨z, _, rfl⟩ := List.mem_map.1 hu
      rfl
    · intro v' w' h2 h3 _
      exact h v' w' ⟨by simp [hown.1, hby.len], hmem, by simpa using h2⟩ h3
theorem step_append_by (w : World) {ops : Array Oper} {o : Oper} {a : Act} {K : Act → World → Prop} {Q : Exit → Act → World → Prop} {E : Prop} (hw : Region.wanted o (yielded ops a.tmps) = true) (s x : Operand)
    (ho : o.op = .call { callee := .builtin .append, args := #[s, x], argTypes := #[37, 37] })
    (base : Nat) (v : Value) (n : Nat) (xs : List Int) (hs : a.eval s = v) (hown : OwnB w base v n xs)
    (B : Nat) (A : Option Addr) (m c : Nat) (ys : List Int) (hx : a.eval x = .slice A m c) (hby : By w B A m ys) (hc : A = none → c = 0) (hlen : n + m ≤ 1099511627776) (hbase : base ≤ w.heap.size)
    (h : ∀ v' w', OwnB w' base v' (n + m) (xs ++ ys) → w.grownBy w' v.ownBlock → K (a.put o.dst v') w') :
    if Region.wanted o (yielded ops a.tmps) = true then Oper.wp Try.prog o a w K Q else E := by
  rw [if_pos hw]
  exact wp_append_by w s x ho base v n xs hs hown B A m c ys hx hby hc hlen hbase h
end Go.Proofs.Ytgmhalcofcokbaa
/- Layer 4: an append inside a region that leaves its order open; bytes with their number ahead, written out. -/
namespace Go.Proofs.Ytgmhalcofcokbaa
open Go.RowKit
set_option linter.unusedVariables false
theorem OwnB.cap {w : World} {base n c : Nat} {a : Option Addr} {xs : List Int} (h : OwnB w base (.slice a n c) n xs) : c ≤ 9223372036854775807 := by
  rcases h.2.2.2 with ⟨e, _⟩ | ⟨g, cap, cur, e, _, _, _, hm, _⟩
  · injection e with _ _ e; omega
  · injection e with _ _ e; unfold maxLen at hm; omega
theorem rawN_le {xs : List Int} (hx : ∀ b ∈ xs, Fn.Byt b) (h : rawErr xs = 0) : rawN xs ≤ 1048576 := by
  obtain ⟨N, K, E, HS, _, _, hc⟩ := raw_cases xs hx
  have e : rawN xs = N := by unfold rawN; rw [HS.out]; rfl
  rw [e]
  rcases hc with ⟨he, h2⟩ | ⟨rfl, h1, h3, h2⟩ | ⟨rfl, h1, h3, h4, h2⟩ | ⟨rfl, h1, h3, h4, h2⟩ <;> omega
theorem raw_any2 (a : Option Addr) (n c : Nat) (xs : List Int) (w : World) (h : By w w.heap.size a n xs) (hc : a = none → c = 0) (hn : n ≤ 1048576) :
    Calls Try.prog 20 #[.slice a n c] w fun e w' => ∃ v, e = .returned (.tuple #[v, .int .i64 0]) ∧ OwnB w' w.heap.size v ((Wr.numL n).length + n) (Wr.numL n ++ xs) ∧ Below w.heap.size w w' := by
  have h1 := raw_any a n c xs w h hc hn
  have e : rawL xs = Wr.numL n ++ xs := by unfold rawL; rw [h.len]
  rw [e, show (Wr.numL n ++ xs).length = (Wr.numL n).length + n by simp [h.len]] at h1
  exact h1
end Go.Proofs.Ytgmhalcofcokbaa
/- Layer 4: bytes compared that are known to differ; how many bytes a number has. -/
namespace Go.Proofs.Ytgmhalcofcokbaa
open Go.RowKit
set_option linter.unusedVariables false
theorem eqb_no (a a' : Option Addr) (n n' c c' : Nat) (xs ys : List Int) (w : World) (h : By w w.heap.size a n xs) (h' : By w w.heap.size a' n' ys) (hn : n ≤ 1099511627776) (hn' : n' ≤ 1099511627776) (hne : xs ≠ ys) :
    Calls Try.prog 22 #[.slice a n c, .slice a' n' c'] w fun e w' => e = .returned (.bool false) ∧ ∃ m, w' = w.drewN m := by
  have H := Hk.mk h
  have H' := Hk.mk h'
  have HNE := Hk.mk hne
  clear h h' hne
  by_cases hl : n = n'
  · subst hl
    go_enter Try.func22, Try.ntmps22
    go_wp2
    go_loopw [5] (fun i wr => ∃ k : Nat, k ≤ n ∧ i = .int .i64 k ∧ Hk (∃ m, wr = w.drewN m) ∧ Hk (∀ j, j < k → xs.getD j 0 = ys.getD j 0)) (fun i _ => n - (intOf i).toNat)
    case atStart => exact ⟨0, Nat.zero_le _, rfl, ⟨0, rfl⟩, ⟨fun j hj => absurd hj (by omega)⟩⟩
    case round =>
      obtain ⟨k, hk, rfl, HB, HS⟩ := hrel
      by_cases hlt : k < n
      · obtain ⟨b, off, rfl, hbl, hc⟩ := H.out.at_ (by omega)
        obtain ⟨b', off', rfl, hbl', hc'⟩ := H'.out.at_ (by omega)
        have hcx : wr.cell? ⟨b, off + k, none⟩ = some (.int .u8 (xs.getD k 0)) := by obtain ⟨m, rfl⟩ := HB.out; exact hc k hlt
        have hcy : wr.cell? ⟨b', off' + k, none⟩ = some (.int .u8 (ys.getD k 0)) := by obtain ⟨m, rfl⟩ := HB.out; exact hc' k hlt
        clear hc hc'
        obtain ⟨x, hx⟩ : ∃ x, xs.getD k 0 = x := ⟨_, rfl⟩
        obtain ⟨y, hy⟩ : ∃ y, ys.getD k 0 = y := ⟨_, rfl⟩
        rw [hx] at hcx
        rw [hy] at hcy
        have HX := Hk.mk hx
        have HY := Hk.mk hy
        clear hx hy
        have i1 : (0 : Int) ≤ (k : Int) := by omega
        have i2 : (k : Int) < (n : Int) := by omega
        by_cases hxy : x = y
        · subst hxy
          go_wp2
          go_quiet (fail)
          go_wp2
          go_roundw
          case rel => exact ⟨k + 1, by omega, by go_num, ⟨by obtain ⟨m, rfl⟩ := HB.out; exact ⟨_, by rw [World.drewN_drewN]⟩⟩, ⟨fun j hj => by
            by_cases e : j = k
            · subst e; rw [HX.out, HY.out]
            · exact HS.out j (by omega)⟩⟩
          case measure => simp [intOf]; omega
        · have q1 : (x == y) = false := by simpa using hxy
          have q2 : (x != y) = true := by simpa using hxy
          clear hxy
          go_wp2
          go_quiet (fail)
          go_wp2
          go_ret
          exact ⟨rfl, by obtain ⟨m, rfl⟩ := HB.out; exact ⟨_, by rw [World.drewN_drewN]⟩⟩
      · have hkn : k = n := by omega
        subst hkn
        exfalso
        exact HNE.out (eq_of_getD (H.out.len.trans H'.out.len.symm) (fun j hj => HS.out j (by rw [H.out.len] at hj; exact hj)))
  · have q1 : ((n : Int) == (n' : Int)) = false := by simp; omega
    have q2 : ((n : Int) != (n' : Int)) = true := by simp; omega
    go_enter Try.func22, Try.ntmps22
    go_wp2
    go_ret
    exact ⟨rfl, 0, rfl⟩
theorem Wr.numL_len_eq {n k : Nat} (h : n < 128 ^ (k + 1)) (h2 : k = 0 ∨ 128 ^ k ≤ n) : (Wr.numL n).length = k + 1 := by
  induction k generalizing n with
  | zero => rw [Wr.numL_low (by simpa using h)]; rfl
  | succ k ih =>
    have h3 : 128 ^ (k + 1) ≤ n := by rcases h2 with h2 | h2; omega; exact h2
    have hp : 0 < 128 ^ k := Nat.pow_pos (by omega)
    have e1 : 128 ^ (k + 1) = 128 ^ k * 128 := Nat.pow_succ ..
    have e2 : 128 ^ (k + 1 + 1) = 128 ^ (k + 1) * 128 := Nat.pow_succ ..
    rw [Wr.numL_high (by omega)]
    simp only [List.length_cons]
    rw [ih (n := n / 128) (by omega) (by right; omega)]
theorem Wr.numL_mono {m n : Nat} (h : m ≤ n) : (Wr.numL m).length ≤ (Wr.numL n).length := by
  induction n using Nat.strongRecOn generalizing m with
  | _ n ih =>
    rcases Nat.lt_or_ge m 128 with h1 | h1
    · rw [Wr.numL_low h1]; exact Wr.numL_pos n
    · rw [Wr.numL_high h1, Wr.numL_high (n := n) (by omega)]
      simp only [List.length_cons]
      have := @ih (n / 128) (by omega) (m / 128) (by omega)
      omega
end Go.Proofs.Ytgmhalcofcokbaa
/- Layer 4: numbers there and back; the bounds. -/
namespace Go.Proofs.Ytgmhalcofcokbaa
open Go.RowKit
set_option linter.unusedVariables false
theorem num_len (x : Int) (z L : Nat) (w : World) (hx : Hk (x = z)) (hz : Hk (z ≤ 9223372036854775807)) (hL : Hk ((Wr.numL z).length = L)) :
    Calls Try.prog 14 #[.int .i64 x] w fun e w' => ∃ v, e = .returned (.tuple #[v, .int .i64 0]) ∧ OwnB w' w.heap.size v L (Wr.numL z) ∧ Below w.heap.size w w' := by
  rw [← hL.out]; exact num_at x z w hx hz
theorem getint_back (s : Int) (a : Option Addr) (n c L : Nat) (ys : List Int) (w : World) (hs : I62 s) (h : By w w.heap.size a n (Wr.numL (Wr.zig s) ++ ys)) (hn : n ≤ 1099511627776) (hL : Hk ((Wr.numL (Wr.zig s)).length = L)) :
    Calls Try.prog 19 #[.slice a n c] w fun e w' => e = .returned (.tuple #[.int .i64 s, .int .i64 L, .int .i64 0]) ∧ w = w' := by
  have h1 := getint_any a n c _ w h hn
  rw [Wr.getS_num (by have := zig_bd hs; omega) ys] at h1
  simp only [Wr.unzig_zig, hL.out] at h1
  exact h1
theorem getnum_back (z : Nat) (a : Option Addr) (n c L : Nat) (ys : List Int) (w : World) (hs : Hk (z ≤ 9223372036854775807)) (h : By w w.heap.size a n (Wr.numL z ++ ys)) (hn : n ≤ 1099511627776) (hL : Hk ((Wr.numL z).length = L)) :
    Calls Try.prog 16 #[.slice a n c] w fun e w' => e = .returned (.tuple #[.int .i64 z, .int .i64 L, .int .i64 0]) ∧ w = w' := by
  have h1 := getnum_any a n c _ w h hn
  rw [Wr.getS_num (by have := hs.out; omega) ys] at h1
  simp only [hL.out] at h1
  exact h1
theorem getnum_as (a : Option Addr) (n c : Nat) (xs : List Int) (w : World) (x y z : Int) (h : By w w.heap.size a n xs) (hn : n ≤ 1099511627776) (hr : Hk (Wr.getS xs = (x, y, z))) :
    Calls Try.prog 16 #[.slice a n c] w fun e w' => e = .returned (.tuple #[.int .i64 x, .int .i64 y, .int .i64 z]) ∧ w = w' := by
  have h1 := getnum_any a n c xs w h hn
  rw [hr.out] at h1
  exact h1
theorem two_lens {k : Nat} (hk : k < 63) : ∃ L1 L2 : Nat, Hk ((Wr.numL (2 ^ k - 1)).length = L1) ∧ Hk ((Wr.numL (2 ^ k)).length = L2) ∧ (if (1 : Int) < ((k : Int) + 6) / 7 then ((k : Int) + 6) / 7 else 1) = (L1 : Int) ∧ (k : Int) / 7 + 1 = (L2 : Int) := by
  have p7 : ∀ j : Nat, 128 ^ j = 2 ^ (7 * j) := fun j => by rw [Nat.pow_mul]
  have h2 : (Wr.numL (2 ^ k)).length = k / 7 + 1 := by
    refine Wr.numL_len_eq (k := k / 7) ?_ (.inr ?_)
    · rw [p7]; exact Nat.pow_lt_pow_right (by omega) (by omega)
    · rw [p7]; exact Nat.pow_le_pow_right (by omega) (by omega)
  have h1 : (Wr.numL (2 ^ k - 1)).length = (k - 1) / 7 + 1 := by
    have hp : 0 < 2 ^ k := Nat.pow_pos (by omega)
    refine Wr.numL_len_eq (k := (k - 1) / 7) ?_ ?_
    · rw [p7]
      have : 2 ^ k ≤ 2 ^ (7 * ((k - 1) / 7 + 1)) := Nat.pow_le_pow_right (by omega) (by omega)
      omega
    · by_cases h7 : (k - 1) / 7 = 0
      · exact .inl h7
      · right
        rw [p7]
        have h8 : 2 ^ (7 * ((k - 1) / 7)) ≤ 2 ^ (k - 1) := Nat.pow_le_pow_right (by omega) (by omega)
        have h9 : 2 ^ k = 2 * 2 ^ (k - 1) := by rw [show k = (k - 1) + 1 by omega, Nat.pow_succ, Nat.add_sub_cancel]; omega
        have h10 : 0 < 2 ^ (k - 1) := Nat.pow_pos (by omega)
        omega
  refine ⟨_, _, ⟨rfl⟩, ⟨rfl⟩, ?_, ?_⟩
  · rw [h1]; split <;> omega
  · rw [h2]; omega
def lowL : List Int := [-4611686018427387904, 4611686018427387903, -1, 0, 1, 1099511627776, -1099511627776]
theorem low62 {j : Nat} (h : j < 7) : I62 (lowL.getD j 0) := by
  unfold I62
  match j, h with
  | 0, _ => decide
  | 1, _ => decide
  | 2, _ => decide
  | 3, _ => decide
  | 4, _ => decide
  | 5, _ => decide
  | 6, _ => decide
theorem low_cell (w : World) (t : TypeId) {j : Nat} (h : j < 7) : (w.alloc (.cells #[.int .i64 (-4611686018427387904), .int .i64 4611686018427387903, .int .i64 (-1), .int .i64 0, .int .i64 1, .int .i64 1099511627776, .int .i64 (-1099511627776)] t)).cell? ⟨w.heap.size, j, none⟩ = some (.int .i64 (lowL.getD j 0)) := by
  rw [cell_of_row _ _ j _ t (0, 0) (heap_alloc_new w _)]
  match j, h with
  | 0, _ => rfl
  | 1, _ => rfl
  | 2, _ => rfl
  | 3, _ => rfl
  | 4, _ => rfl
  | 5, _ => rfl
  | 6, _ => rfl
theorem By.litAt (w : World) (xs : List Int) (t : TypeId) (fr : Nat × Nat) (H n : Nat) (hH : H = w.heap.size) (hl : xs.length = n) (hx : ∀ b ∈ xs, Fn.Byt b) : By (w.alloc (.cells (xs.map (Value.int .u8)).toArray t fr)) (w.alloc (.cells (xs.map (Value.int .u8)).toArray t fr)).heap.size (some ⟨H, 0, none⟩) n xs := by
  subst hH; exact By.lit w xs t fr _ n hl hx (by simp)
theorem big_raw : rawErr (Wr.numL 1048577) = 1 := by
  unfold rawErr
  have := Wr.getS_num (n := 1048577) (by omega) []
  rw [List.append_nil] at this
  rw [this]; rfl
end Go.Proofs.Ytgmhalcofcokbaa
/- Numbers as bytes: what is read as a number are just its bytes. -/
namespace Go.Proofs.Ytgmhalcofcokbaa
namespace Wr
theorem getG_bytes (xs : List Int) (hx : ∀ b ∈ xs, Fn.Byt b) : ∀ (fuel i : Nat) (acc n k : Int), getG xs fuel i acc = (n, k, 0) → ∃ m : Nat, n = acc + (m : Int) * 2 ^ (7 * i) ∧ (i : Int) < k ∧ (xs.drop i).take (k.toNat - i) = numL m ∧ (0 < i → 0 < m) := by
  intro fuel
  induction fuel with
  | zero =>
    intro i acc n k h
    unfold getG at h
    injection h with h1 h2; injection h2 with h2 h3
    split at h3 <;> omega
  | succ fuel ih =>
    intro i acc n k h
    unfold getG at h
    by_cases hi : i < xs.length
    · rw [if_pos hi] at h
      have hd : xs.drop i = xs.getD i 0 :: xs.drop (i + 1) := by
        rw [List.drop_eq_getElem_cons hi]; simp [List.getD, List.getElem?_eq_getElem hi]
      have hb : Fn.Byt (xs.getD i 0) := hx _ (by
        have : xs.getD i 0 = xs[i] := by simp [List.getD, List.getElem?_eq_getElem hi]
        rw [this]; exact List.getElem_mem hi)
      unfold Fn.Byt at hb
      generalize xs.getD i 0 = x at *
      by_cases hl : x < 128
      · rw [if_pos hl] at h
        by_cases h0 : x = 0 ∧ 0 < i
        · rw [if_pos h0] at h
          injection h with h1 h2; injection h2 with h2 h3; omega
        · rw [if_neg h0] at h
          injection h with h1 h2
          injection h2 with h2 h3
          refine ⟨x.toNat, ?_, by omega, ?_, by omega⟩
          · rw [← h1, show (x.toNat : Int) = x % 128 by omega]
          · rw [hd, ← h2, show ((i : Int) + 1).toNat - i = 1 by omega, numL_low (by omega)]
            simp; omega
      · rw [if_neg hl] at h
        obtain ⟨m, hm1, hm2, hm3, hm4⟩ := ih (i + 1) _ n k h
        have hm0 := hm4 (by omega)
        refine ⟨(x % 128).toNat + 128 * m, ?_, by omega, ?_, by omega⟩
        · rw [hm1, show 7 * (i + 1) = 7 * i + 7 by omega, Int.pow_add]
          have e : (((x % 128).toNat + 128 * m : Nat) : Int) = x % 128 + 128 * m := by omega
          rw [e]
          grind
        · rw [hd, show k.toNat - i = (k.toNat - (i + 1)) + 1 by omega, List.take_succ_cons, hm3, numL_high (n := (x % 128).toNat + 128 * m) (by omega)]
          rw [show ((x % 128).toNat + 128 * m) / 128 = m by omega]
          congr 1
          omega
    · rw [if_neg hi] at h
      injection h with h1 h2; injection h2 with h2 h3
      split at h3 <;> omega
theorem getS_bytes {xs : List Int} (hx : ∀ b ∈ xs, Fn.Byt b) {n k : Int} (h : getS xs = (n, k, 0)) : xs.take k.toNat = numL n.toNat ∧ 0 ≤ n := by
  obtain ⟨m, h1, h2, h3, h4⟩ := getG_bytes xs hx 9 0 0 n k h
  simp at h1 h3
  subst h1
  exact ⟨by simpa using h3, by omega⟩
theorem zig_unzig {n : Int} (h : 0 ≤ n) : zig (unzig n) = n.toNat := by unfold zig unzig; (repeat' split) <;> omega
end Wr
end Go.Proofs.Ytgmhalcofcokbaa
