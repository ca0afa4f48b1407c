/- The argument of the statements of layer 7: a ground, bytes; grounds copied and compared. -/
import Derived.Test.YtmkehmeoglpkeaaByb
import Derived.Test.YtmkehmeoglpkeaaMpf
namespace Go.Proofs.Ytmkehmeoglpkeaa
open Go.ChangeShapes Go.WideShapes Go.ChangeAt Go.RowKit Go.Deep
set_option linter.unusedVariables false
theorem by_of7 {H : Type} {enc : TypeId × Value → H} {w : World} {base : Nat} {spare : Nat → Bool} {held : Bool} {fuel : Nat} {x : DataW H × List MemPlace} {v : Value}
    (hf : DataW.trod enc Try.prog w base spare held fuel 24 [v] = some x) : ∃ a n c xs, v = .slice a n c ∧ n ≤ c ∧ c ≤ 9223372036854775807 ∧ (a = none → c = 0) ∧ By w w.heap.size a n xs := by
  obtain ⟨a, n, c, xs, rfl, h1, h2, h3⟩ := by_of hf
  refine ⟨a, n, c, xs, rfl, h1, h2, fun ha => ?_, h3⟩
  rcases open_ints Try.underlying24 Try.underlying5 (by kernel_rfl) hf with ⟨hcs, _⟩ | ⟨a', l, c', zs, hcs, _⟩
  · simp at hcs; exact hcs.2.2
  · simp at hcs; rw [hcs.1] at ha; cases ha
/-- What is known of a slice of bytes that came in. -/
structure Bs (w : World) (a : Option Addr) (n c : Nat) (xs : List Int) : Prop where
  nc : n ≤ c
  cm : c ≤ 9223372036854775807
  an : a = none → c = 0
  by_ : By w w.heap.size a n xs
theorem Bs.all {w X : World} {a : Option Addr} {n c : Nat} {xs : List Int} (h : Bs w a n c xs) (hX : Below w.heap.size w X) : By X X.heap.size a n xs := (h.by_.below hX (Nat.le_refl _)).mono hX.size
theorem ground7_of {H : Type} {enc : TypeId × Value → H} {w : World} {base : Nat} {spare : Nat → Bool} {held : Bool} {fuel : Nat} {x : DataW H × List MemPlace} {c0 c1 c2 : Value}
    (hf : DataW.trod enc Try.prog w base spare held fuel 26 [c0, c1, c2] = some x) : ∃ (W H : Int) (a : Option Addr) (n c : Nat) (xs : List Int), c0 = .int .i64 W ∧ c1 = .int .i64 H ∧ c2 = .slice a n c ∧ Bs w a n c xs := by
  have h2 : Try.prog.cellsOf 3 = 1 := by kernel_rfl
  have h3 : Try.prog.cellsOf 24 = 1 := by kernel_rfl
  obtain ⟨ys, n', _, _, _, hyl, hg⟩ := DataW.trod_struct Try.underlying26 hf
  match ys, hyl with
  | [y0, y1, y2], _ =>
    have g0 := hg 0 _ rfl
    have g1 := hg 1 _ rfl
    have g2 := hg 2 _ rfl
    simp [h2, h3] at g0 g1 g2
    obtain ⟨x0, e0, _, w0⟩ := DataW.trod_int Try.underlying3 g0
    obtain ⟨x1, e1, _, w1⟩ := DataW.trod_int Try.underlying3 g1
    obtain ⟨a, n, c, xs, rfl, hn, hc, han, hby⟩ := by_of7 g2
    simp at e0 e1
    exact ⟨x0, x1, a, n, c, xs, e0, e1, rfl, hn, hc, han, hby⟩
def Asks7 (w : World) (a : Option Addr) (len cap : Nat) : Prop :=
  len ≤ cap ∧ cap ≤ 9223372036854775807 ∧ ∀ i, i < len → ∃ (b off : Nat) (W H : Int) (ag : Option Addr) (ng cg : Nat) (xs : List Int) (ax : Option Addr) (nx cx : Nat) (ys : List Int), a = some ⟨b, off, none⟩ ∧ b < w.heap.size ∧ Bs w ag ng cg xs ∧ Bs w ax nx cx ys ∧
    w.cell? ⟨b, off + i * 4, none⟩ = some (.int .i64 W) ∧ w.cell? ⟨b, off + i * 4 + 1, none⟩ = some (.int .i64 H) ∧ w.cell? ⟨b, off + i * 4 + 2, none⟩ = some (.slice ag ng cg) ∧ w.cell? ⟨b, off + i * 4 + 3, none⟩ = some (.slice ax nx cx)
set_option maxRecDepth 100000 in
theorem asks7_of {H : Type} {enc : TypeId × Value → H} {w : World} {base : Nat} {held : Bool} {fuel : Nat} {x : DataW H × List MemPlace} {a : Option Addr} {len cap : Nat}
    (hf : DataW.trod enc Try.prog w base (fun _ => true) held fuel 22 [.slice a len cap] = some x) : Asks7 w a len cap := by
  rcases open_slice Try.underlying22 hf with ⟨hcs, _⟩ | ⟨a', l, c, m, n, D, Pl, hcs, _, hl, hm, hmm, _, hi⟩
  · simp at hcs
    obtain ⟨rfl, rfl, rfl⟩ := hcs
    exact ⟨Nat.le_refl _, by omega, fun i h => absurd h (by omega)⟩
  · simp at hcs
    obtain ⟨rfl, rfl, rfl⟩ := hcs
    refine ⟨hl, by unfold maxLen at hm; omega, fun i hlt => ?_⟩
    have hC : Try.prog.cellsOf 28 = 4 := by kernel_rfl
    have h1 : Try.prog.cellsOf 26 = 3 := by kernel_rfl
    have h3 : Try.prog.cellsOf 24 = 1 := by kernel_rfl
    obtain ⟨cs', hc, ht⟩ := hi i (by rw [hmm]; simp; omega)
    rw [hC] at hc
    obtain ⟨ys, n', _, _, _, hyl, hg⟩ := DataW.trod_struct Try.underlying28 ht
    obtain ⟨_, hcl, hat⟩ := World.cells?_some hc
    match cs', hcl with
    | [c0, c1, c2, c3], _ =>
      match ys, hyl with
      | [y0, y1], _ =>
        have g0 := hg 0 _ rfl
        have g1 := hg 1 _ rfl
        simp [h1, h3] at g0 g1
        obtain ⟨W, H, ag, ng, cg, xs, rfl, rfl, rfl, hbs⟩ := ground7_of g0
        obtain ⟨ax, nx, cx, zs, rfl, hn, hcb, han, hby⟩ := by_of7 g1
        have k0 := hat 0 (by omega)
        have k1 := hat 1 (by omega)
        have k2 := hat 2 (by omega)
        have k3 := hat 3 (by omega)
        obtain ⟨b, off, spot⟩ := a'
        have hs : spot = none := by
          obtain ⟨cs2, hc2, _⟩ := hi 0 (by rw [hmm]; simp; omega)
          rw [hC] at hc2
          obtain ⟨_, hcl2, hat2⟩ := World.cells?_some hc2
          have h0 := hat2 0 (by omega)
          rw [List.getElem?_eq_getElem (by omega)] at h0
          simpa [Addr.add] using World.cell?_spot h0
        subst hs
        simp only [add_plus, Nat.add_zero] at k0 k1 k2 k3
        exact ⟨b, off, W, H, ag, ng, cg, xs, ax, nx, cx, zs, rfl, World.block_lt_of_cell? _ _ k0, hbs, ⟨hn, hcb, han, hby⟩, k0, k1, k2, k3⟩
theorem lawnum7_any (n : Int) (w : World) : Calls Try.prog 11 #[.int .i64 n] w fun e w' => e = .returned (.int .i64 n) ∧ w = w' := by
  go_enter Try.func11, Try.ntmps11
  go_wp2
  go_ret
  exact ⟨rfl, rfl⟩
theorem heavy7_as (r : Bool) (W H : Int) (a ax : Option Addr) (n c nx cx : Nat) (w : World) (R : Hk (decide (3000 < n ∨ 5000 < nx) = r)) :
    Calls Try.prog 7 #[.agg #[.int .i64 W, .int .i64 H, .slice a n c, .slice ax nx cx]] w fun e w' => e = .returned (.bool r) ∧ Below w.heap.size w w' := by
  by_cases q1 : 3000 < n
  · have b1 : decide ((3000 : Int) < n) = true := by simp; omega
    have R1 : Hk (r = true) := ⟨by rw [← R.out]; simp; omega⟩
    clear R
    go_enter Try.func7, Try.ntmps7
    go_wp2
    go_ret
    exact ⟨by rw [R1.out]; rfl, (Below.refl _ _).alloc (Nat.le_refl _) _⟩
  have b1 : decide ((3000 : Int) < n) = false := by simp; omega
  by_cases q2 : 5000 < nx
  · have b2 : decide ((5000 : Int) < nx) = true := by simp; omega
    have R1 : Hk (r = true) := ⟨by rw [← R.out]; simp; omega⟩
    clear R
    go_enter Try.func7, Try.ntmps7
    go_wp2
    go_ret
    exact ⟨by rw [R1.out]; rfl, (Below.refl _ _).alloc (Nat.le_refl _) _⟩
  · have b2 : decide ((5000 : Int) < nx) = false := by simp; omega
    have R1 : Hk (r = false) := ⟨by rw [← R.out]; simp; omega⟩
    clear R
    go_enter Try.func7, Try.ntmps7
    go_wp2
    go_ret
    exact ⟨by rw [R1.out]; rfl, (Below.refl _ _).alloc (Nat.le_refl _) _⟩
def CopyG (W H : Int) (n : Nat) (xs : List Int) (w : World) (e : Ending) (w' : World) : Prop := ∃ a2 c2, e = .returned (.agg #[.int .i64 W, .int .i64 H, .slice a2 n c2]) ∧ OwnB w' w.heap.size (.slice a2 n c2) n xs ∧ Below w.heap.size w w'
theorem copyg_any (W H : Int) (a : Option Addr) (n c : Nat) (xs : List Int) (w : World) (h : By w w.heap.size a n xs) (hn : n ≤ 1099511627776) :
    Calls Try.prog 8 #[.agg #[.int .i64 W, .int .i64 H, .slice a n c]] w (CopyG W H n xs w) := by
  have HY := Hk.mk h
  have HA : Hk (Below w.heap.size w (((w.alloc (.cells #[.int .i64 W, .int .i64 H, .slice a n c] 26)).alloc (.cells #[.int .i64 0, .int .i64 0, .slice none 0 0] 26)).alloc (.cells #[.int .i64 W, .int .i64 H, .slice a n c] 26))) := ⟨(((Below.refl _ _).alloc (Nat.le_refl _) _).alloc (by simp) _).alloc (by simp; omega) _⟩
  clear h
  go_enter Try.func8, Try.ntmps8
  go_wp2_with (go_at_call 16; (with_reducible refine (copy_any a n c xs _ ((HY.out.below HA.out (Nat.le_refl _)).mono HA.out.size) hn).mono ?_); rintro e w1 ⟨v1, rfl, ho1, hb1⟩; obtain ⟨a1, c1, rfl, -, -, -⟩ := ho1.by_; have HO := Hk.mk ho1; have HB := Hk.mk hb1; clear ho1 hb1; have g0 : w1.cell? ⟨w.heap.size + 2, 0, none⟩ = some (.int .i64 W) := (HB.out.cell (p := ⟨w.heap.size + 2, 0, none⟩) (by simp)).trans (by go_simp); have g1 : w1.cell? ⟨w.heap.size + 2, 1, none⟩ = some (.int .i64 H) := (HB.out.cell (p := ⟨w.heap.size + 2, 1, none⟩) (by simp)).trans (by go_simp); have g2 : w1.cell? ⟨w.heap.size + 2, 2, none⟩ = some (.slice a n c) := (HB.out.cell (p := ⟨w.heap.size + 2, 2, none⟩) (by simp)).trans (by go_simp); have f2 : w1.frozen? ⟨w.heap.size + 2, 2, none⟩ = false := (HB.out.frozen (p := ⟨w.heap.size + 2, 2, none⟩) (by simp)).trans (by go_simp); have r0 : w1.cell? ⟨w.heap.size + 1, 0, none⟩ = some (.int .i64 0) := (HB.out.cell (p := ⟨w.heap.size + 1, 0, none⟩) (by simp)).trans (by go_simp); have z0 : w1.frozen? ⟨w.heap.size + 1, 0, none⟩ = false := (HB.out.frozen (p := ⟨w.heap.size + 1, 0, none⟩) (by simp)).trans (by go_simp); have r1 : w1.cell? ⟨w.heap.size + 1, 1, none⟩ = some (.int .i64 0) := (HB.out.cell (p := ⟨w.heap.size + 1, 1, none⟩) (by simp)).trans (by go_simp); have z1 : w1.frozen? ⟨w.heap.size + 1, 1, none⟩ = false := (HB.out.frozen (p := ⟨w.heap.size + 1, 1, none⟩) (by simp)).trans (by go_simp); have r2 : w1.cell? ⟨w.heap.size + 1, 2, none⟩ = some (.slice none 0 0) := (HB.out.cell (p := ⟨w.heap.size + 1, 2, none⟩) (by simp)).trans (by go_simp); have z2 : w1.frozen? ⟨w.heap.size + 1, 2, none⟩ = false := (HB.out.frozen (p := ⟨w.heap.size + 1, 2, none⟩) (by simp)).trans (by go_simp))
  refine bodyPost_ret (v := .agg #[.int .i64 W, .int .i64 H, .slice a1 n c1]) (by simp [results, Try.results8, go_sem, r0, r1, r2]) rfl ⟨a1, c1, rfl, ?_, ?_⟩
  · refine OwnB.weak (base := w.heap.size + 3) ?_ (by omega)
    have h1 : OwnB w1 (w.heap.size + 3) (.slice a1 n c1) n xs := by simpa [Nat.add_assoc] using HO.out
    exact Fr.own (M := fun j => j = w.heap.size + 1 ∨ j = w.heap.size + 2) h1 (((((Fr.refl _ w1).setCell (p := ⟨w.heap.size + 2, 2, none⟩) (fun _ => .inr rfl) _).setCell (p := ⟨w.heap.size + 1, 0, none⟩) (fun _ => .inl rfl) _).setCell (p := ⟨w.heap.size + 1, 1, none⟩) (fun _ => .inl rfl) _).setCell (p := ⟨w.heap.size + 1, 2, none⟩) (fun _ => .inl rfl) _) (fun j hj e => by have h2 := (h1.lt j hj).1; omega)
  · exact ((((HA.out.trans (HB.out.mono HA.out.size)).setCell (p := ⟨w.heap.size + 2, 2, none⟩) (by simp) _).setCell (p := ⟨w.heap.size + 1, 0, none⟩) (by simp) _).setCell (p := ⟨w.heap.size + 1, 1, none⟩) (by simp) _).setCell (p := ⟨w.heap.size + 1, 2, none⟩) (by simp) _
theorem eqb7 (a a' : Option Addr) (n n' c c' : Nat) (xs ys : List Int) (w : World) (h : By w w.heap.size a n xs) (h' : By w w.heap.size a' n' ys) (e : Hk (xs = ys)) (hn : n ≤ 1099511627776) :
    Calls Try.prog 12 #[.slice a n c, .slice a' n' c'] w fun e w' => e = .returned (.bool true) ∧ ∃ m, w' = w.drewN m := by
  obtain ⟨rfl⟩ := e
  have h1 : n = n' := by rw [← h.len, ← h'.len]
  subst h1
  exact eqb_yes a a' n c c' xs w h h' hn
/-- Grounds that are the same. -/
theorem eqg_yes (W H W' H' : Int) (a a' : Option Addr) (n n' c c' : Nat) (xs ys : List Int) (w : World) (h : By w w.heap.size a n xs) (h' : By w w.heap.size a' n' ys) (e : Hk (W = W' ∧ H = H' ∧ xs = ys)) (hn : n ≤ 1099511627776) :
    Calls Try.prog 14 #[.agg #[.int .i64 W, .int .i64 H, .slice a n c], .agg #[.int .i64 W', .int .i64 H', .slice a' n' c']] w fun e w' => e = .returned (.bool true) ∧ Below w.heap.size w w' := by
  obtain ⟨rfl, rfl, exy⟩ := e.out
  have EX := Hk.mk exy
  have HA : Hk (Below w.heap.size w ((w.alloc (.cells #[.int .i64 W, .int .i64 H, .slice a n c] 26)).alloc (.cells #[.int .i64 W, .int .i64 H, .slice a' n' c'] 26))) := ⟨((Below.refl _ _).alloc (Nat.le_refl _) _).alloc (by simp) _⟩
  have H1 := Hk.mk ((h.below HA.out (Nat.le_refl _)).mono HA.out.size)
  have H2 := Hk.mk ((h'.below HA.out (Nat.le_refl _)).mono HA.out.size)
  clear h h' e exy
  go_enter Try.func14, Try.ntmps14
  go_wp2_with (go_at_call 12; (with_reducible refine (eqb7 a a' n n' c c' xs ys _ H1.out H2.out EX hn).mono ?_); rintro e w3 ⟨rfl, m3, rfl⟩)
  go_ret
  exact ⟨rfl, below_drewN HA.out m3⟩
end Go.Proofs.Ytmkehmeoglpkeaa
