import Derived.Test.YtejilcnldllhpaaUb
import Derived.Test.YtejilcnldllhpaaUg
/- The argument of the statements of layer 22. -/
namespace Go.Proofs.Ytejilcnldllhpaa
open Go.ChangeShapes Go.WideShapes Go.ChangeAt Go.RowKit Go.Deep
set_option linter.unusedVariables false
theorem by_of22 {H : Type} {enc : TypeId × Value → H} {w : World} {base : Nat} {spare : Nat → Bool} {held : Bool} {fuel : Nat} {x : DataW H × List MemPlace} {v : Value}
    (hf : DataW.trod enc Try.prog w base spare held fuel 29 [v] = some x) : ∃ a n c xs, v = .slice a n c ∧ n ≤ c ∧ c ≤ 9223372036854775807 ∧ (a = none → c = 0) ∧ By w w.heap.size a n xs := by
  obtain ⟨a, n, c, xs, rfl, h1, h2, h3⟩ := by_of hf
  refine ⟨a, n, c, xs, rfl, h1, h2, fun ha => ?_, h3⟩
  rcases open_ints Try.underlying29 Try.underlying5 (by kernel_rfl) hf with ⟨hcs, _⟩ | ⟨a', l, c', zs, hcs, _⟩
  · simp at hcs; exact hcs.2.2
  · simp at hcs; rw [hcs.1] at ha; cases ha
theorem vec22_of {H : Type} {enc : TypeId × Value → H} {w : World} {base : Nat} {spare : Nat → Bool} {held : Bool} {fuel : Nat} {x : DataW H × List MemPlace} {c0 c1 : Value}
    (hf : DataW.trod enc Try.prog w base spare held fuel 26 [c0, c1] = some x) : ∃ x y : Int, c0 = .int .i64 x ∧ c1 = .int .i64 y := by
  have h2 : Try.prog.cellsOf 2 = 1 := by kernel_rfl
  obtain ⟨ys, n', _, _, _, hyl, hg⟩ := DataW.trod_struct Try.underlying26 hf
  match ys, hyl with
  | [y0, y1], _ =>
    have g0 := hg 0 _ rfl
    have g1 := hg 1 _ rfl
    simp [h2] at g0 g1
    obtain ⟨x0, e0, _, w0⟩ := DataW.trod_int Try.underlying2 g0
    obtain ⟨x1, e1, _, w1⟩ := DataW.trod_int Try.underlying2 g1
    simp at e0 e1
    exact ⟨x0, x1, e0, e1⟩
theorem command_of {H : Type} {enc : TypeId × Value → H} {w : World} {base : Nat} {spare : Nat → Bool} {held : Bool} {fuel : Nat} {x : DataW H × List MemPlace} {c0 c1 c2 c3 c4 c5 c6 c7 c8 c9 : Value}
    (hf : DataW.trod enc Try.prog w base spare held fuel 28 [c0, c1, c2, c3, c4, c5, c6, c7, c8, c9] = some x) : ∃ (p s k n : Int) (a : Option Addr) (m c : Nat) (u : List Int) (t wd h x y : Int), (c0 = .int .i64 p ∧ c1 = .int .i64 s ∧ c2 = .int .i64 k ∧ c3 = .int .i64 n ∧ c4 = .slice a m c ∧ c5 = .int .i64 t ∧ c6 = .int .i64 wd ∧ c7 = .int .i64 h ∧ c8 = .int .i64 x ∧ c9 = .int .i64 y) ∧ m ≤ 9223372036854775807 ∧ Nq w w.heap.size a m u := by
  have h1 : Try.prog.cellsOf 3 = 1 := by kernel_rfl
  have h3 : Try.prog.cellsOf 24 = 1 := by kernel_rfl
  have h4 : Try.prog.cellsOf 26 = 2 := by kernel_rfl
  obtain ⟨ys, n', _, _, _, hyl, hg⟩ := DataW.trod_struct Try.underlying28 hf
  match ys, hyl with
  | [y0, y1, y2, y3, y4, y5, y6, y7, y8], _ =>
    have g0 := hg 0 _ rfl
    have g1 := hg 1 _ rfl
    have g2 := hg 2 _ rfl
    have g3 := hg 3 _ rfl
    have g4 := hg 4 _ rfl
    have g5 := hg 5 _ rfl
    have g6 := hg 6 _ rfl
    have g7 := hg 7 _ rfl
    have g8 := hg 8 _ rfl
    simp [h1, h3, h4] at g0 g1 g2 g3 g4 g5 g6 g7 g8
    obtain ⟨x0, e0, _, w0⟩ := DataW.trod_int Try.underlying3 g0
    obtain ⟨x1, e1, _, w1⟩ := DataW.trod_int Try.underlying3 g1
    obtain ⟨x2, e2, _, w2⟩ := DataW.trod_int Try.underlying3 g2
    obtain ⟨x3, e3, _, w3⟩ := DataW.trod_int Try.underlying3 g3
    obtain ⟨x5, e5, _, w5⟩ := DataW.trod_int Try.underlying3 g5
    obtain ⟨x6, e6, _, w6⟩ := DataW.trod_int Try.underlying3 g6
    obtain ⟨x7, e7, _, w7⟩ := DataW.trod_int Try.underlying3 g7
    obtain ⟨a, m, c, u, rfl, hm, hq⟩ := nq_of g4
    obtain ⟨x8, x9, rfl, rfl⟩ := vec22_of g8
    simp at e0 e1 e2 e3 e5 e6 e7
    exact ⟨x0, x1, x2, x3, a, m, c, u, x5, x6, x7, x8, x9, ⟨e0, e1, e2, e3, rfl, e5, e6, e7, rfl, rfl⟩, hm, hq⟩
/-- The argument: a command, bytes. -/
def Asks22 (w : World) (a0 : Option Addr) (len cap : Nat) : Prop :=
  len ≤ cap ∧ cap ≤ 9223372036854775807 ∧ ∀ i, i < len → ∃ (b off : Nat) (p s k n : Int) (a : Option Addr) (m c : Nat) (u : List Int) (t wd h x y : Int) (ax : Option Addr) (nx cx : Nat) (ys : List Int), a0 = some ⟨b, off, none⟩ ∧ b < w.heap.size ∧ m ≤ 9223372036854775807 ∧ Nq w w.heap.size a m u ∧ (nx ≤ cx ∧ cx ≤ 9223372036854775807 ∧ (ax = none → cx = 0) ∧ By w w.heap.size ax nx ys) ∧
    w.cell? ⟨b, off + i * 11, none⟩ = some (.int .i64 p) ∧ w.cell? ⟨b, off + i * 11 + 1, none⟩ = some (.int .i64 s) ∧ w.cell? ⟨b, off + i * 11 + 2, none⟩ = some (.int .i64 k) ∧ w.cell? ⟨b, off + i * 11 + 3, none⟩ = some (.int .i64 n) ∧ w.cell? ⟨b, off + i * 11 + 4, none⟩ = some (.slice a m c) ∧ w.cell? ⟨b, off + i * 11 + 5, none⟩ = some (.int .i64 t) ∧ w.cell? ⟨b, off + i * 11 + 6, none⟩ = some (.int .i64 wd) ∧ w.cell? ⟨b, off + i * 11 + 7, none⟩ = some (.int .i64 h) ∧ w.cell? ⟨b, off + i * 11 + 8, none⟩ = some (.int .i64 x) ∧ w.cell? ⟨b, off + i * 11 + 9, none⟩ = some (.int .i64 y) ∧ w.cell? ⟨b, off + i * 11 + 10, none⟩ = some (.slice ax nx cx)
set_option maxRecDepth 100000 in
theorem asks22_of {H : Type} {enc : TypeId × Value → H} {w : World} {base : Nat} {held : Bool} {fuel : Nat} {x : DataW H × List MemPlace} {a : Option Addr} {len cap : Nat}
    (hf : DataW.trod enc Try.prog w base (fun _ => true) held fuel 22 [.slice a len cap] = some x) : Asks22 w a len cap := by
  rcases open_slice Try.underlying22 hf with ⟨hcs, _⟩ | ⟨a', l, c, m, n, D, Pl, hcs, _, hl, hm, hmm, _, hi⟩
  · simp at hcs
    obtain ⟨rfl, rfl, rfl⟩ := hcs
    exact ⟨Nat.le_refl _, by omega, fun i h => absurd h (by omega)⟩
  · simp at hcs
    obtain ⟨rfl, rfl, rfl⟩ := hcs
    refine ⟨hl, by unfold maxLen at hm; omega, fun i hlt => ?_⟩
    have hC : Try.prog.cellsOf 31 = 11 := by kernel_rfl
    have h1 : Try.prog.cellsOf 28 = 10 := by kernel_rfl
    have h3 : Try.prog.cellsOf 29 = 1 := by kernel_rfl
    obtain ⟨cs', hc, ht⟩ := hi i (by rw [hmm]; simp; omega)
    rw [hC] at hc
    obtain ⟨ys, n', _, _, _, hyl, hg⟩ := DataW.trod_struct Try.underlying31 ht
    obtain ⟨_, hcl, hat⟩ := World.cells?_some hc
    match cs', hcl with
    | [c0, c1, c2, c3, c4, c5, c6, c7, c8, c9, c10], _ =>
      match ys, hyl with
      | [y0, y1], _ =>
        have g0 := hg 0 _ rfl
        have g1 := hg 1 _ rfl
        simp [h1, h3] at g0 g1
        obtain ⟨p, s, k, n, ua, um, uc, u, t, wd, h, x, y, ⟨rfl, rfl, rfl, rfl, rfl, rfl, rfl, rfl, rfl, rfl⟩, hum, hq⟩ := command_of g0
        obtain ⟨ax, nx, cx, zs, rfl, hn2, hcb2, hab2, hby2⟩ := by_of22 g1
        have k0 := hat 0 (by omega)
        have k1 := hat 1 (by omega)
        have k2 := hat 2 (by omega)
        have k3 := hat 3 (by omega)
        have k4 := hat 4 (by omega)
        have k5 := hat 5 (by omega)
        have k6 := hat 6 (by omega)
        have k7 := hat 7 (by omega)
        have k8 := hat 8 (by omega)
        have k9 := hat 9 (by omega)
        have k10 := hat 10 (by omega)
        obtain ⟨b, off, spot⟩ := a'
        have hs : spot = none := by
          obtain ⟨cs2, hc2, _⟩ := hi 0 (by rw [hmm]; simp; omega)
          rw [hC] at hc2
          obtain ⟨_, hcl2, hat2⟩ := World.cells?_some hc2
          have h0 := hat2 0 (by omega)
          rw [List.getElem?_eq_getElem (by omega)] at h0
          simpa [Addr.add] using World.cell?_spot h0
        subst hs
        simp only [aq_plus, Nat.add_zero] at k0 k1 k2 k3 k4 k5 k6 k7 k8 k9 k10
        exact ⟨b, off, p, s, k, n, ua, um, uc, u, t, wd, h, x, y, ax, nx, cx, zs, rfl, World.block_lt_of_cell? _ _ k0, hum, hq, ⟨hn2, hcb2, hab2, hby2⟩, k0, k1, k2, k3, k4, k5, k6, k7, k8, k9, k10⟩
end Go.Proofs.Ytejilcnldllhpaa
/- Layer 22: what the statements call beside. -/
namespace Go.Proofs.Ytejilcnldllhpaa
open Go.RowKit
set_option linter.unusedVariables false
theorem lawnum22_any (n : Int) (w : World) : Calls Try.prog 19 #[.int .i64 n] w fun e w' => e = .returned (.int .i64 n) ∧ w = w' := by
  go_enter Try.func19, Try.ntmps19
  go_wp2
  go_ret
  exact ⟨rfl, rfl⟩
theorem heavy22_as (r : Bool) (p s k n : Int) (a : Option Addr) (m c : Nat) (t wd h x y : Int) (ax : Option Addr) (nx cx : Nat) (w : World) (E : Hk (decide (300 < m ∨ 3000 < nx) = r)) :
    Calls Try.prog 15 #[.agg #[.int .i64 p, .int .i64 s, .int .i64 k, .int .i64 n, .slice a m c, .int .i64 t, .int .i64 wd, .int .i64 h, .int .i64 x, .int .i64 y, .slice ax nx cx]] w fun e w' => e = .returned (.bool r) ∧ Below w.heap.size w w' := by
  by_cases h1 : 300 < m
  · have b0 : decide ((300 : Int) < (m : Int)) = true := by simp; omega
    have R : Hk (true = r) := ⟨by rw [← E.out]; simp; omega⟩
    clear E h1
    go_enter Try.func15, Try.ntmps15
    go_wp2
    go_ret
    exact ⟨rb R.out, (Below.refl _ _).alloc (Nat.le_refl _) _⟩
  have b0 : decide ((300 : Int) < (m : Int)) = false := by simp; omega
  by_cases h2 : 3000 < nx
  · have b1 : decide ((3000 : Int) < (nx : Int)) = true := by simp; omega
    have R : Hk (true = r) := ⟨by rw [← E.out]; simp; omega⟩
    clear E h1 h2
    go_enter Try.func15, Try.ntmps15
    go_wp2
    go_ret
    exact ⟨rb R.out, (Below.refl _ _).alloc (Nat.le_refl _) _⟩
  · have b1 : decide ((3000 : Int) < (nx : Int)) = false := by simp; omega
    have R : Hk (false = r) := ⟨by rw [← E.out]; simp; omega⟩
    clear E h1 h2
    go_enter Try.func15, Try.ntmps15
    go_wp2
    go_ret
    exact ⟨rb R.out, (Below.refl _ _).alloc (Nat.le_refl _) _⟩
theorem wk_bytes : bytesC 1 2 3 ⟨0, [5], 0, 0, 0, 0, 0⟩ = [3, 1, 2, 1, 5] := by
  simp [bytesC, partsL, wrB, uL, Wr.numL_low]
theorem wk_byt : ∀ b ∈ ([3, 1, 2, 1, 5] : List Int), Fn.Byt b := by
  intro b hb
  simp at hb
  unfold Fn.Byt; omega
theorem wakes22_any (w : World) : Calls Try.prog 24 #[] w fun e w' => e = .returned (.bool true) ∧ Below w.heap.size w w' := by
  have E : Hk (okC 1 2 3 ⟨0, [5], 0, 0, 0, 0, 0⟩ = true) := ⟨by decide⟩
  have HQ := Hk.mk (lit1 w 5 3)
  have HB := Hk.mk (bytes22_yes 1 2 3 0 (some ⟨w.heap.size, 0, none⟩) 1 1 [5] 0 0 0 0 0 _ HQ.out (by omega) E)
  rw [wk_bytes] at HB
  go_enter Try.func24, Try.ntmps24
  go_wp2_with (first | (go_at_call 17; refine HB.out.mono ?_; rintro e w1 ⟨v, rfl, ho, hb⟩; obtain ⟨a, c, rfl, hnc, hby, hfr⟩ := ho.by_; have HY := Hk.mk hby; have HB1 := Hk.mk hb; clear hfr ho hby hb) | (go_at_call 19; (with_reducible refine (lawnum22_any _ _).mono ?_); rintro e w' ⟨rfl, rfl⟩) | (go_at_call 21; refine (eqb_yes _ _ 5 _ _ [3, 1, 2, 1, 5] _ ?_ ?_ (by omega)).mono ?_; exact (HY.out.alloc (Nat.le_refl _) _).mono (by simp); exact By.lit _ [3, 1, 2, 1, 5] _ _ _ 5 rfl wk_byt (by simp); rintro e w' ⟨rfl, m, rfl⟩))
  go_ret
  exact ⟨rfl, below_drewN ((((Below.refl _ _).alloc (Nat.le_refl _) _).trans (HB1.out.mono (by simp))).alloc (by have := HB1.out.size; simp at this; omega) _) m⟩
end Go.Proofs.Ytejilcnldllhpaa
