/- Layer 4: what the statements call besides. -/
import Derived.Test.YtdammgpflfoppacWird
import Derived.Test.YtdammgpflfoppacByb
import Derived.Test.YtdammgpflfoppacFnvc
namespace Go.Proofs.Ytdammgpflfoppac
open Go.ChangeShapes Go.WideShapes Go.ChangeAt Go.RowKit Go.Deep
set_option linter.unusedVariables false
theorem wakes4_any (w : World) : Calls Try.prog 16 #[] w fun e w' => e = .returned (.bool true) ∧ Below w.heap.size w w' := by
  have e1 : Wr.numL (Wr.zig (-1)) = [1] := by rw [show Wr.zig (-1) = 1 by decide, Wr.numL_low (by omega)]; rfl
  have HI := Hk.mk (int_any (-1) w (by unfold I62; omega))
  rw [e1] at HI
  clear e1
  go_enter Try.func16, Try.ntmps16
  go_wp2_with (first | (go_at_call 11; refine HI.out.mono ?_; rintro e w1 ⟨v, rfl, ho, hb⟩; obtain ⟨a, c, rfl, hnc, hby, hfr⟩ := ho.by_; have HY := Hk.mk hby; clear hfr ho hby) | (go_at_call 8; (with_reducible refine (lawnum_any _ _).mono ?_); rintro e w' ⟨rfl, rfl⟩) | (go_at_call 15; refine (eqb_yes _ _ 1 _ _ [1] _ ?_ ?_ (by omega)).mono ?_; exact (HY.out.alloc (Nat.le_refl _) _).mono (by simp); exact By.at1 _ 1 _ _ _ rfl (by unfold Fn.Byt; omega); rintro e w' ⟨rfl, m, rfl⟩))
  go_ret
  exact ⟨rfl, below_drewN (hb.alloc hb.size _) m⟩
theorem heavy_no (x : Value) (a a' : Option Addr) (n c n' c' : Nat) (w : World) (h1 : n ≤ 5000) (h2 : n' ≤ 5000) : Calls Try.prog 6 #[.agg #[x, .slice a n c, .slice a' n' c']] w fun e w' => e = .returned (.bool false) ∧ Below w.heap.size w w' := by
  have i1 : decide ((5000 : Int) < (n : Int)) = false := by simp; omega
  have i2 : decide ((5000 : Int) < (n' : Int)) = false := by simp; omega
  go_enter Try.func6, Try.ntmps6
  go_wp2
  go_ret
  exact ⟨rfl, (Below.refl _ _).alloc (Nat.le_refl _) _⟩
theorem heavy_yes (x : Value) (a a' : Option Addr) (n c n' c' : Nat) (w : World) (h : ¬ (n ≤ 5000 ∧ n' ≤ 5000)) : Calls Try.prog 6 #[.agg #[x, .slice a n c, .slice a' n' c']] w fun e w' => e = .returned (.bool true) ∧ Below w.heap.size w w' := by
  by_cases h1 : n ≤ 5000
  · have i1 : decide ((5000 : Int) < (n : Int)) = false := by simp; omega
    have i2 : decide ((5000 : Int) < (n' : Int)) = true := by simp; omega
    go_enter Try.func6, Try.ntmps6
    go_wp2
    go_ret
    exact ⟨rfl, (Below.refl _ _).alloc (Nat.le_refl _) _⟩
  · have i1 : decide ((5000 : Int) < (n : Int)) = true := by simp; omega
    go_enter Try.func6, Try.ntmps6
    go_wp2
    go_ret
    exact ⟨rfl, (Below.refl _ _).alloc (Nat.le_refl _) _⟩
/-- The argument: a number, bytes, more bytes. -/
def Asks4 (w : World) (a : Option Addr) (len cap : Nat) : Prop :=
  len ≤ cap ∧ cap ≤ 9223372036854775807 ∧ ∀ i, i < len → ∃ (b off : Nat) (s : Int) (ab : Option Addr) (nb cb : Nat) (xs : List Int) (ax : Option Addr) (nx cx : Nat) (ys : List Int), a = some ⟨b, off, none⟩ ∧ b < w.heap.size ∧ (-9223372036854775808 ≤ s ∧ s ≤ 9223372036854775807) ∧ (nb ≤ cb ∧ cb ≤ 9223372036854775807 ∧ (ab = none → cb = 0) ∧ By w w.heap.size ab nb xs) ∧ (nx ≤ cx ∧ cx ≤ 9223372036854775807 ∧ (ax = none → cx = 0) ∧ By w w.heap.size ax nx ys) ∧
    w.cell? ⟨b, off + i * 3, none⟩ = some (.int .i64 s) ∧ w.cell? ⟨b, off + i * 3 + 1, none⟩ = some (.slice ab nb cb) ∧ w.cell? ⟨b, off + i * 3 + 2, none⟩ = some (.slice ax nx cx)
theorem by_of2 {H : Type} {enc : TypeId × Value → H} {w : World} {base : Nat} {spare : Nat → Bool} {held : Bool} {fuel : Nat} {x : DataW H × List MemPlace} {v : Value}
    (hf : DataW.trod enc Try.prog w base spare held fuel 24 [v] = some x) : ∃ a n c xs, v = .slice a n c ∧ n ≤ c ∧ c ≤ 9223372036854775807 ∧ (a = none → c = 0) ∧ By w w.heap.size a n xs := by
  obtain ⟨a, n, c, xs, rfl, h1, h2, h3⟩ := by_of hf
  refine ⟨a, n, c, xs, rfl, h1, h2, fun ha => ?_, h3⟩
  rcases open_ints Try.underlying24 Try.underlying5 (by kernel_rfl) hf with ⟨hcs, _⟩ | ⟨a', l, c', zs, hcs, _⟩
  · simp at hcs; exact hcs.2.2
  · simp at hcs; rw [hcs.1] at ha; cases ha
set_option maxRecDepth 100000 in
theorem asks4_of {H : Type} {enc : TypeId × Value → H} {w : World} {base : Nat} {held : Bool} {fuel : Nat} {x : DataW H × List MemPlace} {a : Option Addr} {len cap : Nat}
    (hf : DataW.trod enc Try.prog w base (fun _ => true) held fuel 22 [.slice a len cap] = some x) : Asks4 w a len cap := by
  rcases open_slice Try.underlying22 hf with ⟨hcs, _⟩ | ⟨a', l, c, m, n, D, Pl, hcs, _, hl, hm, hmm, _, hi⟩
  · simp at hcs
    obtain ⟨rfl, rfl, rfl⟩ := hcs
    exact ⟨Nat.le_refl _, by omega, fun i h => absurd h (by omega)⟩
  · simp at hcs
    obtain ⟨rfl, rfl, rfl⟩ := hcs
    refine ⟨hl, by unfold maxLen at hm; omega, fun i hlt => ?_⟩
    have hC : Try.prog.cellsOf 26 = 3 := by kernel_rfl
    have h1 : Try.prog.cellsOf 3 = 1 := by kernel_rfl
    have h3 : Try.prog.cellsOf 24 = 1 := by kernel_rfl
    obtain ⟨cs', hc, ht⟩ := hi i (by rw [hmm]; simp; omega)
    rw [hC] at hc
    obtain ⟨ys, n', _, _, _, hyl, hg⟩ := DataW.trod_struct Try.underlying26 ht
    obtain ⟨_, hcl, hat⟩ := World.cells?_some hc
    match cs', hcl with
    | [c0, c1, c2], _ =>
      match ys, hyl with
      | [y0, y1, y2], _ =>
        have g0 := hg 0 _ rfl
        have g1 := hg 1 _ rfl
        have g2 := hg 2 _ rfl
        simp [h1, h3] at g0 g1 g2
        obtain ⟨x0, e0, _, w0⟩ := DataW.trod_int Try.underlying3 g0
        obtain ⟨ab, nb, cb, xs, rfl, hn, hcb, hab, hby⟩ := by_of2 g1
        obtain ⟨ax, nx, cx, zs, rfl, hn2, hcb2, hab2, hby2⟩ := by_of2 g2
        simp at e0
        subst e0
        have k0 := hat 0 (by omega)
        have k1 := hat 1 (by omega)
        have k2 := hat 2 (by omega)
        obtain ⟨b, off, spot⟩ := a'
        have hs : spot = none := by
          obtain ⟨cs2, hc2, _⟩ := hi 0 (by rw [hmm]; simp; omega)
          rw [hC] at hc2
          obtain ⟨_, hcl2, hat2⟩ := World.cells?_some hc2
          have h0 := hat2 0 (by omega)
          rw [List.getElem?_eq_getElem (by omega)] at h0
          simpa [Addr.add] using World.cell?_spot h0
        subst hs
        simp only [add_plus, Nat.add_zero] at k0 k1 k2
        exact ⟨b, off, x0, ab, nb, cb, xs, ax, nx, cx, zs, rfl, World.block_lt_of_cell? _ _ k0, bounds_i64 w0, ⟨hn, hcb, hab, hby⟩, ⟨hn2, hcb2, hab2, hby2⟩, k0, k1, k2⟩
end Go.Proofs.Ytdammgpflfoppac
