/- Layer 4: what the statements call besides. -/
import Derived.Test.YtdammgpflfoppabWird
import Derived.Test.YtdammgpflfoppabByb
import Derived.Test.YtdammgpflfoppabFnvc
namespace Go.Proofs.Ytdammgpflfoppab
open Go.ChangeShapes Go.WideShapes Go.ChangeAt Go.RowKit Go.Deep
set_option linter.unusedVariables false
/-- Bytes that the caller has made are written over. -/
theorem lawbytes_any (w0 w : World) (v : Value) (n : Nat) (xs : List Int) (h : OwnB w w0.heap.size v n xs) (hb : w0.heap.size ≤ w.heap.size) (hn : n ≤ 1048576) :
    Calls Try.prog 50 #[v] w fun e w' => e = .returned (.tuple #[]) ∧ Below w0.heap.size w w' := by
  obtain ⟨i0, hi, hz0, hz1, hz2⟩ := info_parts info_u8
  obtain ⟨a, c, rfl, hnc, hby, hfr⟩ := h.by_
  have HO := Hk.mk h
  have HF := Hk.mk hfr
  have HY := Hk.mk hby
  clear h hfr hby
  go_enter Try.func50, Try.ntmps50
  go_wp2
  go_loopw [2] (fun i wr => ∃ (k : Nat), i = .int .i64 k ∧ k ≤ n ∧ Hk (∃ ys, OwnB wr w0.heap.size (.slice a n c) n ys) ∧ Hk (Below w0.heap.size w wr)) (fun i _ => n - (intOf i).toNat)
  case atStart => exact ⟨0, rfl, by omega, ⟨_, HO.out⟩, ⟨Below.refl _ _⟩⟩
  case round =>
    obtain ⟨k, rfl, hk, HP, HB⟩ := hrel
    obtain ⟨ys, hys⟩ := HP.out
    have hsz := HB.out.size
    by_cases hlt : k < n
    · obtain ⟨g, o, rfl, hg, -⟩ := HY.out.at_ (by omega)
      obtain ⟨hgb, rfl, -⟩ := HF.out _ _ rfl
      obtain ⟨a2, c2, e2, -, hy2, -⟩ := hys.by_
      injection e2 with e3 e4 e5
      subst e3
      obtain ⟨g2, o2, e6, -, hc2⟩ := hy2.at_ (by omega)
      simp only [Option.some.injEq, Addr.mk.injEq] at e6
      obtain ⟨rfl, rfl, -⟩ := e6
      have hcx := hc2 k hlt
      rw [Nat.zero_add] at hcx
      have hbd := hy2.bd hlt
      have hfz : wr.frozen? ⟨g, k, none⟩ = false := hys.2.2.frozenAt k
      obtain ⟨x, hx⟩ : ∃ x, ys.getD k 0 = x := ⟨_, rfl⟩
      rw [hx] at hcx hbd
      obtain ⟨hx0, hx1⟩ := hbd
      obtain ⟨Y, hY⟩ : ∃ Y, bits BinOp.xor IntKind.u8 x 85 = Y := ⟨_, rfl⟩
      have hYb := (Fn.xor8 (x := x) (d := 85) ⟨hx0, hx1⟩ (by omega)).1
      rw [hY] at hYb
      have HO3 := Hk.mk (hys.set_ k hYb)
      clear hx hc2 hy2 hys HP
      go_wp2
      go_roundw
      case rel => exact ⟨k + 1, by go_num, by omega, ⟨_, HO3.out⟩, ⟨HB.out.setCell hgb _⟩⟩
      case measure => simp [intOf]; omega
    · obtain rfl : k = n := by omega
      have hown := hys.2.2
      have HYS := Hk.mk hys
      clear hys HP
      go_wp2_with (at_builtin; refine wpList_append_own _ rfl _ _ 39 rfl w0.heap.size 5 i0 (.int .u8 0) 1 1 Try.underlying39 hi hz0 hz1 hz2 rfl (by decide) _ _ _ rfl (hown.alloc _) ⟨wr.heap.size, 0, none⟩ 1 1 [.int .u8 5] rfl rfl one_at one_one (by unfold maxLen; omega) (by omega) (by simp; omega) ?_; intro v' w1 hown' hgrow _)
      go_end0
      exact ⟨rfl, (HB.out.alloc (by omega) _).grown hgrow (by simp; omega) (fun g hg => (HYS.out.lt g hg).1)⟩
theorem wakes4_any (w : World) : Calls Try.prog 41 #[] w fun e w' => e = .returned (.bool true) ∧ Below w.heap.size w w' := by
  have e1 : Wr.numL (Wr.zig (-1)) = [1] := by rw [show Wr.zig (-1) = 1 by decide, Wr.numL_low (by omega)]; rfl
  have HI := Hk.mk (int_any (-1) w (by unfold I62; omega))
  rw [e1] at HI
  clear e1
  go_enter Try.func41, Try.ntmps41
  go_wp2_with (first | (go_at_call 38; refine HI.out.mono ?_; rintro e w1 ⟨v, rfl, ho, hb⟩; obtain ⟨a, c, rfl, hnc, hby, hfr⟩ := ho.by_; have HY := Hk.mk hby; clear hfr ho hby) | (go_at_call 36; (with_reducible refine (lawnum_any _ _).mono ?_); rintro e w' ⟨rfl, rfl⟩) | (go_at_call 31; refine (eqb_yes _ _ 1 _ _ [1] _ ?_ ?_ (by omega)).mono ?_; exact (HY.out.alloc (Nat.le_refl _) _).mono (by simp); exact By.at1 _ 1 _ _ _ rfl (by unfold Fn.Byt; omega); rintro e w' ⟨rfl, m, rfl⟩))
  go_ret
  exact ⟨rfl, below_drewN (hb.alloc hb.size _) m⟩
theorem heavy_no (x : Value) (a a' : Option Addr) (n c n' c' : Nat) (w : World) (h1 : n ≤ 5000) (h2 : n' ≤ 5000) : Calls Try.prog 42 #[.agg #[x, .slice a n c, .slice a' n' c']] w fun e w' => e = .returned (.bool false) ∧ Below w.heap.size w w' := by
  have i1 : decide ((5000 : Int) < (n : Int)) = false := by simp; omega
  have i2 : decide ((5000 : Int) < (n' : Int)) = false := by simp; omega
  go_enter Try.func42, Try.ntmps42
  go_wp2
  go_ret
  exact ⟨rfl, (Below.refl _ _).alloc (Nat.le_refl _) _⟩
theorem heavy_yes (x : Value) (a a' : Option Addr) (n c n' c' : Nat) (w : World) (h : ¬ (n ≤ 5000 ∧ n' ≤ 5000)) : Calls Try.prog 42 #[.agg #[x, .slice a n c, .slice a' n' c']] w fun e w' => e = .returned (.bool true) ∧ Below w.heap.size w w' := by
  by_cases h1 : n ≤ 5000
  · have i1 : decide ((5000 : Int) < (n : Int)) = false := by simp; omega
    have i2 : decide ((5000 : Int) < (n' : Int)) = true := by simp; omega
    go_enter Try.func42, Try.ntmps42
    go_wp2
    go_ret
    exact ⟨rfl, (Below.refl _ _).alloc (Nat.le_refl _) _⟩
  · have i1 : decide ((5000 : Int) < (n : Int)) = true := by simp; omega
    go_enter Try.func42, Try.ntmps42
    go_wp2
    go_ret
    exact ⟨rfl, (Below.refl _ _).alloc (Nat.le_refl _) _⟩
/-- The argument: a number, bytes, more bytes. -/
def Asks4 (w : World) (a : Option Addr) (len cap : Nat) : Prop :=
  len ≤ cap ∧ cap ≤ 9223372036854775807 ∧ ∀ i, i < len → ∃ (b off : Nat) (s : Int) (ab : Option Addr) (nb cb : Nat) (xs : List Int) (ax : Option Addr) (nx cx : Nat) (ys : List Int), a = some ⟨b, off, none⟩ ∧ b < w.heap.size ∧ (-9223372036854775808 ≤ s ∧ s ≤ 9223372036854775807) ∧ (nb ≤ cb ∧ cb ≤ 9223372036854775807 ∧ (ab = none → cb = 0) ∧ By w w.heap.size ab nb xs) ∧ (nx ≤ cx ∧ cx ≤ 9223372036854775807 ∧ (ax = none → cx = 0) ∧ By w w.heap.size ax nx ys) ∧
    w.cell? ⟨b, off + i * 3, none⟩ = some (.int .i64 s) ∧ w.cell? ⟨b, off + i * 3 + 1, none⟩ = some (.slice ab nb cb) ∧ w.cell? ⟨b, off + i * 3 + 2, none⟩ = some (.slice ax nx cx)
theorem by_of2 {H : Type} {enc : TypeId × Value → H} {w : World} {base : Nat} {spare : Nat → Bool} {held : Bool} {fuel : Nat} {x : DataW H × List MemPlace} {v : Value}
    (hf : DataW.trod enc Try.prog w base spare held fuel 39 [v] = some x) : ∃ a n c xs, v = .slice a n c ∧ n ≤ c ∧ c ≤ 9223372036854775807 ∧ (a = none → c = 0) ∧ By w w.heap.size a n xs := by
  obtain ⟨a, n, c, xs, rfl, h1, h2, h3⟩ := by_of hf
  refine ⟨a, n, c, xs, rfl, h1, h2, fun ha => ?_, h3⟩
  rcases open_ints Try.underlying39 Try.underlying5 (by kernel_rfl) hf with ⟨hcs, _⟩ | ⟨a', l, c', zs, hcs, _⟩
  · simp at hcs; exact hcs.2.2
  · simp at hcs; rw [hcs.1] at ha; cases ha
set_option maxRecDepth 100000 in
theorem asks4_of {H : Type} {enc : TypeId × Value → H} {w : World} {base : Nat} {held : Bool} {fuel : Nat} {x : DataW H × List MemPlace} {a : Option Addr} {len cap : Nat}
    (hf : DataW.trod enc Try.prog w base (fun _ => true) held fuel 49 [.slice a len cap] = some x) : Asks4 w a len cap := by
  rcases open_slice Try.underlying49 hf with ⟨hcs, _⟩ | ⟨a', l, c, m, n, D, Pl, hcs, _, hl, hm, hmm, _, hi⟩
  · simp at hcs
    obtain ⟨rfl, rfl, rfl⟩ := hcs
    exact ⟨Nat.le_refl _, by omega, fun i h => absurd h (by omega)⟩
  · simp at hcs
    obtain ⟨rfl, rfl, rfl⟩ := hcs
    refine ⟨hl, by unfold maxLen at hm; omega, fun i hlt => ?_⟩
    have hC : Try.prog.cellsOf 51 = 3 := by kernel_rfl
    have h1 : Try.prog.cellsOf 3 = 1 := by kernel_rfl
    have h3 : Try.prog.cellsOf 39 = 1 := by kernel_rfl
    obtain ⟨cs', hc, ht⟩ := hi i (by rw [hmm]; simp; omega)
    rw [hC] at hc
    obtain ⟨ys, n', _, _, _, hyl, hg⟩ := DataW.trod_struct Try.underlying51 ht
    obtain ⟨_, hcl, hat⟩ := World.cells?_some hc
    match cs', hcl with
    | [c0, c1, c2], _ =>
      match ys, hyl with
      | [y0, y1, y2], _ =>
        have g0 := hg 0 _ rfl
        have g1 := hg 1 _ rfl
        have g2 := hg 2 _ rfl
        simp [h1, h3] at g0 g1 g2
        obtain ⟨x0, e0, _, w0⟩ := DataW.trod_int Try.underlying3 g0
        obtain ⟨ab, nb, cb, xs, rfl, hn, hcb, hab, hby⟩ := by_of2 g1
        obtain ⟨ax, nx, cx, zs, rfl, hn2, hcb2, hab2, hby2⟩ := by_of2 g2
        simp at e0
        subst e0
        have k0 := hat 0 (by omega)
        have k1 := hat 1 (by omega)
        have k2 := hat 2 (by omega)
        obtain ⟨b, off, spot⟩ := a'
        have hs : spot = none := by
          obtain ⟨cs2, hc2, _⟩ := hi 0 (by rw [hmm]; simp; omega)
          rw [hC] at hc2
          obtain ⟨_, hcl2, hat2⟩ := World.cells?_some hc2
          have h0 := hat2 0 (by omega)
          rw [List.getElem?_eq_getElem (by omega)] at h0
          simpa [Addr.add] using World.cell?_spot h0
        subst hs
        simp only [add_plus, Nat.add_zero] at k0 k1 k2
        exact ⟨b, off, x0, ab, nb, cb, xs, ax, nx, cx, zs, rfl, World.block_lt_of_cell? _ _ k0, bounds_i64 w0, ⟨hn, hcb, hab, hby⟩, ⟨hn2, hcb2, hab2, hby2⟩, k0, k1, k2⟩
end Go.Proofs.Ytdammgpflfoppab
