import Derived.Test.YtgmhalcofcokbaaQd
/- Slices of ways: what it means that one reads as two rows of numbers. -/
namespace Go.Proofs.Ytgmhalcofcokbaa
open Go.ChangeShapes Go.WideShapes Go.ChangeAt Go.RowKit Go.Deep
set_option linter.unusedVariables false
/-- The slice's n elements are the ways (f k, g k). -/
structure Vs (w : World) (B : Nat) (a : Option Addr) (n : Nat) (f g : Nat → Int) : Prop where
  num : ∀ k, k < n → Fx.I64 (f k) ∧ Fx.I64 (g k)
  rd : 0 < n → ∃ b off, a = some ⟨b, off, none⟩ ∧ b < B ∧ ∀ k, k < n → w.cell? ⟨b, off + k * 2, none⟩ = some (.int .i64 (f k)) ∧ w.cell? ⟨b, off + k * 2 + 1, none⟩ = some (.int .i64 (g k))
theorem Vs.nil (w : World) (B : Nat) (a : Option Addr) (f g : Nat → Int) : Vs w B a 0 f g := ⟨fun k h => absurd h (by omega), fun h => absurd h (by omega)⟩
theorem Vs.below {w w' : World} {B B' n : Nat} {a : Option Addr} {f g : Nat → Int} (h : Vs w B a n f g) (hb : Below B' w w') (hB : B ≤ B') : Vs w' B a n f g := ⟨h.num, fun hn => by
  obtain ⟨b, off, e, hlt, hc⟩ := h.rd hn
  exact ⟨b, off, e, hlt, fun k hk => ⟨(hb.cell (p := ⟨b, off + k * 2, none⟩) (Nat.lt_of_lt_of_le hlt hB)).trans (hc k hk).1, (hb.cell (p := ⟨b, off + k * 2 + 1, none⟩) (Nat.lt_of_lt_of_le hlt hB)).trans (hc k hk).2⟩⟩⟩
theorem Vs.mono {w : World} {B B' n : Nat} {a : Option Addr} {f g : Nat → Int} (h : Vs w B a n f g) (hB : B ≤ B') : Vs w B' a n f g := ⟨h.num, fun hn => by
  obtain ⟨b, off, e, hlt, hc⟩ := h.rd hn
  exact ⟨b, off, e, by omega, hc⟩⟩
set_option maxRecDepth 100000 in
theorem vs_of {H : Type} {enc : TypeId × Value → H} {w : World} {base : Nat} {spare : Nat → Bool} {held : Bool} {fuel : Nat} {x : DataW H × List MemPlace} {v : Value}
    (hf : DataW.trod enc Try.prog w base spare held fuel 53 [v] = some x) : ∃ a n c f g, v = .slice a n c ∧ n ≤ c ∧ c ≤ 9223372036854775807 ∧ Vs w w.heap.size a n f g := by
  rcases open_slice Try.underlying53 hf with ⟨hcs, _⟩ | ⟨a', l, c, m, n, D, Pl, hcs, _, hl, hm, hmm, _, hi⟩
  · simp at hcs
    exact ⟨none, 0, 0, fun _ => 0, fun _ => 0, hcs, by omega, by omega, Vs.nil _ _ _ _ _⟩
  · simp at hcs
    have hC : Try.prog.cellsOf 24 = 2 := by kernel_rfl
    have hall : ∀ k, ∃ p : Int × Int, k < l → Fx.I64 p.1 ∧ Fx.I64 p.2 ∧ ∃ b off, a' = ⟨b, off, none⟩ ∧ b < w.heap.size ∧ w.cell? ⟨b, off + k * 2, none⟩ = some (.int .i64 p.1) ∧ w.cell? ⟨b, off + k * 2 + 1, none⟩ = some (.int .i64 p.2) := by
      intro k
      by_cases hk : k < l
      · obtain ⟨cs', hc, ht⟩ := hi k (by rw [hmm]; split <;> omega)
        rw [hC] at hc
        obtain ⟨_, hcl, hat⟩ := World.cells?_some hc
        match cs', hcl with
        | [c0, c1], _ =>
          obtain ⟨x0, x1, rfl, rfl, w0, w1⟩ := vec_of ht
          have k0 := hat 0 (by omega)
          have k1 := hat 1 (by omega)
          obtain ⟨b, off, spot⟩ := a'
          have hs : spot = none := by
            obtain ⟨cs2, hc2, _⟩ := hi 0 (by rw [hmm]; split <;> omega)
            rw [hC] at hc2
            obtain ⟨_, hcl2, hat2⟩ := World.cells?_some hc2
            have h0 := hat2 0 (by omega)
            rw [List.getElem?_eq_getElem (by omega)] at h0
            simpa [Addr.add] using World.cell?_spot h0
          subst hs
          simp only [addr_plus, Nat.add_zero] at k0 k1
          exact ⟨(x0, x1), fun _ => ⟨w0, w1, b, off, rfl, World.block_lt_of_cell? _ _ k0, k0, k1⟩⟩
      · exact ⟨(0, 0), fun h => absurd h hk⟩
    obtain ⟨p, hp⟩ := Classical.skolem.1 hall
    refine ⟨_, l, c, fun k => (p k).1, fun k => (p k).2, hcs, hl, by unfold maxLen at hm; omega, fun k hk => ⟨(hp k hk).1, (hp k hk).2.1⟩, fun hn => ?_⟩
    obtain ⟨_, _, b, off, rfl, hb, _⟩ := hp 0 hn
    refine ⟨b, off, rfl, hb, fun k hk => ?_⟩
    obtain ⟨_, _, b', off', e, _, h1, h2⟩ := hp k hk
    simp only [Addr.mk.injEq] at e
    obtain ⟨rfl, rfl, _⟩ := e
    exact ⟨h1, h2⟩
end Go.Proofs.Ytgmhalcofcokbaa
/- The argument of the statements of layer 19: two places, a number, other places. -/
namespace Go.Proofs.Ytgmhalcofcokbaa
open Go.ChangeShapes Go.WideShapes Go.ChangeAt Go.RowKit Go.Deep
set_option linter.unusedVariables false
def Asks19 (w : World) (a : Option Addr) (len cap : Nat) : Prop :=
  len ≤ cap ∧ cap ≤ 9223372036854775807 ∧ ∀ i, i < len → ∃ (b off : Nat) (x y u v k : Int) (ab : Option Addr) (nb cb : Nat) (f g : Nat → Int), a = some ⟨b, off, none⟩ ∧ b < w.heap.size ∧ Fx.I64 x ∧ Fx.I64 y ∧ Fx.I64 u ∧ Fx.I64 v ∧ Fx.I64 k ∧ nb ≤ cb ∧ cb ≤ 9223372036854775807 ∧ Vs w w.heap.size ab nb f g ∧
    w.cell? ⟨b, off + i * 6, none⟩ = some (.int .i64 x) ∧ w.cell? ⟨b, off + i * 6 + 1, none⟩ = some (.int .i64 y) ∧ w.cell? ⟨b, off + i * 6 + 2, none⟩ = some (.int .i64 u) ∧
    w.cell? ⟨b, off + i * 6 + 3, none⟩ = some (.int .i64 v) ∧ w.cell? ⟨b, off + i * 6 + 4, none⟩ = some (.int .i64 k) ∧ w.cell? ⟨b, off + i * 6 + 5, none⟩ = some (.slice ab nb cb)
set_option maxRecDepth 100000 in
theorem asks19_of {H : Type} {enc : TypeId × Value → H} {w : World} {base : Nat} {held : Bool} {fuel : Nat} {x : DataW H × List MemPlace} {a : Option Addr} {len cap : Nat}
    (hf : DataW.trod enc Try.prog w base (fun _ => true) held fuel 52 [.slice a len cap] = some x) : Asks19 w a len cap := by
  rcases open_slice Try.underlying52 hf with ⟨hcs, _⟩ | ⟨a', l, c, m, n, D, Pl, hcs, _, hl, hm, hmm, _, hi⟩
  · simp at hcs
    obtain ⟨rfl, rfl, rfl⟩ := hcs
    exact ⟨Nat.le_refl _, by omega, fun i h => absurd h (by omega)⟩
  · simp at hcs
    obtain ⟨rfl, rfl, rfl⟩ := hcs
    refine ⟨hl, by unfold maxLen at hm; omega, fun i hlt => ?_⟩
    have hC : Try.prog.cellsOf 55 = 6 := by kernel_rfl
    have h1 : Try.prog.cellsOf 2 = 1 := by kernel_rfl
    have h2 : Try.prog.cellsOf 24 = 2 := by kernel_rfl
    have h3 : Try.prog.cellsOf 53 = 1 := by kernel_rfl
    obtain ⟨cs', hc, ht⟩ := hi i (by rw [hmm]; simp; omega)
    rw [hC] at hc
    obtain ⟨ys, n', _, _, _, hyl, hg⟩ := DataW.trod_struct Try.underlying55 ht
    obtain ⟨_, hcl, hat⟩ := World.cells?_some hc
    match cs', hcl with
    | [c0, c1, c2, c3, c4, c5], _ =>
      match ys, hyl with
      | [y0, y1, y2, y3], _ =>
        have g0 := hg 0 _ rfl
        have g1 := hg 1 _ rfl
        have g2 := hg 2 _ rfl
        have g3 := hg 3 _ rfl
        simp [h1, h2, h3] at g0 g1 g2 g3
        obtain ⟨x0, x1, rfl, rfl, w0, w1⟩ := vec_of g0
        obtain ⟨x2, x3, rfl, rfl, w2, w3⟩ := vec_of g1
        obtain ⟨x4, e4, _, w4⟩ := DataW.trod_int Try.underlying2 g2
        obtain ⟨ab, nb, cb, f, g, rfl, hn, hcb, hvs⟩ := vs_of g3
        simp at e4
        subst e4
        have k0 := hat 0 (by omega)
        have k1 := hat 1 (by omega)
        have k2 := hat 2 (by omega)
        have k3 := hat 3 (by omega)
        have k4 := hat 4 (by omega)
        have k5 := hat 5 (by omega)
        obtain ⟨b, off, spot⟩ := a'
        have hs : spot = none := by
          obtain ⟨cs2, hc2, _⟩ := hi 0 (by rw [hmm]; simp; omega)
          rw [hC] at hc2
          obtain ⟨_, hcl2, hat2⟩ := World.cells?_some hc2
          have h0 := hat2 0 (by omega)
          rw [List.getElem?_eq_getElem (by omega)] at h0
          simpa [Addr.add] using World.cell?_spot h0
        subst hs
        simp only [addr_plus, Nat.add_zero] at k0 k1 k2 k3 k4 k5
        exact ⟨b, off, x0, x1, x2, x3, x4, ab, nb, cb, f, g, rfl, World.block_lt_of_cell? _ _ k0, w0, w1, w2, w3, i64_of_wf w4, hn, hcb, hvs, k0, k1, k2, k3, k4, k5⟩
end Go.Proofs.Ytgmhalcofcokbaa
/- Nearness, as a truth. -/
namespace Go.Proofs.Ytgmhalcofcokbaa.Fx
set_option linter.unusedVariables false
def withinS (a b c d r : Int) : Bool := decide (0 ≤ r) && decide (SQ (subS a c) (subS b d) < r * r)
theorem sub_self {a : Int} (h : I64 a) : subS a a = 0 := by
  have h1 := cnt_bd h
  unfold subS addS negS
  rw [cnt_in (x := -cnt a) (by omega), show cnt a + -cnt a = 0 by omega]
  decide
theorem SQ_zero : SQ 0 0 = 0 := by decide
theorem within_zero {a b c d : Int} : withinS a b c d 0 = false := by
  have h1 : 0 ≤ SQ (subS a c) (subS b d) := by
    unfold SQ
    have := Int.mul_nonneg (sz_bd (sub_i64 a c)).1 (sz_bd (sub_i64 a c)).1
    have := Int.mul_nonneg (sz_bd (sub_i64 b d)).1 (sz_bd (sub_i64 b d)).1
    omega
  unfold withinS
  rw [decide_eq_false (p := SQ (subS a c) (subS b d) < 0 * 0) (by omega)]
  simp
theorem within_self {a b : Int} (ha : I64 a) (hb : I64 b) : withinS a b a b 1 = true := by
  unfold withinS; rw [sub_self ha, sub_self hb, SQ_zero]; decide
end Go.Proofs.Ytgmhalcofcokbaa.Fx
/- The contracts of nearness of package vec and of the reference. -/
namespace Go.Proofs.Ytgmhalcofcokbaa
open Go.RowKit
set_option linter.unusedVariables false
set_option maxHeartbeats 800000 in
theorem within_any (a b c d r : Int) (w : World) (ha : Fx.I64 a) (hb : Fx.I64 b) (hc : Fx.I64 c) (hd : Fx.I64 d) (hr : Fx.I64 r) :
    Calls Try.prog 12 #[.agg #[.int .i64 a, .int .i64 b], .agg #[.int .i64 c, .int .i64 d], .int .i64 r] w fun e w' => e = .returned (.bool (Fx.withinS a b c d r)) ∧ Below w.heap.size w w' := by
  have HB : Fx.Hd (Below w.heap.size w ((w.alloc (.cells #[.int .i64 a, .int .i64 b] 24)).alloc (.cells #[.int .i64 c, .int .i64 d] 24))) := ⟨((Below.refl _ _).alloc (Nat.le_refl _) _).alloc (by simp) _⟩
  by_cases hn : r < 0
  · have ED : Fx.Hd (Fx.withinS a b c d r = false) := ⟨by unfold Fx.withinS; simp; omega⟩
    have hn2 := (Fx.cnt_sign hr).2 hn
    go_enter Try.func12, Try.ntmps12
    go_wp2_with fail
    go_ret
    exact ⟨Fx.rb ED.out.symm, HB.out⟩
  · obtain ⟨r0, r1⟩ : 0 ≤ r ∧ r ≤ 9223372036854775807 := ⟨by omega, hr.2⟩
    have hof := fun w => of_any r w hr
    rw [Fx.cnt_in (by omega)] at hof
    have HOF := Fx.Hd.mk hof
    clear hof hn
    have s1 := Fx.sub_i64 a c
    have s2 := Fx.sub_i64 b d
    have hs := (Fx.SQ_bd s1 s2).1
    obtain ⟨h, hh⟩ : ∃ h, h = Fx.SQ (Fx.subS a c) (Fx.subS b d) / 18446744073709551616 := ⟨_, rfl⟩
    obtain ⟨l, hl⟩ : ∃ l, l = Fx.SQ (Fx.subS a c) (Fx.subS b d) % 18446744073709551616 := ⟨_, rfl⟩
    obtain ⟨mh, hmh⟩ : ∃ mh, mh = r * r / 18446744073709551616 := ⟨_, rfl⟩
    obtain ⟨ml, hml⟩ : ∃ ml, ml = r * r % 18446744073709551616 := ⟨_, rfl⟩
    have G : Fx.Hd (Fx.withinS a b c d r = Fx.lessB h l mh ml) := ⟨by rw [hh, hl, hmh, hml, Fx.lessB_pair hs (Int.mul_nonneg r0 r0)]; unfold Fx.withinS; simp [r0]⟩
    have E := Fx.Hd.mk (And.intro hh hl)
    have E2 := Fx.Hd.mk (And.intro hmh hml)
    clear hh hl hmh hml hs
    go_enter Try.func12, Try.ntmps12
    go_wp2_with (first | (go_at_call 11; (with_reducible refine (up (vsub_any a b c d _ ha hb hc hd) HB).mono ?_); clear HB; rintro e w' ⟨rfl, HB⟩) | (go_at_call 35; (with_reducible refine (up (square_any (Fx.subS a c) (Fx.subS b d) h l _ s1 s2 E) HB).mono ?_); clear HB; rintro e w' ⟨rfl, HB⟩) | (go_at_call 38; (with_reducible refine (up (wmul_as r r mh ml _ ⟨r0, r1⟩ ⟨r0, r1⟩ E2) HB).mono ?_); clear HB; rintro e w' ⟨rfl, HB⟩) | (go_at_call 37; (with_reducible refine (up (wless_as h l mh ml (Fx.withinS a b c d r) _ G) HB).mono ?_); clear HB; rintro e w' ⟨rfl, HB⟩))
    go_ret
    exact ⟨rfl, HB.out⟩
set_option maxHeartbeats 800000 in
theorem rwithin_any (a b c d r : Int) (w : World) (ha : Fx.I64 a) (hb : Fx.I64 b) (hc : Fx.I64 c) (hd : Fx.I64 d) (hr : Fx.I64 r) :
    Calls Try.prog 30 #[.agg #[.int .i64 a, .int .i64 b], .agg #[.int .i64 c, .int .i64 d], .int .i64 r] w fun e w' => e = .returned (.bool (Fx.withinS a b c d r)) ∧ Below w.heap.size w w' := by
  have HB : Fx.Hd (Below w.heap.size w ((w.alloc (.cells #[.int .i64 a, .int .i64 b] 24)).alloc (.cells #[.int .i64 c, .int .i64 d] 24))) := ⟨((Below.refl _ _).alloc (Nat.le_refl _) _).alloc (by simp) _⟩
  by_cases hn : r < 0
  · have ED : Fx.Hd (Fx.withinS a b c d r = false) := ⟨by unfold Fx.withinS; simp; omega⟩
    have hn2 := (Fx.cnt_sign hr).2 hn
    go_enter Try.func30, Try.ntmps30
    go_wp2_with (go_at_call 43; (with_reducible refine (of_any r _ hr).mono ?_); rintro e w' ⟨rfl, rfl⟩)
    go_ret
    exact ⟨Fx.rb ED.out.symm, HB.out⟩
  · obtain ⟨r0, r1⟩ : 0 ≤ r ∧ r ≤ 9223372036854775807 := ⟨by omega, hr.2⟩
    have hof := fun w => of_any r w hr
    rw [Fx.cnt_in (by omega)] at hof
    have HOF := Fx.Hd.mk hof
    clear hof hn
    have s1 := Fx.sub_i64 a c
    have s2 := Fx.sub_i64 b d
    have hs := (Fx.SQ_bd s1 s2).1
    obtain ⟨h, hh⟩ : ∃ h, h = Fx.SQ (Fx.subS a c) (Fx.subS b d) / 18446744073709551616 := ⟨_, rfl⟩
    obtain ⟨l, hl⟩ : ∃ l, l = Fx.SQ (Fx.subS a c) (Fx.subS b d) % 18446744073709551616 := ⟨_, rfl⟩
    obtain ⟨mh, hmh⟩ : ∃ mh, mh = r * r / 18446744073709551616 := ⟨_, rfl⟩
    obtain ⟨ml, hml⟩ : ∃ ml, ml = r * r % 18446744073709551616 := ⟨_, rfl⟩
    have G : Fx.Hd (Fx.withinS a b c d r = Fx.lessB h l mh ml) := ⟨by rw [hh, hl, hmh, hml, Fx.lessB_pair hs (Int.mul_nonneg r0 r0)]; unfold Fx.withinS; simp [r0]⟩
    have E := Fx.Hd.mk (And.intro hh hl)
    have E2 := Fx.Hd.mk (And.intro hmh hml)
    clear hh hl hmh hml hs
    go_enter Try.func30, Try.ntmps30
    go_wp2_with (first | (go_at_call 43; (with_reducible refine (HOF.out _).mono ?_); rintro e w' ⟨rfl, rfl⟩) | (go_at_call 27; (with_reducible refine (up (rvsub_any a b c d _ ha hb hc hd) HB).mono ?_); clear HB; rintro e w' ⟨rfl, HB⟩) | (go_at_call 40; (with_reducible refine (up (squares_any (Fx.subS a c) (Fx.subS b d) h l _ s1 s2 E) HB).mono ?_); clear HB; rintro e w' ⟨rfl, HB⟩) | (go_at_call 45; (with_reducible refine (up (times_as r r mh ml _ ⟨r0, r1⟩ ⟨r0, r1⟩ E2) HB).mono ?_); clear HB; rintro e w' ⟨rfl, HB⟩) | (go_at_call 44; (with_reducible refine (up (rless_as h l mh ml (Fx.withinS a b c d r) _ G) HB).mono ?_); clear HB; rintro e w' ⟨rfl, HB⟩))
    go_ret
    exact ⟨rfl, HB.out⟩
theorem within_k0 (a b c d : Int) (w : World) (ha : Fx.I64 a) (hb : Fx.I64 b) (hc : Fx.I64 c) (hd : Fx.I64 d) :
    Calls Try.prog 12 #[.agg #[.int .i64 a, .int .i64 b], .agg #[.int .i64 c, .int .i64 d], .int .i64 0] w fun e w' => e = .returned (.bool false) ∧ Below w.heap.size w w' := by
  have h := within_any a b c d 0 w ha hb hc hd (by unfold Fx.I64; omega)
  rw [Fx.within_zero] at h
  exact h
theorem within_k1 (a b : Int) (w : World) (ha : Fx.I64 a) (hb : Fx.I64 b) :
    Calls Try.prog 12 #[.agg #[.int .i64 a, .int .i64 b], .agg #[.int .i64 a, .int .i64 b], .int .i64 1] w fun e w' => e = .returned (.bool true) ∧ Below w.heap.size w w' := by
  have h := within_any a b a b 1 w ha hb ha hb (by unfold Fx.I64; omega)
  rw [Fx.within_self ha hb] at h
  exact h
end Go.Proofs.Ytgmhalcofcokbaa
/- A call that makes memory leaves four cells as they were, wherever they lie. -/
namespace Go.Proofs.Ytgmhalcofcokbaa
open Go.RowKit
set_option linter.unusedVariables false
theorem held4 {P : Program} {F : FuncId} {args : Array Value} {w w0 : World} {r : Ending} {p q : Nat} {x y u v : Value} (h : Calls P F args w fun e w' => e = r ∧ Below w.heap.size w w')
    (c0 : w.cell? ⟨p, 0, none⟩ = some x) (c1 : w.cell? ⟨p, 1, none⟩ = some y) (d0 : w.cell? ⟨q, 0, none⟩ = some u) (d1 : w.cell? ⟨q, 1, none⟩ = some v)
    (hB : Below w0.heap.size w0 w) :
    Calls P F args w fun e w' => e = r ∧ w'.cell? ⟨p, 0, none⟩ = some x ∧ w'.cell? ⟨p, 1, none⟩ = some y ∧ w'.cell? ⟨q, 0, none⟩ = some u ∧ w'.cell? ⟨q, 1, none⟩ = some v ∧ Below w0.heap.size w0 w' :=
  h.mono fun e w' ⟨h1, h2⟩ => by
    have l1 := World.block_lt_of_cell? _ _ c0
    have l2 := World.block_lt_of_cell? _ _ d0
    exact ⟨h1, (h2.cell (p := ⟨p, 0, none⟩) l1).trans c0, (h2.cell (p := ⟨p, 1, none⟩) l1).trans c1, (h2.cell (p := ⟨q, 0, none⟩) l2).trans d0, (h2.cell (p := ⟨q, 1, none⟩) l2).trans d1, hB.trans (h2.mono hB.size)⟩
end Go.Proofs.Ytgmhalcofcokbaa
/- The contracts of the order of ways of package vec and of the reference. -/
namespace Go.Proofs.Ytgmhalcofcokbaa
open Go.RowKit
set_option linter.unusedVariables false
theorem Fx.vless_not (a b c d : Int) (h : Fx.vlessS a b c d = true) : Fx.vlessS c d a b = false := by
  have e1 := Fx.cmp_flip a c
  have e2 := Fx.cmp_flip b d
  unfold Fx.vlessS at *
  simp at h ⊢
  omega
theorem Fx.vless_self (a b : Int) : Fx.vlessS a b a b = false := by
  unfold Fx.vlessS; rw [Fx.cmp_self, Fx.cmp_self]; decide
end Go.Proofs.Ytgmhalcofcokbaa
