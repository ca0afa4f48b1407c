import Derived.Deep.QuietTactic
import Derived.BigQuiet
import Derived.Deep.RegionWith
import Derived.Deep.RegionHeld3
import Derived.Deep.DeepCutAuto
import Derived.Deep.DeepFit
import Derived.Outline
import Derived.Test.YtjjodfdmbiebnaaQxg
import Derived.Test.YtjjodfdmbiebnaaQxi
/- Layer 12: the argument of its statements; wakes. -/
namespace Go.Proofs.Ytjjodfdmbiebnaa
open Go.ChangeShapes Go.WideShapes Go.ChangeAt Go.RowKit Go.Deep
set_option linter.unusedVariables false
set_option linter.unusedSimpArgs false
/-- A list of acts: what, a key, a value. -/
def Aq (w : World) (B : Nat) (a : Option Addr) (n : Nat) (D : Nat → Int) (L : Nat → PrQ) : Prop :=
  ∀ k, k < n → ∃ b off, a = some ⟨b, off, none⟩ ∧ b < B ∧ Fx.I64 (D k) ∧ w.cell? ⟨b, off + k * 3, none⟩ = some (.int .i64 (D k)) ∧ w.cell? ⟨b, off + k * 3 + 1, none⟩ = some (.int .i64 (L k).1) ∧ w.cell? ⟨b, off + k * 3 + 2, none⟩ = some (.int .i64 (L k).2)
def Asks12 (w : World) (a : Option Addr) (len cap : Nat) : Prop := len ≤ cap ∧ cap ≤ 9223372036854775807 ∧ ∃ D L, Aq w w.heap.size a len D L
set_option maxRecDepth 100000 in
theorem asks12_of {H : Type} {enc : TypeId × Value → H} {w : World} {base : Nat} {held : Bool} {fuel : Nat} {x : DataW H × List MemPlace} {a : Option Addr} {len cap : Nat}
    (hf : DataW.trod enc Try.prog w base (fun _ => true) held fuel 71 [.slice a len cap] = some x) : Asks12 w a len cap := by
  rcases open_slice Try.underlying71 hf with ⟨hcs, _⟩ | ⟨a', l, c, m, n, D, Pl, hcs, _, hl, hm, hmm, _, hi⟩
  · simp at hcs
    obtain ⟨rfl, rfl, rfl⟩ := hcs
    exact ⟨Nat.le_refl _, by omega, fun _ => 0, fun _ => (0, 0), fun i h => absurd h (by omega)⟩
  · simp at hcs
    obtain ⟨rfl, rfl, rfl⟩ := hcs
    refine ⟨hl, by unfold maxLen at hm; omega, ?_⟩
    have key : ∀ k : Nat, ∃ p : Int × PrQ, k < len → ∃ b off, (some a' : Option Addr) = some ⟨b, off, none⟩ ∧ b < w.heap.size ∧ Fx.I64 p.1 ∧ w.cell? ⟨b, off + k * 3, none⟩ = some (.int .i64 p.1) ∧ w.cell? ⟨b, off + k * 3 + 1, none⟩ = some (.int .i64 p.2.1) ∧ w.cell? ⟨b, off + k * 3 + 2, none⟩ = some (.int .i64 p.2.2) := by
      intro i
      by_cases hlt : i < len
      case neg => exact ⟨(0, 0, 0), fun h => absurd h hlt⟩
      have hC : Try.prog.cellsOf 79 = 3 := by kernel_rfl
      have h1 : Try.prog.cellsOf 3 = 1 := by kernel_rfl
      obtain ⟨cs', hc, ht⟩ := hi i (by rw [hmm]; simp; omega)
      rw [hC] at hc
      obtain ⟨ys, n', _, _, _, hyl, hg⟩ := DataW.trod_struct Try.underlying79 ht
      obtain ⟨_, hcl, hat⟩ := World.cells?_some hc
      match cs', hcl with
      | [c0, c1, c2], _ =>
        match ys, hyl with
        | [y0, y1, y2], _ =>
          have g0 := hg 0 _ rfl
          have g1 := hg 1 _ rfl
          have g2 := hg 2 _ rfl
          simp [h1] at g0 g1 g2
          obtain ⟨x0, e0, _, w0⟩ := DataW.trod_int Try.underlying3 g0
          obtain ⟨x1, e1, _, w1⟩ := DataW.trod_int Try.underlying3 g1
          obtain ⟨x2, e2, _, w2⟩ := DataW.trod_int Try.underlying3 g2
          simp at e0 e1 e2
          subst e0 e1 e2
          have k0 := hat 0 (by omega)
          have k1 := hat 1 (by omega)
          have k2 := hat 2 (by omega)
          obtain ⟨b, off, spot⟩ := a'
          have hs : spot = none := by
            obtain ⟨cs2, hc2, _⟩ := hi 0 (by rw [hmm]; simp; omega)
            rw [hC] at hc2
            obtain ⟨_, hcl2, hat2⟩ := World.cells?_some hc2
            have h0 := hat2 0 (by omega)
            rw [List.getElem?_eq_getElem (by omega)] at h0
            simpa [Addr.add] using World.cell?_spot h0
          subst hs
          simp only [addr_plus, Nat.add_zero] at k0 k1 k2
          exact ⟨(x0, x1, x2), fun _ => ⟨b, off, rfl, World.block_lt_of_cell? _ _ k0, i64_of_wf w0, k0, k1, k2⟩⟩
    obtain ⟨f, hf⟩ := Classical.axiomOfChoice key
    exact ⟨fun k => (f k).1, fun k => (f k).2, fun k hk => hf k hk⟩
theorem Hq.bel {w w' : World} {base Q n c : Nat} {a : Option Addr} {F : Nat → PrQ} (h : Hq w base Q a n c F) (hf : Fr (MQ Q a) w w') : Below base w w' := by
  refine hf.below (by have := h.bs; have := h.lt; omega) (fun j hj hm => ?_)
  rcases hm with e | ⟨ad, e, e2⟩
  · have := h.bs; omega
  · rcases h.row.2 with ⟨e3, _⟩ | ⟨g, cap, cur, e3, hg, _⟩
    · injection e3 with e3
      rw [e3] at e; cases e
    · injection e3 with e3
      rw [e3] at e
      injection e with e
      subst e
      simp only at e2
      omega
theorem qpush_at (base Q n c : Nat) (a : Option Addr) (F : Nat → PrQ) (k v : Int) (p : PrQ) (E : Hk (p = (k, v))) (w : World) (h : Hq w base Q a n c F) (hp : HpQ F n) (hn : n ≤ 1000000) :
    Calls Try.prog 48 #[.pointer (some ⟨Q, 0, none⟩), .int .i64 k, .int .i64 v] w fun e w' => e = .returned (.tuple #[]) ∧ ∃ g c' G, PushQ w w' base Q a n F p g c' G := by
  have := E.out
  subst this
  exact qpush_any base Q n c a F (k, v) w h hp hn
theorem three_min {G : Nat → PrQ} (hp : HpQ G 3) (hc : ∀ x, cntQ G x 3 = (if ((2, 1) : PrQ) = x then 1 else 0) + (if ((1, 9) : PrQ) = x then 1 else 0) + (if ((1, 3) : PrQ) = x then 1 else 0)) : G 0 = (1, 3) := by
  have h1 : 0 < cntQ G (1, 3) 3 := by rw [hc]; simp
  obtain ⟨k, hk, e⟩ := cntQ_pos h1
  have h2 := hp.min k hk
  rw [e] at h2
  have h3 := cntQ_has (F := G) (k := 0) (n := 3) (by omega)
  rw [hc] at h3
  by_cases c1 : ((2, 1) : PrQ) = G 0
  · rw [← c1] at h2; exact absurd h2 (by unfold leQ ltQ; decide)
  by_cases c2 : ((1, 9) : PrQ) = G 0
  · rw [← c2] at h2; exact absurd h2 (by unfold leQ ltQ; decide)
  by_cases c3 : ((1, 3) : PrQ) = G 0
  · exact c3.symm
  · rw [if_neg c1, if_neg c2, if_neg c3] at h3; omega
set_option maxRecDepth 100000 in
set_option maxHeartbeats 1600000 in
theorem wakes12_any (w : World) : Calls Try.prog 53 #[] w fun e w' => e = .returned (.bool true) ∧ Below w.heap.size w w' := by
  have L0 : w.heap.size ≤ w.heap.size := Nat.le_refl _
  have HP0 : Hk (HpQ (fun _ => (0, 0)) 0) := ⟨fun k h0 h => by omega⟩
  go_enter Try.func53, Try.ntmps53
  go_upto_region 5 with (first
    | (go_at_call 46; (with_reducible refine (qnew _ w.heap.size L0).mono ?_); rintro e z ⟨Q, rfl, hQ, hq, hb⟩; have HQ0 := Hk.mk hq; have HB := Hk.mk hb; clear hq hb hQ)
    | (go_at_call 48; (with_reducible refine (qpush_at w.heap.size _ _ _ _ _ 2 1 (2, 1) ⟨rfl⟩ _ HQ0.out HP0.out (by omega)).mono ?_); rintro e z ⟨rfl, g, c, G, hr⟩; have HQ1 := Hk.mk hr.q; have HP1 := Hk.mk hr.hp; have HC1 := Hk.mk hr.cn; replace HB := Hk.mk (HB.out.trans (HQ0.out.bel hr.fr)); clear hr))
  clear HQ0
  go_upto_region 6 with (go_at_call 48; (with_reducible refine (qpush_at w.heap.size _ _ _ _ _ 1 9 (1, 9) ⟨rfl⟩ _ HQ1.out HP1.out (by omega)).mono ?_); rintro e z ⟨rfl, g, c, G, hr⟩; have HQ2 := Hk.mk hr.q; have HP2 := Hk.mk hr.hp; have HC2 := Hk.mk hr.cn; replace HB := Hk.mk (HB.out.trans (HQ1.out.bel hr.fr)); clear hr)
  clear HQ1
  go_upto_region 7 with (go_at_call 48; (with_reducible refine (qpush_at w.heap.size _ _ _ _ _ 1 3 (1, 3) ⟨rfl⟩ _ HQ2.out HP2.out (by omega)).mono ?_); rintro e z ⟨rfl, g, c, G, hr⟩; have HQ3 := Hk.mk hr.q; have HP3 := Hk.mk hr.hp; have HC3 := Hk.mk hr.cn; replace HB := Hk.mk (HB.out.trans (HQ2.out.bel hr.fr)); clear hr)
  clear HQ2
  have hmin : G 0 = (1, 3) := three_min HP3.out (fun x => by rw [HC3.out x, HC2.out x, HC1.out x]; show 0 + _ + _ + _ = _; omega)
  go_wp2_with (first
    | (go_at_call 50; (with_reducible refine (pop_any w.heap.size Q 2 _ _ G _ HQ3.out HP3.out (by omega)).mono ?_); rintro e z ⟨rfl, G2, hq, hp2, hc2, hf⟩; rw [hmin]; have HQ4 := Hk.mk hq; replace HB := Hk.mk (HB.out.trans (HQ3.out.bel hf)); clear hq hp2 hc2 hf HQ3)
    | (go_at_call 52; (with_reducible refine (qlen _ w.heap.size Q 2 _ _ G2 HQ4.out).mono ?_); rintro e z ⟨rfl, rfl⟩))
  go_ret
  exact ⟨rfl, HB.out⟩
end Go.Proofs.Ytjjodfdmbiebnaa
