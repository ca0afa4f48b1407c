import Derived.Deep.QuietTactic
import Derived.BigQuiet
import Derived.Deep.RegionWith
import Derived.Deep.RegionHeld3
import Derived.Deep.DeepCutAuto
import Derived.Deep.DeepFit
import Derived.Outline
import Derived.Test.YtcgilmjhbdehpaaZbq
import Derived.Test.YtcgilmjhbdehpaaZbp
import Derived.Test.YtcgilmjhbdehpaaZbo
import Derived.Test.YtcgilmjhbdehpaaZba
import Derived.ProofKit
import Derived.OpenShut
import Derived.ChangeSame
/- Layer 11: two tiles of two sectors; how much is tried. -/
namespace Go.Proofs.Ytcgilmjhbdehpaa
open Go.ChangeShapes Go.WideShapes Go.ChangeAt Go.RowKit Go.Deep
set_option linter.unusedVariables false
set_option linter.unusedSimpArgs false
theorem sofl_p (W H : Int) (t : Nat) (z : Int) (n : Nat) (w : World) (w1 : 1 ≤ W) (w2 : W ≤ 128) (h1 : 1 ≤ H) (h2 : H ≤ 128) (hn : (n : Int) = W * H) (htn : t < n) (EZ : Hk (Fx.ofS W t = z)) :
    Calls Try.prog 34 #[.int .i64 W, .int .i64 H, .int .i64 t] w fun e w' => e = .returned (.tuple #[.int .i64 z, .int .i64 0]) ∧ ∃ m, w' = w.drewN m := by
  have n16 : n ≤ 16384 := by have := mul_bd w1 w2 h1 h2; omega
  have e1 : IntKind.i64.wrap (W * H) = (n : Int) := by rw [← hn]; exact wr_in' (by omega)
  have t0 : (0 : Int) ≤ (t : Int) := by omega
  have t1 : (t : Int) ≤ 16384 := by omega
  have c0 : decide ((t : Int) < 0) = false := by simp
  have c1 : decide ((n : Int) ≤ (t : Int)) = false := by simp; omega
  have c2 : decide (n ≤ t) = false := by simp; omega
  have c3 : ¬ n ≤ t := by omega
  clear hn n16
  go_enter Try.func34, Try.ntmps34
  go_wp2_with (first
    | (go_at_call 35; (with_reducible refine (sized_yes W H _ w1 w2 h1 h2).mono ?_); rintro e z ⟨rfl, hz⟩; rw [hz]; clear hz z)
    | (go_at_call 50; (with_reducible refine (sof_qas W t z _ w1 w2 t0 t1 EZ).mono ?_); rintro e z2 ⟨rfl, hz⟩; have HZ := Hk.mk hz; clear hz))
  go_ret2
  exact ⟨rfl, HZ.out⟩
theorem num11_q (x : Int) (w : World) : Calls Try.prog 13 #[.int .i64 x] w fun e w' => e = .returned (.int .i64 x) ∧ w' = w := num11_any x w
theorem heavy11_any (W H : Int) (fa ta pa : Option Addr) (fn fc tn tc pn pc : Nat) (w : World) (r : Bool) (hr : decide (900 < fn) = r) :
    Calls Try.prog 8 #[.agg #[.int .i64 W, .int .i64 H, .slice fa fn fc, .slice ta tn tc, .slice pa pn pc]] w fun e w' => e = .returned (.bool r) ∧ Below w.heap.size w w' := by
  have hrI : decide ((900 : Int) < (fn : Int)) = r := by rw [← hr]; simp; omega
  go_enter Try.func8, Try.ntmps8
  go_wp2_with fail
  go_ret
  exact ⟨by first | rfl | simp [hrI, hr], (Below.refl _ _).alloc (Nat.le_refl _) _⟩
set_option maxRecDepth 100000 in
set_option maxHeartbeats 1600000 in
theorem apart11_any (W H : Int) (t u n : Nat) (s z0 : Int) (fb fo fc : Nat) (ta pa : Option Addr) (tn tc pn pc : Nat) (ft fu : Bool) (w : World) (w1 : 1 ≤ W) (w2 : W ≤ 128) (h1 : 1 ≤ H) (h2 : H ≤ 128) (hn : (n : Int) = W * H) (htn : t < n) (hun : u < n) (hfl : fb < w.heap.size) (hT : w.cell? ⟨fb, fo + t, none⟩ = some (.bool ft)) (hU : w.cell? ⟨fb, fo + u, none⟩ = some (.bool fu)) (ES : Hk (Fx.ofS W t = s)) (EZ : Hk (Fx.ofS W u = z0)) (r : Bool) (hr : (ft && fu && !(decide (s = z0))) = r) :
    Calls Try.prog 18 #[.agg #[.int .i64 W, .int .i64 H, .slice (some ⟨fb, fo, none⟩) n fc, .slice ta tn tc, .slice pa pn pc], .int .i64 t, .int .i64 u] w fun e w' => e = .returned (.bool r) ∧ Below w.heap.size w w' := by
  have HWB : Hk (Below w.heap.size w (w.alloc (.cells #[.int .i64 W, .int .i64 H, .slice (some ⟨fb, fo, none⟩) n fc, .slice (ta) tn tc, .slice (pa) pn pc] 25))) := ⟨(Below.refl _ _).alloc (Nat.le_refl _) _⟩
  have hNW : (w.heap.size + 1) ≤ (w.alloc (.cells #[.int .i64 W, .int .i64 H, .slice (some ⟨fb, fo, none⟩) n fc, .slice (ta) tn tc, .slice (pa) pn pc] 25)).heap.size := by simp
  have HB : Hk (Below (w.heap.size + 1) (w.alloc (.cells #[.int .i64 W, .int .i64 H, .slice (some ⟨fb, fo, none⟩) n fc, .slice (ta) tn tc, .slice (pa) pn pc] 25)) (w.alloc (.cells #[.int .i64 W, .int .i64 H, .slice (some ⟨fb, fo, none⟩) n fc, .slice (ta) tn tc, .slice (pa) pn pc] 25))) := ⟨Below.refl _ _⟩
  have HTR : Hk (∀ X, Below (w.heap.size + 1) (w.alloc (.cells #[.int .i64 W, .int .i64 H, .slice (some ⟨fb, fo, none⟩) n fc, .slice (ta) tn tc, .slice (pa) pn pc] 25)) X → Below w.heap.size w X) := ⟨fun X hX => HWB.out.trans (hX.mono (by omega))⟩
  have HT := Hk.mk hT
  have HU := Hk.mk hU
  have HFT := Hk.mk (fun (X : World) (hX : Below (w.heap.size + 1) (w.alloc (.cells #[.int .i64 W, .int .i64 H, .slice (some ⟨fb, fo, none⟩) n fc, .slice (ta) tn tc, .slice (pa) pn pc] 25)) X) => ((HTR.out X hX).cell (p := ⟨fb, fo + t, none⟩) hfl).trans hT)
  have HFU := Hk.mk (fun (X : World) (hX : Below (w.heap.size + 1) (w.alloc (.cells #[.int .i64 W, .int .i64 H, .slice (some ⟨fb, fo, none⟩) n fc, .slice (ta) tn tc, .slice (pa) pn pc] 25)) X) => ((HTR.out X hX).cell (p := ⟨fb, fo + u, none⟩) hfl).trans hU)
  have HN := Hk.mk hn
  have hfb1 : fb < w.heap.size + 1 := by omega
  have t0 : (0 : Int) ≤ (t : Int) := by omega
  have t1 : (t : Int) < (n : Int) := by omega
  have u0 : (0 : Int) ≤ (u : Int) := by omega
  have u1 : (u : Int) < (n : Int) := by omega
  have n16 : n ≤ 16384 := by have := mul_bd w1 w2 h1 h2; omega
  clear hn hT hU
  obtain ⟨hc, hf, hl, hn', hm⟩ := kw_rules HB.out hNW
  go_enter Try.func18, Try.ntmps18
  go_upto_region 3 with (go_at_call 34; first
    | ((with_reducible refine (sofl_p W H t s n _ w1 w2 h1 h2 HN.out htn ES).mono ?_); rintro e z ⟨rfl, mm, hz⟩; replace HB := Hk.mk (below_to11 HB.out hz); clear hz; clear hc hf hl hn' hm; obtain ⟨hc, hf, hl, hn', hm⟩ := kw_rules HB.out hNW)
    | ((with_reducible refine (sofl_p W H u z0 n _ w1 w2 h1 h2 HN.out hun EZ).mono ?_); rintro e z2 ⟨rfl, mm, hz⟩; replace HB := Hk.mk (below_to11 HB.out hz); clear hz; clear hc hf hl hn' hm; obtain ⟨hc, hf, hl, hn', hm⟩ := kw_rules HB.out hNW))
  have cT := HFT.out _ HB.out
  have cU := HFU.out _ HB.out
  have cT0 := HT.out
  have cU0 := HU.out
  cases ft
  · as_aux_lemma =>
      go_wp2_with (go_at_call 13; (with_reducible refine (num11_any _ _).mono ?_); rintro e z4 ⟨rfl, hz⟩; rw [hz]; clear hz z4)
      go_ret
      exact ⟨by first | exact congrArg _ hr | (rw [← hr]; rfl) | (rw [← hr]; simp; done) | (rw [← hr]; simp [hsz]; done) | (simp [hsz]; done), HTR.out _ HB.out⟩
  · cases fu
    · as_aux_lemma =>
      go_wp2_with (go_at_call 13; (with_reducible refine (num11_any _ _).mono ?_); rintro e z4 ⟨rfl, hz⟩; rw [hz]; clear hz z4)
      go_ret
      exact ⟨by first | exact congrArg _ hr | (rw [← hr]; rfl) | (rw [← hr]; simp; done) | (rw [← hr]; simp [hsz]; done) | (simp [hsz]; done), HTR.out _ HB.out⟩
    · by_cases hsz : s = z0
      · have es : decide (s = z0) = true := decide_eq_true hsz
        rw [es] at hr
        as_aux_lemma =>
          go_wp2_with (go_at_call 13; (with_reducible refine (num11_any _ _).mono ?_); rintro e z4 ⟨rfl, hz⟩; rw [hz]; clear hz z4)
          go_ret
          exact ⟨by first | exact congrArg _ hr | (rw [← hr]; rfl) | (rw [← hr]; simp; done) | (rw [← hr]; simp [hsz]; done) | (simp [hsz]; done), HTR.out _ HB.out⟩
      · have es : decide (s = z0) = false := decide_eq_false hsz
        rw [es] at hr
        as_aux_lemma =>
          go_wp2_with (go_at_call 13; (with_reducible refine (num11_any _ _).mono ?_); rintro e z4 ⟨rfl, hz⟩; rw [hz]; clear hz z4)
          go_ret
          exact ⟨by first | exact congrArg _ hr | (rw [← hr]; rfl) | (rw [← hr]; simp; done) | (rw [← hr]; simp [hsz]; done) | (simp [hsz]; done), HTR.out _ HB.out⟩
end Go.Proofs.Ytcgilmjhbdehpaa
/- Layer 11: portals are told apart; when two tiles are a pair. -/
namespace Go.Proofs.Ytcgilmjhbdehpaa
open Go.ChangeShapes Go.WideShapes Go.ChangeAt Go.RowKit Go.Deep
set_option linter.unusedVariables false
set_option linter.unusedSimpArgs false
def neP (x y : Int × Int × Int) : Prop := ¬ (x.1 = y.1 ∧ x.2.1 = y.2.1)
theorem runs_ne {R : List (Nat × Nat)} {T : Nat → Int} {ac : Int} (hT : ∀ i j, i < j → T i < T j) (h1 : ∀ r, r ∈ R → 1 ≤ r.2) (h : R.Pairwise fun a b => a.1 + a.2 ≤ b.1) : (R.map (ptOf T ac)).Pairwise neP := by
  rw [List.pairwise_map]
  refine h.imp_of_mem fun {a b} ha hb hab => ?_
  intro e
  have := hT (a.1 + (a.2 - 1) / 2) (b.1 + (b.2 - 1) / 2) (by have := h1 a ha; omega)
  have e1 : T (a.1 + (a.2 - 1) / 2) = T (b.1 + (b.2 - 1) / 2) := e.1
  omega
theorem bV_ne {fr : Nat → Bool} {W H k : Nat} (hW : 1 ≤ W) : (bV fr W H k).Pairwise neP :=
  runs_ne (fun i j h => by
    have := Nat.mul_lt_mul_of_pos_left h (show 0 < W by omega)
    have e1 := atV W k i
    have e2 := atV W k j
    show ((8 * k + 7 : Nat) : Int) + (i : Int) * (W : Int) < ((8 * k + 7 : Nat) : Int) + (j : Int) * (W : Int)
    rw [e1, e2]; omega) (fun r hr => ((runI (prV fr W H k) (H + 1)).ok r hr).1.w1) (runI _ _).asc
theorem bH_ne {fr : Nat → Bool} {W k : Nat} : (bH fr W k).Pairwise neP :=
  runs_ne (fun i j h => by
    show ((8 * k + 7 : Nat) : Int) * (W : Int) + (i : Int) * 1 < ((8 * k + 7 : Nat) : Int) * (W : Int) + (j : Int) * 1
    omega) (fun r hr => ((runI (prH fr W k) (W + 1)).ok r hr).1.w1) (runI _ _).asc
/-- A portal of border k lies there. -/
theorem bV_at {fr : Nat → Bool} {W H k : Nat} (hk : 8 * k + 8 < W) : ∀ p, p ∈ bV fr W H k → ∃ t : Nat, p.1 = (t : Int) ∧ p.2.1 = ((t + 1 : Nat) : Int) ∧ t % W = 8 * k + 7 := fun p hp => by
  obtain ⟨r, hr, rfl⟩ := List.mem_map.1 hp
  refine ⟨W * (r.1 + (r.2 - 1) / 2) + (8 * k + 7), ?_, ?_, ?_⟩
  · show ((8 * k + 7 : Nat) : Int) + ((r.1 + (r.2 - 1) / 2 : Nat) : Int) * (W : Int) = _
    rw [atV]
  · show ((8 * k + 7 : Nat) : Int) + ((r.1 + (r.2 - 1) / 2 : Nat) : Int) * (W : Int) + 1 = _
    rw [atV]; push_cast; rfl
  · rw [Nat.mul_add_mod, Nat.mod_eq_of_lt (by omega)]
theorem bH_at {fr : Nat → Bool} {W H k : Nat} (hk : 8 * k + 8 < H) : ∀ p, p ∈ bH fr W k → ∃ t : Nat, p.1 = (t : Int) ∧ p.2.1 = ((t + W : Nat) : Int) ∧ t / W = 8 * k + 7 := fun p hp => by
  obtain ⟨r, hr, rfl⟩ := List.mem_map.1 hp
  have ho := ((runI (prH fr W k) (W + 1)).ok r hr).1
  have hw := ho.w1
  obtain ⟨j, hj⟩ : ∃ j, j = r.1 + (r.2 - 1) / 2 := ⟨_, rfl⟩
  have hon := ho.on j (by omega) (by omega)
  have hjW : j < W := by
    apply Classical.byContradiction
    intro h
    rw [prH_off j (by omega)] at hon
    cases hon
  refine ⟨W * (8 * k + 7) + j, ?_, ?_, ?_⟩
  · show ((8 * k + 7 : Nat) : Int) * (W : Int) + ((r.1 + (r.2 - 1) / 2 : Nat) : Int) * 1 = _
    rw [← hj, atH]
  · show ((8 * k + 7 : Nat) : Int) * (W : Int) + ((r.1 + (r.2 - 1) / 2 : Nat) : Int) * 1 + (W : Int) = _
    rw [← hj, atH]; push_cast; rfl
  · rw [Nat.mul_add_div (by omega), Nat.div_eq_of_lt hjW]
theorem vL_at {fr : Nat → Bool} {W H : Nat} : ∀ k, k ≤ (W - 1) / 8 → ∀ p, p ∈ vL fr W H k → ∃ t : Nat, p.1 = (t : Int) ∧ p.2.1 = ((t + 1 : Nat) : Int) ∧ t % W < 8 * k ∧ 2 ≤ W
  | 0, _, p, hp => by cases hp
  | k + 1, h, p, hp => by
    rcases List.mem_append.1 hp with h1 | h1
    · obtain ⟨t, a, b, c, d⟩ := vL_at k (by omega) p h1
      exact ⟨t, a, b, by omega, d⟩
    · obtain ⟨t, a, b, c⟩ := bV_at (by omega) p h1
      exact ⟨t, a, b, by omega, by omega⟩
theorem vL_ne {fr : Nat → Bool} {W H : Nat} (hW : 1 ≤ W) : ∀ k, k ≤ (W - 1) / 8 → (vL fr W H k).Pairwise neP
  | 0, _ => List.Pairwise.nil
  | k + 1, h => List.pairwise_append.2 ⟨vL_ne hW k (by omega), bV_ne hW, fun a ha b hb e => by
      obtain ⟨t, a1, a2, a3, _⟩ := vL_at k (by omega) a ha
      obtain ⟨u, b1, b2, b3⟩ := bV_at (by omega) b hb
      have : t = u := by have := e.1; omega
      subst this
      omega⟩
theorem hL_at {fr : Nat → Bool} {W H : Nat} : ∀ k, k ≤ (H - 1) / 8 → ∀ p, p ∈ hL fr W H k → ∃ t : Nat, p.1 = (t : Int) ∧ (p.2.1 = ((t + 1 : Nat) : Int) ∧ 2 ≤ W ∨ p.2.1 = ((t + W : Nat) : Int) ∧ t / W < 8 * k)
  | 0, _, p, hp => by
    obtain ⟨t, a, b, _, d⟩ := vL_at ((W - 1) / 8) (Nat.le_refl _) p hp
    exact ⟨t, a, Or.inl ⟨b, d⟩⟩
  | k + 1, h, p, hp => by
    rcases List.mem_append.1 hp with h1 | h1
    · obtain ⟨t, a, b⟩ := hL_at k (by omega) p h1
      exact ⟨t, a, b.imp id fun x => ⟨x.1, by omega⟩⟩
    · obtain ⟨t, a, b, c⟩ := bH_at (H := H) (by omega) p h1
      exact ⟨t, a, Or.inr ⟨b, by omega⟩⟩
theorem hL_ne {fr : Nat → Bool} {W H : Nat} (hW : 1 ≤ W) : ∀ k, k ≤ (H - 1) / 8 → (hL fr W H k).Pairwise neP
  | 0, _ => vL_ne hW _ (Nat.le_refl _)
  | k + 1, h => List.pairwise_append.2 ⟨hL_ne hW k (by omega), bH_ne, fun a ha b hb e => by
      obtain ⟨t, a1, a2⟩ := hL_at k (by omega) a ha
      obtain ⟨u, b1, b2, b3⟩ := bH_at (H := H) (by omega) b hb
      have : t = u := by have := e.1; omega
      subst this
      have := e.2
      rcases a2 with ⟨a2, a3⟩ | ⟨a2, a3⟩ <;> omega⟩
theorem all_ne {fr : Nat → Bool} {W H : Nat} (hW : 1 ≤ W) : (allP fr W H).Pairwise neP := hL_ne hW _ (Nat.le_refl _)
/-- What the list that Find answers is like. -/
structure LstP (fr : Nat → Bool) (W H : Nat) (L : List (Int × Int × Int)) : Prop where
  len : L.length ≤ 5000
  sum : (prN fr W H (W * H) : Int) = sW3 L
  ok : ∀ p, p ∈ L → OkP fr W H p
  asc : ∀ j (hj : j + 1 < L.length), ltP (L[j]'(by omega)) L[j + 1]
theorem LstP.of {fr : Nat → Bool} {W H : Nat} {L : List (Int × Int × Int)} (w1 : 1 ≤ W) (w2 : W ≤ 128) (h2 : H ≤ 128) (hp : L.Perm (allP fr W H)) (hs : L.Pairwise fun x y => ¬ ltP y x) : LstP fr W H L := by
  refine ⟨?_, ?_, fun p h => all_ok p (hp.mem_iff.1 h), fun j hj => ?_⟩
  · rw [hp.length_eq]
    have := hL_len fr W H ((H - 1) / 8)
    have b := Nat.mul_le_mul (show (W - 1) / 8 ≤ 16 by omega) (show H + 1 ≤ 129 by omega)
    have c := Nat.mul_le_mul (show (H - 1) / 8 ≤ 16 by omega) (show W + 1 ≤ 129 by omega)
    unfold allP
    omega
  · rw [pr_all, sW3_perm hp]
  · have a := List.pairwise_iff_getElem.1 hs j (j + 1) (by omega) hj (by omega)
    have hq : L.Pairwise neP := (hp.pairwise_iff (fun {x y} h e => h ⟨e.1.symm, e.2.symm⟩)).2 (all_ne w1)
    have b := List.pairwise_iff_getElem.1 hq j (j + 1) (by omega) hj (by omega)
    unfold neP at b
    unfold ltP at a ⊢
    omega
theorem sW3_bd : ∀ (M : List (Int × Int × Int)), (∀ p, p ∈ M → 1 ≤ p.2.2 ∧ p.2.2 ≤ 8) → 0 ≤ sW3 M ∧ sW3 M ≤ 8 * M.length
  | [], _ => ⟨Int.le_refl 0, Int.le_refl 0⟩
  | p :: M, h => by
    have a := sW3_bd M fun q hq => h q (List.mem_cons_of_mem _ hq)
    have b := h p List.mem_cons_self
    show 0 ≤ p.2.2 + sW3 M ∧ p.2.2 + sW3 M ≤ 8 * ((M.length + 1 : Nat) : Int)
    omega
theorem prN_le (fr : Nat → Bool) (W H : Nat) : ∀ t, prN fr W H t ≤ 2 * t
  | 0 => Nat.le_refl _
  | t + 1 => by
    have := prN_le fr W H t
    show prN fr W H t + (b1 (rgP fr W t) + b1 (dnP fr W H t)) ≤ _
    have a : ∀ b, b1 b ≤ 1 := fun b => by cases b <;> decide
    have := a (rgP fr W t)
    have := a (dnP fr W H t)
    omega
theorem rg_on {W : Int} {Wn t : Nat} {fr : Nat → Bool} {s z : Int} (eW : W = (Wn : Int)) (hW : 1 ≤ W) (hx : (t : Int) % W < W - 1) (ES : Hk (Fx.ofS W (t : Nat) = s)) (EZ : Hk (Fx.ofS W ((t + 1 : Nat) : Int) = z)) : (fr t && fr (t + 1) && !(decide (s = z))) = rgP fr Wn t := by
  have a0 := Int.emod_nonneg (t : Int) (show W ≠ 0 by omega)
  have em := Int.emod_add_mul_ediv (t : Int) W
  obtain ⟨ux, uy⟩ := xy_of20 (W := W) (j := t + 1) (x := (t : Int) % W + 1) (y := (t : Int) / W) (by push_cast; omega) (by omega) (by omega)
  have e := ofS_iff (W := W) (a := t) (b := t + 1) hW
  rw [ES.out, EZ.out] at e
  unfold secS at e
  rw [ux, uy] at e
  have em2 : (t : Int) % W = ((t % Wn : Nat) : Int) := by rw [eW]; push_cast; rfl
  unfold rgP
  by_cases d : t % Wn % 8 = 7
  · have hs : ¬ s = z := fun h => by have := (e.1 h).1; omega
    rw [decide_eq_false hs, decide_eq_true (by omega)]
    cases fr t <;> cases fr (t + 1) <;> rfl
  · have hs : s = z := e.2 ⟨by omega, rfl⟩
    rw [decide_eq_true hs, decide_eq_false (fun h => d h.2)]
    cases fr t <;> cases fr (t + 1) <;> rfl
theorem rg_no {W : Int} {Wn t : Nat} {fr : Nat → Bool} (eW : W = (Wn : Int)) (hx : ¬ (t : Int) % W < W - 1) : rgP fr Wn t = false := by
  have em2 : (t : Int) % W = ((t % Wn : Nat) : Int) := by rw [eW]; push_cast; rfl
  unfold rgP
  rw [decide_eq_false (by omega)]; rfl
theorem dn_on {W H : Int} {Wn Hn t u : Nat} {fr : Nat → Bool} {s z : Int} (eW : W = (Wn : Int)) (eH : H = (Hn : Int)) (hW : 1 ≤ W) (hx : (t : Int) / W < H - 1) (hu : (u : Int) = t + W) (ES : Hk (Fx.ofS W (t : Nat) = s)) (EZ : Hk (Fx.ofS W (u : Nat) = z)) : (fr t && fr u && !(decide (s = z))) = dnP fr Wn Hn t := by
  have a0 := Int.emod_nonneg (t : Int) (show W ≠ 0 by omega)
  have a1 := Int.emod_lt_of_pos (t : Int) (show 0 < W by omega)
  have em := Int.emod_add_mul_ediv (t : Int) W
  obtain ⟨ux, uy⟩ := xy_of20 (W := W) (j := u) (x := (t : Int) % W) (y := (t : Int) / W + 1) (by rw [Int.mul_add]; omega) (by omega) (by omega)
  have e := ofS_iff (W := W) (a := t) (b := u) hW
  rw [ES.out, EZ.out] at e
  unfold secS at e
  rw [ux, uy] at e
  have em2 : (t : Int) / W = ((t / Wn : Nat) : Int) := by rw [eW]; push_cast; rfl
  have hu2 : u = t + Wn := by omega
  subst hu2
  unfold dnP
  by_cases d : t / Wn % 8 = 7
  · have hs : ¬ s = z := fun h => by have := (e.1 h).2; omega
    rw [decide_eq_false hs, decide_eq_true (by omega)]
    cases fr t <;> cases fr (t + Wn) <;> rfl
  · have hs : s = z := e.2 ⟨rfl, by omega⟩
    rw [decide_eq_true hs, decide_eq_false (fun h => d h.2)]
    cases fr t <;> cases fr (t + Wn) <;> rfl
theorem dn_no {W H : Int} {Wn Hn t : Nat} {fr : Nat → Bool} (eW : W = (Wn : Int)) (eH : H = (Hn : Int)) (hx : ¬ (t : Int) / W < H - 1) : dnP fr Wn Hn t = false := by
  have em2 : (t : Int) / W = ((t / Wn : Nat) : Int) := by rw [eW]; push_cast; rfl
  unfold dnP
  rw [decide_eq_false (by omega)]; rfl
theorem rgt_in {W H : Int} {n t : Nat} (hW : 1 ≤ W) (hn : (n : Int) = W * H) (ht : t < n) (hx : (t : Int) % W < W - 1) : t + 1 < n := by
  have em := Int.emod_add_mul_ediv (t : Int) W
  have y1 : (t : Int) / W < H := Int.ediv_lt_of_lt_mul (by omega) (by rw [Int.mul_comm]; omega)
  have q : W * ((t : Int) / W + 1) ≤ W * H := Int.mul_le_mul_of_nonneg_left (by omega) (by omega)
  rw [Int.mul_add] at q
  omega
theorem dwn_in {W H : Int} {n t u : Nat} (hW : 1 ≤ W) (hn : (n : Int) = W * H) (ht : t < n) (hy : (t : Int) / W < H - 1) (hu : (u : Int) = t + W) : u < n := by
  have a1 := Int.emod_lt_of_pos (t : Int) (show 0 < W by omega)
  have em := Int.emod_add_mul_ediv (t : Int) W
  have q : W * ((t : Int) / W + 1 + 1) ≤ W * H := Int.mul_le_mul_of_nonneg_left (by omega) (by omega)
  rw [Int.mul_add, Int.mul_add] at q
  omega
theorem ptq_own {w : World} {S c : Nat} {a : Option Addr} {L : List (Int × Int × Int)} (h : w.ownsRow S 41 3 (.slice a L.length c) L.length (fl3 L)) : Ptq w w.heap.size a L := Ptq.of_own h
theorem find_yesI (W H : Int) (Wn Hn : Nat) (eW : W = (Wn : Int)) (eH : H = (Hn : Int)) (fb fo fc n : Nat) (fr : Nat → Bool) (w : World) (w1 : 1 ≤ W) (w2 : W ≤ 128) (h1 : 1 ≤ H) (h2 : H ≤ 128) (hn : (n : Int) = W * H) (hfl : fb < w.heap.size) (hF : ∀ k, k < n → w.cell? ⟨fb, fo + k, none⟩ = some (.bool (fr k))) :
    Calls Try.prog 12 #[.int .i64 W, .int .i64 H, .slice (some ⟨fb, fo, none⟩) n fc] w fun e w' => ∃ (a : Option Addr) (c : Nat) (L : List (Int × Int × Int)), e = .returned (.tuple #[.slice a L.length c, .int .i64 0]) ∧ LstP fr Wn Hn L ∧ Ptq w' w'.heap.size a L ∧ Below w.heap.size w w' := by
  subst eW
  subst eH
  have hn2 : n = Wn * Hn := by
    have : (n : Int) = ((Wn * Hn : Nat) : Int) := by rw [hn]; push_cast; rfl
    omega
  refine (find_yes Wn Hn fb fo fc n fr w (by omega) (by omega) (by omega) (by omega) hn2 hfl hF).mono ?_
  rintro e z ⟨a, c, L, rfl, hp, hs, ho, hb⟩
  exact ⟨a, c, L, rfl, LstP.of (by omega) (by omega) (by omega) hp hs, ptq_own ho, hb⟩
end Go.Proofs.Ytcgilmjhbdehpaa
/- The reference of layer 10: Parts, on any map. -/
namespace Go.Proofs.Ytcgilmjhbdehpaa
open Go.ChangeShapes Go.WideShapes Go.ChangeAt Go.RowKit Go.Deep
set_option linter.unusedVariables false
set_option linter.unusedSimpArgs false
/-- Two blocks of one's own, one behind the other. -/
theorem own_new20 {w : World} {S c n : Nat} {a : Option Addr} {xs : List Value} (h : w.ownsRow S 3 1 (.slice a n c) n xs) (hn : 0 < n) : ∃ g, a = some ⟨g, 0, none⟩ ∧ S ≤ g := by
  rcases h.2 with ⟨e, h0⟩ | ⟨g', cap, cur, e, hg, _⟩
  · omega
  · injection e with e1
    exact ⟨g', e1, hg⟩
end Go.Proofs.Ytcgilmjhbdehpaa
/- For every argument, SectorParts answers true and leaves its argument as it was: which part each tile of any map is of is the page's, or refused. No condition. -/
namespace Go.Proofs.Ytcgilmjhbdehpaa
open Go.ChangeShapes Go.WideShapes Go.ChangeAt Go.RowKit Go.Deep
set_option linter.unusedVariables false
set_option linter.unusedSimpArgs false
theorem hszA {w X : World} {o : Obj} (h : Below (w.heap.size + 1) (w.alloc o) X) : w.heap.size ≤ X.heap.size := by have := h.size; simp at this; omega
theorem rd_to {w z : World} {B n m : Nat} {a : Option Addr} {f : Nat → Value} (h : Rd w B a n f) (e : z = w.drewN m) : Rd z B a n f := by subst e; exact h
theorem below_to {w0 w z : World} {B m : Nat} (h : Below B w0 w) (e : z = w.drewN m) : Below B w0 z := by subst e; exact below_drewN h m
theorem arr_to {w z : World} {g n m : Nat} {T : TypeId} {f : Nat → Value} (h : Arr w g n T f) (e : z = w.drewN m) : Arr z g n T f := by subst e; exact h.drewN m
theorem sectorParts_own : ownKnob Try.prog.godebug = none := by kernel_rfl
theorem sectorParts_laidOut : laidOutB Try.prog = true := by kernel_rfl
end Go.Proofs.Ytcgilmjhbdehpaa

/- Layer 10: what SectorWhole leans on: sectors by calls that only read; plain words of corners. -/
namespace Go.Proofs.Ytcgilmjhbdehpaa
open Go.ChangeShapes Go.WideShapes Go.ChangeAt Go.RowKit Go.Deep
set_option linter.unusedVariables false
set_option linter.unusedSimpArgs false
theorem sofl_q (W H : Int) (t : Nat) (z : Int) (n : Nat) (w : World) (w1 : 1 ≤ W) (w2 : W ≤ 128) (h1 : 1 ≤ H) (h2 : H ≤ 128) (hn : (n : Int) = W * H) (htn : t < n) (EZ : Hk (Fx.ofS W t = z)) :
    Calls Try.prog 34 #[.int .i64 W, .int .i64 H, .int .i64 t] w fun e w' => e = .returned (.tuple #[.int .i64 z, .int .i64 0]) ∧ ∃ m, w' = w.drewN m := by
  have n16 : n ≤ 16384 := by have := mul_bd w1 w2 h1 h2; omega
  have e1 : IntKind.i64.wrap (W * H) = (n : Int) := by rw [← hn]; exact wr_in' (by omega)
  have t0 : (0 : Int) ≤ (t : Int) := by omega
  have t1 : (t : Int) ≤ 16384 := by omega
  have c0 : decide ((t : Int) < 0) = false := by simp
  have c1 : decide ((n : Int) ≤ (t : Int)) = false := by simp; omega
  have c2 : decide (n ≤ t) = false := by simp; omega
  have c3 : ¬ n ≤ t := by omega
  clear hn n16
  go_enter Try.func34, Try.ntmps34
  go_wp2_with (first
    | (go_at_call 35; (with_reducible refine (sized_yes W H _ w1 w2 h1 h2).mono ?_); rintro e z ⟨rfl, hz⟩; rw [hz]; clear hz z)
    | (go_at_call 50; (with_reducible refine (sof_qas W t z _ w1 w2 t0 t1 EZ).mono ?_); rintro e z2 ⟨rfl, hz⟩; have HZ := Hk.mk hz; clear hz))
  go_ret2
  exact ⟨rfl, HZ.out⟩
/-- The first tile of a tile's sector. -/
def fstS (W : Int) (k : Nat) : Int := (k : Int) % W / 8 * 8 + W * ((k : Int) / W / 8 * 8)
theorem fstS_le {W : Int} {k : Nat} (hW : 1 ≤ W) : fstS W k ≤ k := by
  have a0 := Int.emod_nonneg (k : Int) (show W ≠ 0 by omega)
  have b0 : 0 ≤ (k : Int) / W := Int.ediv_nonneg (by omega) (by omega)
  have e := Int.emod_add_mul_ediv (k : Int) W
  have := Int.mul_le_mul_of_nonneg_left (show (k : Int) / W / 8 * 8 ≤ (k : Int) / W by omega) (show 0 ≤ W by omega)
  unfold fstS
  omega
theorem fstS_at {W : Int} {k t : Nat} (hW : 1 ≤ W) (h : fstS W k = t) : (t : Int) % W = (k : Int) % W / 8 * 8 ∧ (t : Int) / W = (k : Int) / W / 8 * 8 := by
  have a0 := Int.emod_nonneg (k : Int) (show W ≠ 0 by omega)
  have a1 := Int.emod_lt_of_pos (k : Int) (show 0 < W by omega)
  exact xy_of20 (x := (k : Int) % W / 8 * 8) (y := (k : Int) / W / 8 * 8) h.symm (by omega) (by omega)
/-- A corner's sector is told by its first tile. -/
theorem fstS_corner {W : Int} {k t : Nat} (hW : 1 ≤ W) (h : fstS W k = t) : secS W t k ∧ (t : Int) % W % 8 = 0 ∧ (t : Int) / W % 8 = 0 := by
  obtain ⟨h1, h2⟩ := fstS_at hW h
  unfold secS
  rw [h1, h2]
  omega
def RedoI (W : Int) (n : Nat) (P Q : Nat → Int) (t : Nat) : Prop := ∀ k, k < n → fstS W k < t → Q k = P k
theorem RedoI.start (W : Int) (n : Nat) (P Q : Nat → Int) (hW : 1 ≤ W) : RedoI W n P Q 0 := fun k _ h => by
  exfalso
  have a0 := Int.emod_nonneg (k : Int) (show W ≠ 0 by omega)
  have b0 : 0 ≤ (k : Int) / W := Int.ediv_nonneg (by omega) (by omega)
  have := Int.mul_nonneg (show 0 ≤ W by omega) (show 0 ≤ (k : Int) / W / 8 * 8 by omega)
  unfold fstS at h
  omega
theorem RedoI.skip {W : Int} {n t : Nat} {P Q : Nat → Int} (h : RedoI W n P Q t) (hW : 1 ≤ W) (hc : ¬ ((t : Int) % W % 8 = 0 ∧ (t : Int) / W % 8 = 0)) : RedoI W n P Q (t + 1) := fun k hk hl => by
  refine h k hk ?_
  by_cases e : fstS W k = t
  · exact absurd (fstS_corner hW e).2 hc
  · omega
theorem RedoI.put {W : Int} {n t : Nat} {P Q Q' : Nat → Int} (h : RedoI W n P Q t) (hW : 1 ≤ W) (hq : ∀ k, k < n → Q' k = if secB W t k = true then P k else Q k) : RedoI W n P Q' (t + 1) := fun k hk hl => by
  rw [hq k hk]
  by_cases e : fstS W k = t
  · exact if_pos (decide_eq_true (fstS_corner hW e).1)
  · rw [h k hk (by omega)]
    split <;> rfl
theorem RedoI.done {W : Int} {n : Nat} {P Q : Nat → Int} (h : RedoI W n P Q n) (hW : 1 ≤ W) : ∀ k, k < n → Q k = P k := fun k hk => h k hk (by have := fstS_le (k := k) hW; omega)
section
variable {W : Int} {n t : Nat} {fr : Nat → Bool} {P : Nat → Int}
theorem part_le (h : IsPart n (nbN W n fr) fr P) (ht : t < n) : P t ≤ t := by
  cases e : fr t
  · rw [h.no t ht e]; omega
  · obtain ⟨m, e1, _, l⟩ := h.yes t ht e
    have := l t .refl
    omega
theorem part_pos (h : IsPart n (nbN W n fr) fr P) (ht : t < n) : decide (0 ≤ P t) = fr t := by
  cases e : fr t
  · rw [h.no t ht e]; rfl
  · obtain ⟨m, e1, _, _⟩ := h.yes t ht e
    rw [e1]; simp
theorem part_self (h : IsPart n (nbN W n fr) fr P) (hW : 1 ≤ W) (ht : t < n) (hf : fr t = true) : ∃ m : Nat, P t = (m : Int) ∧ m < n ∧ Fx.ofS W m = Fx.ofS W t ∧ P m = (m : Int) := by
  obtain ⟨m, e1, r, l⟩ := h.yes t ht hf
  have hm := r.lt nbN_lt ht
  have hfm := r.free nbN_free hf
  obtain ⟨k, e2, r2, l2⟩ := h.yes m hm hfm
  have := l k (r.trans r2)
  have := l2 m .refl
  have hs := (resR (z := secB W t) secB_nb (s := t) (decide_eq_true ⟨rfl, rfl⟩)).2 r
  exact ⟨m, e1, hm, ((ofS_iff hW).2 (of_decide_eq_true hs)).symm, by rw [e2]; omega⟩
theorem part_next {u : Nat} (h : IsPart n (nbN W n fr) fr P) (hn : (nbN W n fr) t u) : P u = P t := by
  obtain ⟨m, e1, r, l⟩ := h.yes t hn.1.1 hn.2.1.1
  obtain ⟨k, e2, r2, l2⟩ := h.yes u hn.1.2 hn.2.1.2
  have a := l k ((Rch.step .refl hn).trans r2)
  have b := l2 m ((Rch.step .refl (nbN_symm _ _ hn)).trans r)
  omega
end
theorem nb_right {W H : Int} {n t : Nat} {fr : Nat → Bool} (hW : 1 ≤ W) (hn : (n : Int) = W * H) (ht : t < n) (hx : (t : Int) % W < W - 1) : t + 1 < n ∧ (fr t = true → fr (t + 1) = true → Fx.ofS W ((t + 1 : Nat) : Int) = Fx.ofS W t → (nbN W n fr) t (t + 1)) := by
  have a0 := Int.emod_nonneg (t : Int) (show W ≠ 0 by omega)
  have em := Int.emod_add_mul_ediv (t : Int) W
  obtain ⟨ux, uy⟩ := xy_of20 (W := W) (j := t + 1) (x := (t : Int) % W + 1) (y := (t : Int) / W) (by push_cast; omega) (by omega) (by omega)
  have y1 : (t : Int) / W < H := Int.ediv_lt_of_lt_mul (by omega) (by rw [Int.mul_comm]; omega)
  have q : W * ((t : Int) / W + 1) ≤ W * H := Int.mul_le_mul_of_nonneg_left (by omega) (by omega)
  rw [Int.mul_add] at q
  refine ⟨by omega, fun f1 f2 hs => ⟨⟨ht, by omega⟩, ⟨f1, f2⟩, (ofS_iff hW).1 hs.symm, ?_⟩⟩
  unfold adjS
  rw [ux, uy]
  omega
theorem nb_down {W H : Int} {n t u : Nat} {fr : Nat → Bool} (hW : 1 ≤ W) (hn : (n : Int) = W * H) (ht : t < n) (hy : (t : Int) / W < H - 1) (hu : (u : Int) = t + W) : u < n ∧ (fr t = true → fr u = true → Fx.ofS W (u : Int) = Fx.ofS W t → (nbN W n fr) t u) := by
  have a0 := Int.emod_nonneg (t : Int) (show W ≠ 0 by omega)
  have a1 := Int.emod_lt_of_pos (t : Int) (show 0 < W by omega)
  have em := Int.emod_add_mul_ediv (t : Int) W
  obtain ⟨ux, uy⟩ := xy_of20 (W := W) (j := u) (x := (t : Int) % W) (y := (t : Int) / W + 1) (by rw [Int.mul_add]; omega) (by omega) (by omega)
  have q : W * ((t : Int) / W + 1 + 1) ≤ W * H := Int.mul_le_mul_of_nonneg_left (by omega) (by omega)
  rw [Int.mul_add, Int.mul_add] at q
  refine ⟨by omega, fun f1 f2 hs => ⟨⟨ht, by omega⟩, ⟨f1, f2⟩, (ofS_iff hW).1 hs.symm, ?_⟩⟩
  unfold adjS
  rw [ux, uy]
  omega
end Go.Proofs.Ytcgilmjhbdehpaa
/- Layer 11: the two parts of each pair are those of some portal. -/
namespace Go.Proofs.Ytcgilmjhbdehpaa
open Go.ChangeShapes Go.WideShapes Go.ChangeAt Go.RowKit Go.Deep
set_option linter.unusedVariables false
set_option linter.unusedSimpArgs false
theorem bV_sub {fr : Nat → Bool} {W H k : Nat} {p : Int × Int × Int} (hp : p ∈ bV fr W H k) : ∀ m, k < m → p ∈ vL fr W H m
  | 0, h => absurd h (by omega)
  | m + 1, h => by
    show p ∈ vL fr W H m ++ bV fr W H m
    by_cases e : k = m
    · subst e; exact List.mem_append_right _ hp
    · exact List.mem_append_left _ (bV_sub hp m (by omega))
theorem vL_sub {fr : Nat → Bool} {W H : Nat} {p : Int × Int × Int} (hp : p ∈ vL fr W H ((W - 1) / 8)) : ∀ m, p ∈ hL fr W H m
  | 0 => hp
  | m + 1 => List.mem_append_left _ (vL_sub hp m)
theorem bH_sub {fr : Nat → Bool} {W H k : Nat} {p : Int × Int × Int} (hp : p ∈ bH fr W k) : ∀ m, k < m → p ∈ hL fr W H m
  | 0, h => absurd h (by omega)
  | m + 1, h => by
    show p ∈ hL fr W H m ++ bH fr W m
    by_cases e : k = m
    · subst e; exact List.mem_append_right _ hp
    · exact List.mem_append_left _ (bH_sub hp m (by omega))
theorem run_at {pr : Nat → Bool} {n i : Nat} (he : pr n = false) (hi : i < n) (h : pr i = true) : ∃ r, r ∈ (rnS pr (n + 1)).1 ∧ r.1 ≤ i ∧ i < r.1 + r.2 ∧ RunOK pr r := by
  have ho := runI pr (n + 1)
  rw [rnS_end he] at ho
  obtain ⟨r, h1, h2, h3⟩ := ho.cov i (by omega) h
  exact ⟨r, h1, h2, h3, (ho.ok r h1).1⟩
theorem run_const {P : Nat → Int} {T : Nat → Nat} {a b : Nat} (h : ∀ j, a ≤ j → j + 1 < b → P (T (j + 1)) = P (T j)) : ∀ d, a + d < b → P (T (a + d)) = P (T a)
  | 0, _ => rfl
  | d + 1, hd => by
    have := h (a + d) (by omega) (by omega)
    rw [show a + (d + 1) = a + d + 1 by omega, this]
    exact run_const h d (by omega)
theorem run_eq {P : Nat → Int} {T : Nat → Nat} {a b : Nat} (h : ∀ j, a ≤ j → j + 1 < b → P (T (j + 1)) = P (T j)) {i j : Nat} (h1 : a ≤ i) (h2 : i < b) (h3 : a ≤ j) (h4 : j < b) : P (T i) = P (T j) := by
  have p := run_const h (i - a) (by omega)
  have q := run_const h (j - a) (by omega)
  rw [show a + (i - a) = i by omega] at p
  rw [show a + (j - a) = j by omega] at q
  rw [p, q]
section
variable {W : Int} {Wn Hn n : Nat} {fr : Nat → Bool} {P : Nat → Int}
theorem xyN {W : Int} {Wn x y : Nat} (eW : W = (Wn : Int)) (hx : x < Wn) : ((Wn * y + x : Nat) : Int) % W = (x : Int) ∧ ((Wn * y + x : Nat) : Int) / W = (y : Int) :=
  xy_of20 (W := W) (j := Wn * y + x) (x := (x : Int)) (y := (y : Int)) (by rw [eW]; push_cast; omega) (by omega) (by omega)
theorem ltN {Wn Hn x y : Nat} (hx : x < Wn) (hy : y < Hn) : Wn * y + x < Wn * Hn := by
  have := Nat.mul_le_mul_left Wn (show y + 1 ≤ Hn by omega)
  rw [Nat.mul_add] at this
  omega
theorem nbD (eW : W = (Wn : Int)) (hn : n = Wn * Hn) {x y : Nat} (hx : x < Wn) (hy : y + 1 < Hn) (h8 : y / 8 = (y + 1) / 8) (f1 : fr (Wn * y + x) = true) (f2 : fr (Wn * (y + 1) + x) = true) : nbN W n fr (Wn * y + x) (Wn * (y + 1) + x) := by
  obtain ⟨a1, a2⟩ := xyN (y := y) eW hx
  obtain ⟨b1, b2⟩ := xyN (y := y + 1) eW hx
  refine ⟨⟨by rw [hn]; exact ltN hx (by omega), by rw [hn]; exact ltN hx hy⟩, ⟨f1, f2⟩, ?_, ?_⟩
  · unfold secS; rw [a1, a2, b1, b2]; omega
  · unfold adjS; rw [a1, a2, b1, b2]; omega
theorem nbR (eW : W = (Wn : Int)) (hn : n = Wn * Hn) {x y : Nat} (hx : x + 1 < Wn) (hy : y < Hn) (h8 : x / 8 = (x + 1) / 8) (f1 : fr (Wn * y + x) = true) (f2 : fr (Wn * y + (x + 1)) = true) : nbN W n fr (Wn * y + x) (Wn * y + (x + 1)) := by
  obtain ⟨a1, a2⟩ := xyN (y := y) eW (show x < Wn by omega)
  obtain ⟨b1, b2⟩ := xyN (y := y) eW hx
  refine ⟨⟨by rw [hn]; exact ltN (by omega) hy, by rw [hn]; exact ltN hx hy⟩, ⟨f1, f2⟩, ?_, ?_⟩
  · unfold secS; rw [a1, a2, b1, b2]; omega
  · unfold adjS; rw [a1, a2, b1, b2]; omega
/-- Some portal joins the parts of a pair. -/
def Joins (n : Nat) (P : Nat → Int) (L : List (Int × Int × Int)) (t u : Nat) : Prop := ∃ p, p ∈ L ∧ ∃ a b : Nat, p.1 = (a : Int) ∧ p.2.1 = (b : Int) ∧ a < n ∧ b < n ∧ P a = P t ∧ P b = P u
theorem rg_join (eW : W = (Wn : Int)) (hn : n = Wn * Hn) (hW : 1 ≤ Wn) (h : IsPart n (nbN W n fr) fr P) {t : Nat} (ht : t < n) (hr : rgP fr Wn t = true) : Joins n P (allP fr Wn Hn) t (t + 1) := by
  unfold rgP at hr
  have hr' := Bool.and_eq_true_iff.1 hr
  obtain ⟨q1, q2⟩ := of_decide_eq_true hr'.1
  have em := Nat.mod_add_div t Wn
  obtain ⟨k, hk⟩ : ∃ k, k = t % Wn / 8 := ⟨_, rfl⟩
  obtain ⟨i, hi⟩ : ∃ i, i = t / Wn := ⟨_, rfl⟩
  have hx : t % Wn = 8 * k + 7 := by omega
  have hiH : i < Hn := by
    apply Classical.byContradiction
    intro hc
    have := Nat.mul_le_mul_left Wn (show Hn ≤ i by omega)
    rw [← hi] at em
    omega
  have htt : t = Wn * i + (8 * k + 7) := by rw [hi]; omega
  have hk8 : 8 * k + 8 < Wn := by omega
  have hpi : prV fr Wn Hn k i = true := by
    rw [prV_on i hiH, atV, show ((Wn * i + (8 * k + 7) : Nat) : Int) + 1 = ((Wn * i + (8 * k + 7) + 1 : Nat) : Int) by push_cast; rfl, Int.toNat_natCast, Int.toNat_natCast, ← htt]
    exact hr'.2
  obtain ⟨r, h1, h2, h3, ho⟩ := run_at (prV_off Hn (Nat.le_refl Hn)) hiH hpi
  have hw := ho.w1
  have hoct := ho.oct
  have hon : ∀ j, r.1 ≤ j → j < r.1 + r.2 → j < Hn ∧ fr (Wn * j + (8 * k + 7)) = true ∧ fr (Wn * j + (8 * k + 8)) = true := fun j a b => by
    have hon := ho.on j a b
    have hjH : j < Hn := by
      apply Classical.byContradiction
      intro h
      rw [prV_off j (by omega)] at hon
      cases hon
    rw [prV_on j hjH, atV, show ((Wn * j + (8 * k + 7) : Nat) : Int) + 1 = ((Wn * j + (8 * k + 8) : Nat) : Int) by push_cast; omega, Int.toNat_natCast, Int.toNat_natCast] at hon
    exact ⟨hjH, Bool.and_eq_true_iff.1 hon⟩
  have c1 := run_eq (P := P) (T := fun j => Wn * j + (8 * k + 7)) (a := r.1) (b := r.1 + r.2) (fun j a b => part_next h (nbD eW hn (by omega) (hon (j + 1) (by omega) b).1 (by omega) (hon j a (by omega)).2.1 (hon (j + 1) (by omega) b).2.1)) (i := r.1 + (r.2 - 1) / 2) (j := i) (by omega) (by omega) h2 h3
  have c2 := run_eq (P := P) (T := fun j => Wn * j + (8 * k + 8)) (a := r.1) (b := r.1 + r.2) (fun j a b => part_next h (nbD eW hn (by omega) (hon (j + 1) (by omega) b).1 (by omega) (hon j a (by omega)).2.2 (hon (j + 1) (by omega) b).2.2)) (i := r.1 + (r.2 - 1) / 2) (j := i) (by omega) (by omega) h2 h3
  have hjH := (hon (r.1 + (r.2 - 1) / 2) (by omega) (by omega)).1
  refine ⟨_, vL_sub (bV_sub (List.mem_map.2 ⟨r, h1, rfl⟩) ((Wn - 1) / 8) (by omega)) _, Wn * (r.1 + (r.2 - 1) / 2) + (8 * k + 7), Wn * (r.1 + (r.2 - 1) / 2) + (8 * k + 8), ?_, ?_, ?_, ?_, ?_, ?_⟩
  · show ((8 * k + 7 : Nat) : Int) + ((r.1 + (r.2 - 1) / 2 : Nat) : Int) * (Wn : Int) = _
    rw [atV]
  · show ((8 * k + 7 : Nat) : Int) + ((r.1 + (r.2 - 1) / 2 : Nat) : Int) * (Wn : Int) + 1 = _
    rw [atV]; push_cast; omega
  · rw [hn]; exact ltN (by omega) hjH
  · rw [hn]; exact ltN hk8 hjH
  · rw [htt]; exact c1
  · rw [show t + 1 = Wn * i + (8 * k + 8) by omega]; exact c2
theorem dn_join (eW : W = (Wn : Int)) (hn : n = Wn * Hn) (hW : 1 ≤ Wn) (h : IsPart n (nbN W n fr) fr P) {t : Nat} (ht : t < n) (hr : dnP fr Wn Hn t = true) : Joins n P (allP fr Wn Hn) t (t + Wn) := by
  unfold dnP at hr
  have hr' := Bool.and_eq_true_iff.1 hr
  obtain ⟨q1, q2⟩ := of_decide_eq_true hr'.1
  have em := Nat.mod_add_div t Wn
  have hiW := Nat.mod_lt t (show 0 < Wn by omega)
  obtain ⟨k, hk⟩ : ∃ k, k = t / Wn / 8 := ⟨_, rfl⟩
  obtain ⟨i, hi⟩ : ∃ i, i = t % Wn := ⟨_, rfl⟩
  have hx : t / Wn = 8 * k + 7 := by omega
  rw [← hi] at hiW em
  rw [hx] at em
  have htt : t = Wn * (8 * k + 7) + i := by omega
  have hk8 : 8 * k + 8 < Hn := by omega
  have e8 : Wn * (8 * k + 7) + i + Wn = Wn * (8 * k + 8) + i := by have := Nat.mul_succ Wn (8 * k + 7); rw [show (8 * k + 7).succ = 8 * k + 8 from rfl] at this; omega
  have hpi : prH fr Wn k i = true := by
    rw [prH_on i hiW, atH, show ((Wn * (8 * k + 7) + i : Nat) : Int) + (Wn : Int) = ((Wn * (8 * k + 7) + i + Wn : Nat) : Int) by push_cast; rfl, Int.toNat_natCast, Int.toNat_natCast, ← htt]
    exact hr'.2
  obtain ⟨r, h1, h2, h3, ho⟩ := run_at (prH_off Wn (Nat.le_refl Wn)) hiW hpi
  have hw := ho.w1
  have hoct := ho.oct
  have hon : ∀ j, r.1 ≤ j → j < r.1 + r.2 → j < Wn ∧ fr (Wn * (8 * k + 7) + j) = true ∧ fr (Wn * (8 * k + 8) + j) = true := fun j a b => by
    have hon := ho.on j a b
    have hjH : j < Wn := by
      apply Classical.byContradiction
      intro h
      rw [prH_off j (by omega)] at hon
      cases hon
    have e9 : Wn * (8 * k + 7) + j + Wn = Wn * (8 * k + 8) + j := by have := Nat.mul_succ Wn (8 * k + 7); rw [show (8 * k + 7).succ = 8 * k + 8 from rfl] at this; omega
    rw [prH_on j hjH, atH, show ((Wn * (8 * k + 7) + j : Nat) : Int) + (Wn : Int) = ((Wn * (8 * k + 8) + j : Nat) : Int) by rw [← e9]; push_cast; rfl, Int.toNat_natCast, Int.toNat_natCast] at hon
    exact ⟨hjH, Bool.and_eq_true_iff.1 hon⟩
  have c1 := run_eq (P := P) (T := fun j => Wn * (8 * k + 7) + j) (a := r.1) (b := r.1 + r.2) (fun j a b => part_next h (nbR eW hn (hon (j + 1) (by omega) b).1 (by omega) (by omega) (hon j a (by omega)).2.1 (hon (j + 1) (by omega) b).2.1)) (i := r.1 + (r.2 - 1) / 2) (j := i) (by omega) (by omega) h2 h3
  have c2 := run_eq (P := P) (T := fun j => Wn * (8 * k + 8) + j) (a := r.1) (b := r.1 + r.2) (fun j a b => part_next h (nbR eW hn (hon (j + 1) (by omega) b).1 (by omega) (by omega) (hon j a (by omega)).2.2 (hon (j + 1) (by omega) b).2.2)) (i := r.1 + (r.2 - 1) / 2) (j := i) (by omega) (by omega) h2 h3
  have hjH := (hon (r.1 + (r.2 - 1) / 2) (by omega) (by omega)).1
  have e9 : Wn * (8 * k + 7) + (r.1 + (r.2 - 1) / 2) + Wn = Wn * (8 * k + 8) + (r.1 + (r.2 - 1) / 2) := by have := Nat.mul_succ Wn (8 * k + 7); rw [show (8 * k + 7).succ = 8 * k + 8 from rfl] at this; omega
  refine ⟨_, bH_sub (List.mem_map.2 ⟨r, h1, rfl⟩) ((Hn - 1) / 8) (by omega), Wn * (8 * k + 7) + (r.1 + (r.2 - 1) / 2), Wn * (8 * k + 8) + (r.1 + (r.2 - 1) / 2), ?_, ?_, ?_, ?_, ?_, ?_⟩
  · show ((8 * k + 7 : Nat) : Int) * (Wn : Int) + ((r.1 + (r.2 - 1) / 2 : Nat) : Int) * 1 = _
    rw [atH]
  · show ((8 * k + 7 : Nat) : Int) * (Wn : Int) + ((r.1 + (r.2 - 1) / 2 : Nat) : Int) * 1 + (Wn : Int) = _
    rw [atH, ← e9]; push_cast; rfl
  · rw [hn]; exact ltN hjH (by omega)
  · rw [hn]; exact ltN hjH hk8
  · rw [htt]; exact c1
  · rw [htt, e8]; exact c2
end
end Go.Proofs.Ytcgilmjhbdehpaa
