import Derived.Test.YthabjihpjdlmoaaDoorSke
import Derived.Deep.QuietTactic
import Derived.BigQuiet
import Derived.Deep.RegionWith
import Derived.Deep.RegionHeld3
import Derived.Deep.DeepCutAuto
import Derived.Deep.DeepFit
import Derived.Outline
import Derived.Test.YthabjihpjdlmoaaDoorSka
/- Layer 6: the lists of neighbours, as the statements call for them. -/
namespace Go.Proofs.YthabjihpjdlmoaaDoor
open Go.RowKit
set_option linter.unusedVariables false
/-- The reference's list of neighbours. -/
def RNearR (w : World) (xs : List Int) (e : Ending) (w' : World) : Prop := ∃ g c, e = .returned (.slice (some ⟨g, 0, none⟩) 8 c) ∧ Nq w' w'.heap.size (some ⟨g, 0, none⟩) 8 xs ∧ Below w.heap.size w w'
theorem rnear_q (W H t : Int) (s : Value) (w : World) (w1 : 1 ≤ W) (w2 : W ≤ 128) (h1 : 1 ≤ H) (h2 : H ≤ 128) (t0 : 0 ≤ t) (t1 : t ≤ 16384) :
    Calls Tryd.prog 34 #[.agg #[.int .i64 W, .int .i64 H, s], .int .i64 t] w (RNearR w (nbL W H t)) :=
  (rnear_any W H t s w w1 w2 h1 h2 t0 t1).mono fun e w' ⟨v, he, ho, hb⟩ => by
    have ho' := ho
    rcases ho.2 with ⟨rfl, h0⟩ | ⟨g, cap, cur, rfl, hg, hh, hc, hm, hs, ht⟩
    · omega
    · refine ⟨g, cap, he, ⟨rfl, fun _ => ⟨g, 0, rfl, lt_of_block hh, fun k hk => ?_⟩⟩, hb⟩
      have := ho'.cellAt k (by omega)
      rw [Nat.zero_add, this]
      have hl : (nbL W H t).length = 8 := rfl
      simp [List.getElem?_map, List.getD, List.getElem?_eq_getElem (show k < (nbL W H t).length by omega)]
theorem nq_drew {w : World} {B n : Nat} {a : Option Addr} {xs : List Int} (h : Nq w B a n xs) : Nq w.drew B a n xs := ⟨h.len, h.rd⟩
theorem rnearR_below {w w' : World} {xs : List Int} {e : Ending} (h : RNearR w xs e w') : Below w.heap.size w w' := by
  obtain ⟨_, _, _, _, h⟩ := h; exact h
theorem nearR_below {w w' : World} {xs : List Int} {e : Ending} (h : NearR w xs e w') : Below w.heap.size w w' := by
  obtain ⟨_, _, _, _, _, _, _, h⟩ := h; exact h
theorem rtile_as (r : Bool) (t W H : Int) (s : Value) (w : World) (w1 : 1 ≤ W) (w2 : W ≤ 128) (h1 : 1 ≤ H) (h2 : H ≤ 128) (R : Hk (decide (0 ≤ t ∧ t < W * H) = r)) :
    Calls Tryd.prog 25 #[.agg #[.int .i64 W, .int .i64 H, s], .int .i64 t] w fun e' w' => e' = .returned (.bool r) ∧ Below w.heap.size w w' := by
  obtain ⟨rfl⟩ := R; exact rtile_any t W H s w w1 w2 h1 h2
theorem near_a8 {w' wb : World} {xs : List Int} {g base m : Nat} (h : ∀ j, j < 8 → w'.cell? ⟨g, j, none⟩ = some (.int .i64 (xs.getD j 0))) (hf : ∀ j, w'.frozen? ⟨g, j, none⟩ = false) (hg : g < w'.heap.size) (hb : base ≤ g) (hB : Below base wb w') : A8 base g wb (w'.drewN m) (fun j => xs.getD j 0) :=
  ⟨h, hf, hg, hb, below_drewN hB m⟩
end Go.Proofs.YthabjihpjdlmoaaDoor
/- Layer 6: whether a number is in a list (the reference's In), for GroundBack. -/
namespace Go.Proofs.YthabjihpjdlmoaaDoor
open Go.RowKit
set_option linter.unusedVariables false
theorem dropg {xs : List Int} {k : Nat} (h : k < xs.length) : xs.drop k = xs.getD k 0 :: xs.drop (k + 1) := by
  rw [List.drop_eq_getElem_cons h]; simp [List.getD, List.getElem?_eq_getElem h]
set_option maxRecDepth 100000 in
theorem in_as (r : Bool) (N : Int) (a : Option Addr) (n c : Nat) (xs : List Int) (w : World) (h : Nq w w.heap.size a n xs) (hn : n ≤ 1099511627776) (E : Hk (decide (N ∈ xs) = r)) :
    Calls Tryd.prog 43 #[.slice a n c, .int .i64 N] w fun e w' => (∃ v : Int, e = .returned (.int .i64 v) ∧ decide (v < 0) = (!r) ∧ decide (0 ≤ v) = r) ∧ w = w' := by
  have H := Hk.mk h
  clear h
  go_enter Tryd.func43, Tryd.ntmps43
  go_wp2
  go_loop [5] (fun i => ∃ (k : Nat), i = .int .i64 k ∧ k ≤ n ∧ Hk (decide (N ∈ xs.drop k) = r)) (fun i => n - (intOf i).toNat)
  case atStart => exact ⟨0, rfl, Nat.zero_le _, ⟨by simpa using E.out⟩⟩
  case round =>
    obtain ⟨k, rfl, hk, HR⟩ := hrel
    by_cases hlt : k < n
    · obtain ⟨b, off, rfl, hbl, hc⟩ := H.out.rd (by omega)
      have hcx := hc k hlt
      clear hc
      have hr := HR.out
      rw [dropg (by rw [H.out.len]; exact hlt)] at hr
      generalize xs.getD k 0 = y at *
      have i1 : (0 : Int) ≤ (k : Int) := by omega
      have i2 : (k : Int) < (n : Int) := by omega
      by_cases q1 : y = N
      · have R : Hk (true = r) := ⟨by rw [← hr]; simp [q1]⟩
        clear hr
        subst q1
        go_wp2
        go_ret
        exact ⟨⟨_, rfl, by rw [← R.out]; simp, by rw [← R.out]; simp⟩, rfl⟩
      · have b1 : (y == N) = false := by simp [q1]
        have R : Hk (decide (N ∈ xs.drop (k + 1)) = r) := ⟨by rw [← hr]; simp [Ne.symm q1]⟩
        clear hr
        go_wp2
        go_round
        case rel => exact ⟨k + 1, by go_num, by omega, R⟩
        case measure => simp [intOf]; omega
    · have hkn : k = n := by omega
      subst hkn
      have R : Hk (false = r) := ⟨by have := HR.out; rw [List.drop_of_length_le (by rw [H.out.len]; omega)] at this; simpa using this⟩
      go_wp2
      go_ret
      exact ⟨⟨_, rfl, by rw [← R.out]; rfl, by rw [← R.out]; rfl⟩, rfl⟩
end Go.Proofs.YthabjihpjdlmoaaDoor
/- Layer 6, plain: neighbours are neighbours both ways, each once (for GroundBack). -/
namespace Go.Proofs.YthabjihpjdlmoaaDoor
open Go.RowKit
set_option linter.unusedVariables false
theorem nbS_inv {W H t dx dy u : Int} (hW : 1 ≤ W) (e : nbS W H t dx dy = u) (h : 0 ≤ u) :
    (0 ≤ t % W + dx ∧ t % W + dx < W ∧ 0 ≤ t / W + dy ∧ t / W + dy < H) ∧ u % W = t % W + dx ∧ u / W = t / W + dy ∧ u < W * H := by
  by_cases c : 0 ≤ t % W + dx ∧ t % W + dx < W ∧ 0 ≤ t / W + dy ∧ t / W + dy < H
  · obtain ⟨c1, c2, c3, c4⟩ := c
    rw [nbS_yes c1 c2 c3 c4] at e
    refine ⟨⟨c1, c2, c3, c4⟩, ?_, ?_, ?_⟩
    · rw [← e, Int.add_mul_emod_self_left, Int.emod_eq_of_lt c1 c2]
    · rw [← e, Int.add_mul_ediv_left _ _ (by omega), Int.ediv_eq_zero_of_lt c1 c2, Int.zero_add]
    · have h1 : W * (t / W + dy) ≤ W * (H - 1) := Int.mul_le_mul_of_nonneg_left (by omega) (by omega)
      have h2 : W * (H - 1) = W * H - W := by rw [Int.mul_sub, Int.mul_one]
      omega
  · rw [nbS_no c] at e; omega
theorem nbS_back {W H t dx dy u : Int} (hW : 1 ≤ W) (t0 : 0 ≤ t) (t1 : t < W * H) (e : nbS W H t dx dy = u) (h : 0 ≤ u) : nbS W H u (-dx) (-dy) = t := by
  obtain ⟨_, hm, hd, _⟩ := nbS_inv hW e h
  have m0 := Int.emod_nonneg t (show W ≠ 0 by omega)
  have m1 := Int.emod_lt_of_pos t (show 0 < W by omega)
  have d0 : 0 ≤ t / W := Int.ediv_nonneg t0 (by omega)
  have d1 : t / W < H := Int.ediv_lt_of_lt_mul (by omega) (by rw [Int.mul_comm]; exact t1)
  have em := Int.emod_add_mul_ediv t W
  rw [nbS_yes (by omega) (by omega) (by omega) (by omega), hm, hd, show t % W + dx + -dx = t % W by omega, show t / W + dy + -dy = t / W by omega]
  omega
theorem ways (k : Nat) (hk : k < 8) : ∃ j, j < 8 ∧ dxL.getD j 0 = -(dxL.getD k 0) ∧ dyL.getD j 0 = -(dyL.getD k 0) := by
  have h : ∀ k : Fin 8, ∃ j : Fin 8, dxL.getD j 0 = -(dxL.getD k 0) ∧ dyL.getD j 0 = -(dyL.getD k 0) := by decide
  obtain ⟨j, h1, h2⟩ := h ⟨k, hk⟩
  exact ⟨j, j.2, h1, h2⟩
theorem ways_once (i k : Nat) (hi : i < 8) (hk : k < 8) (h1 : dxL.getD i 0 = dxL.getD k 0) (h2 : dyL.getD i 0 = dyL.getD k 0) : i = k := by
  have h : ∀ i k : Fin 8, dxL.getD i 0 = dxL.getD k 0 → dyL.getD i 0 = dyL.getD k 0 → i = k := by decide
  have := h ⟨i, hi⟩ ⟨k, hk⟩ h1 h2
  simpa using this
theorem ways_not (k : Nat) (hk : k < 8) : ¬ (dxL.getD k 0 = 0 ∧ dyL.getD k 0 = 0) := by
  have h : ∀ k : Fin 8, ¬ (dxL.getD k 0 = 0 ∧ dyL.getD k 0 = 0) := by decide
  exact h ⟨k, hk⟩
theorem nb_getD (W H t : Int) (k : Nat) (hk : k < 8) : (nbL W H t).getD k 0 = nb W H t k := by
  unfold nbL; simp [List.getD, hk]
theorem nb_lt {W H t u : Int} {k : Nat} (hW : 1 ≤ W) (e : nb W H t k = u) (h : 0 ≤ u) : u < W * H := (nbS_inv hW e h).2.2.2
theorem nb_not {W H t u : Int} {k : Nat} (hW : 1 ≤ W) (hk : k < 8) (e : nb W H t k = u) (h : 0 ≤ u) : u ≠ t := by
  rintro rfl
  obtain ⟨_, hm, hd, _⟩ := nbS_inv hW e h
  exact ways_not k hk ⟨by omega, by omega⟩
theorem nb_back {W H t u : Int} {k : Nat} (hW : 1 ≤ W) (t0 : 0 ≤ t) (t1 : t < W * H) (hk : k < 8) (e : nb W H t k = u) (h : 0 ≤ u) : t ∈ nbL W H u := by
  obtain ⟨j, hj, h1, h2⟩ := ways k hk
  refine List.mem_map.2 ⟨j, List.mem_range.2 hj, ?_⟩
  unfold nb at e ⊢
  rw [h1, h2]
  exact nbS_back hW t0 t1 e h
theorem nb_once {W H t u : Int} {k : Nat} (hW : 1 ≤ W) (hk : k < 8) (e : nb W H t k = u) (h : 0 ≤ u) : u ∉ (nbL W H t).take k := by
  intro hm
  obtain ⟨i, hi, he⟩ := List.mem_iff_getElem.1 hm
  have hl : (nbL W H t).length = 8 := by unfold nbL; simp
  have hik : i < k := by rw [List.length_take] at hi; omega
  have he' : nb W H t i = u := by
    rw [← nb_getD W H t i (by omega), ← he, List.getElem_take]
    simp [List.getD, List.getElem?_eq_getElem (show i < (nbL W H t).length by omega)]
  obtain ⟨_, hm1, hd1, _⟩ := nbS_inv hW e h
  obtain ⟨_, hm2, hd2, _⟩ := nbS_inv hW he' h
  have := ways_once i k (by omega) hk (by omega) (by omega)
  omega
end Go.Proofs.YthabjihpjdlmoaaDoor
/- Plain words of layer 13: the steps on a ground with good tiles. -/
namespace Go.Proofs.YthabjihpjdlmoaaDoor
open Go.RowKit
set_option linter.unusedVariables false
/-- May one go from t its way i? -/
def stOk (W H : Int) (gd : Nat → Bool) (t i : Nat) : Prop := 0 ≤ nb W H t i ∧ gd t = true ∧ gd (nb W H t i).toNat = true ∧ (4 ≤ i → gd (nb W H t (i - 4)).toNat = true ∧ gd (nb W H t ((i - 3) % 4)).toNat = true)
instance (W H : Int) (gd : Nat → Bool) (t i : Nat) : Decidable (stOk W H gd t i) := by unfold stOk; exact inferInstance
def tT (W H : Int) (gd : Nat → Bool) (t i : Nat) : Int := if stOk W H gd t i then nb W H t i else -1
def tC (W H : Int) (kc : Nat → Int) (t i : Nat) : Int := (if i < 4 then 5 else 7) * (kc t + kc (nb W H t i).toNat)
theorem tT_yes {W H : Int} {gd : Nat → Bool} {t i : Nat} (h : stOk W H gd t i) : tT W H gd t i = nb W H t i := if_pos h
theorem tT_no {W H : Int} {gd : Nat → Bool} {t i : Nat} (h : ¬ stOk W H gd t i) : tT W H gd t i = -1 := if_neg h
theorem tT_ok {W H : Int} {gd : Nat → Bool} {t i : Nat} (h : 0 ≤ tT W H gd t i) : stOk W H gd t i ∧ tT W H gd t i = nb W H t i := by
  by_cases c : stOk W H gd t i
  · exact ⟨c, tT_yes c⟩
  · rw [tT_no c] at h; omega
theorem stp_of {W H : Int} {n : Nat} {gd : Nat → Bool} {kc : Nat → Int} (hW : 1 ≤ W) (hn : (n : Int) = W * H) (h0 : ∀ t, gd t = true → 0 < kc t) (h1 : ∀ t, kc t ≤ 6) : Stp n (tT W H gd) (tC W H kc) := by
  refine ⟨fun t i ht => ?_, fun t i ht h => ?_, fun t i ht => ?_⟩
  · by_cases c : stOk W H gd t i
    · rw [tT_yes c, hn]
      exact nb_lt hW rfl c.1
    · rw [tT_no c]; omega
  · obtain ⟨c, _⟩ := tT_ok h
    have a := h0 _ c.2.1
    have b := h0 _ c.2.2.1
    unfold tC
    split <;> omega
  · have a := h1 t
    have b := h1 (nb W H t i).toNat
    unfold tC
    split <;> omega
theorem way_lt {k : Nat} : k < 4 ↔ (dxL.getD k 0 = 0 ∨ dyL.getD k 0 = 0) ∧ k < 8 := by
  constructor
  · intro h
    match k, h with
    | 0, _ | 1, _ | 2, _ | 3, _ => decide
  · rintro ⟨h, hk⟩
    match k, hk, h with
    | 0, _, _ | 1, _, _ | 2, _, _ | 3, _, _ => decide
    | 4, _, h | 5, _, h | 6, _, h | 7, _, h => exact absurd h (by decide)
/-- The two sides of an aslant way: one goes along x, one along y. -/
theorem sides_of {W H t : Int} {k : Nat} (h4 : 4 ≤ k) (h8 : k < 8) :
    (nb W H t (k - 4) = nbS W H t (dxL.getD k 0) 0 ∧ nb W H t ((k - 3) % 4) = nbS W H t 0 (dyL.getD k 0)) ∨ (nb W H t (k - 4) = nbS W H t 0 (dyL.getD k 0) ∧ nb W H t ((k - 3) % 4) = nbS W H t (dxL.getD k 0) 0) := by
  match k, h4, h8 with
  | 4, _, _ => right; exact ⟨rfl, rfl⟩
  | 5, _, _ => left; exact ⟨rfl, rfl⟩
  | 6, _, _ => right; exact ⟨rfl, rfl⟩
  | 7, _, _ => left; exact ⟨rfl, rfl⟩
theorem ok_sides {W H : Int} {gd : Nat → Bool} {t k : Nat} (h8 : k < 8) : stOk W H gd t k ↔ (0 ≤ nb W H t k ∧ gd t = true ∧ gd (nb W H t k).toNat = true ∧ (4 ≤ k → gd (nbS W H t (dxL.getD k 0) 0).toNat = true ∧ gd (nbS W H t 0 (dyL.getD k 0)).toNat = true)) := by
  unfold stOk
  by_cases h4 : 4 ≤ k
  · rcases sides_of (W := W) (H := H) (t := (t : Int)) h4 h8 with ⟨e1, e2⟩ | ⟨e1, e2⟩
    · rw [e1, e2]
    · rw [e1, e2]
      constructor
      · rintro ⟨a, b, c, d⟩; exact ⟨a, b, c, fun q => (d q).symm⟩
      · rintro ⟨a, b, c, d⟩; exact ⟨a, b, c, fun q => (d q).symm⟩
  · constructor
    · rintro ⟨a, b, c, d⟩; exact ⟨a, b, c, fun q => absurd q h4⟩
    · rintro ⟨a, b, c, d⟩; exact ⟨a, b, c, fun q => absurd q h4⟩
theorem step_back {W H : Int} {n : Nat} {gd : Nat → Bool} {kc : Nat → Int} (hW : 1 ≤ W) (hn : (n : Int) = W * H) : ∀ t i, t < n → i < 8 → 0 ≤ tT W H gd t i → ∃ j, j < 8 ∧ tT W H gd (tT W H gd t i).toNat j = (t : Int) ∧ tC W H kc (tT W H gd t i).toNat j = tC W H kc t i := by
  intro t i ht hi h0
  obtain ⟨c, e⟩ := tT_ok h0
  rw [e]
  have h1 := c.1
  obtain ⟨u, hu⟩ : ∃ u : Nat, nb W H t i = (u : Int) := ⟨(nb W H t i).toNat, by omega⟩
  obtain ⟨j, hj, dx, dy⟩ := ways i hi
  have hb : nb W H (u : Int) j = (t : Int) := by
    unfold nb at hu ⊢
    rw [dx, dy]
    exact nbS_back hW (by omega) (by omega) hu (by omega)
  obtain ⟨b1, b2, b3, b4⟩ := nbS_inv hW (show nbS W H t (dxL.getD i 0) (dyL.getD i 0) = (u : Int) from hu) (by omega)
  have m0 := Int.emod_nonneg (t : Int) (show W ≠ 0 by omega)
  have m1 := Int.emod_lt_of_pos (t : Int) (show 0 < W by omega)
  have d0 : 0 ≤ (t : Int) / W := Int.ediv_nonneg (by omega) (by omega)
  have d1 : (t : Int) / W < H := Int.ediv_lt_of_lt_mul (by omega) (by rw [Int.mul_comm]; omega)
  have hij : i < 4 ↔ j < 4 := by
    rw [way_lt, way_lt, dx, dy]
    constructor <;> rintro ⟨q, _⟩ <;> exact ⟨by omega, by omega⟩
  rw [hu]
  simp only [Int.toNat_natCast]
  have ho : stOk W H gd u j := by
    rw [ok_sides hi] at c
    rw [ok_sides hj]
    obtain ⟨c1, c2, c3, c4⟩ := c
    rw [hu] at c3
    simp only [Int.toNat_natCast] at c3
    refine ⟨by omega, c3, by rw [hb]; simpa using c2, fun q => ?_⟩
    obtain ⟨s1, s2⟩ := c4 (by omega)
    rw [nbS_yes (by omega) (by omega) (by omega) (by omega)] at s1 s2
    rw [dx, dy, nbS_yes (by omega) (by omega) (by omega) (by omega), nbS_yes (by omega) (by omega) (by omega) (by omega), b2, b3]
    constructor
    · rw [show (t : Int) % W + dxL.getD i 0 + -(dxL.getD i 0) = (t : Int) % W + 0 by omega, show (t : Int) / W + dyL.getD i 0 + 0 = (t : Int) / W + dyL.getD i 0 by omega]
      exact s2
    · rw [show (t : Int) / W + dyL.getD i 0 + -(dyL.getD i 0) = (t : Int) / W + 0 by omega, show (t : Int) % W + dxL.getD i 0 + 0 = (t : Int) % W + dxL.getD i 0 by omega]
      exact s1
  refine ⟨j, hj, by rw [tT_yes ho]; exact hb, ?_⟩
  unfold tC
  rw [hb, hu]
  simp only [Int.toNat_natCast]
  rw [Int.add_comm (kc u)]
  by_cases q : i < 4
  · rw [if_pos q, if_pos (hij.1 q)]
  · rw [if_neg q, if_neg (fun z => q (hij.2 z))]
theorem step_mono {W H : Int} {gd gd' : Nat → Bool} {kc kc' : Nat → Int} {n : Nat} (hg : ∀ t, gd t = true → gd' t = true) (hk : ∀ t, gd t = true → kc' t ≤ kc t) : ∀ t i, t < n → i < 8 → 0 ≤ tT W H gd t i → ∃ j, j < 8 ∧ tT W H gd' t j = tT W H gd t i ∧ tC W H kc' t j ≤ tC W H kc t i := by
  intro t i _ hi h0
  obtain ⟨c, e⟩ := tT_ok h0
  have c' : stOk W H gd' t i := ⟨c.1, hg _ c.2.1, hg _ c.2.2.1, fun q => ⟨hg _ (c.2.2.2 q).1, hg _ (c.2.2.2 q).2⟩⟩
  refine ⟨i, hi, by rw [e, tT_yes c'], ?_⟩
  have a := hk _ c.2.1
  have b := hk _ c.2.2.1
  unfold tC
  split <;> omega
theorem step_good {W H : Int} {gd : Nat → Bool} {t i : Nat} (h0 : 0 ≤ tT W H gd t i) : gd t = true ∧ gd (tT W H gd t i).toNat = true := by
  obtain ⟨c, e⟩ := tT_ok h0
  exact ⟨c.2.1, by rw [e]; exact c.2.2.1⟩
end Go.Proofs.YthabjihpjdlmoaaDoor
/- Plain words of layer 12: pairs, how often each stands in a row, heaps. -/
namespace Go.Proofs.YthabjihpjdlmoaaDoor
open Go.RowKit
set_option linter.unusedVariables false
abbrev PrQ := Int × Int
def ltQ (a b : PrQ) : Bool := decide (a.1 < b.1 ∨ (a.1 = b.1 ∧ a.2 < b.2))
theorem ltQ_iff {a b : PrQ} : ltQ a b = true ↔ (a.1 < b.1 ∨ (a.1 = b.1 ∧ a.2 < b.2)) := by unfold ltQ; rw [decide_eq_true_iff]
theorem ltQ_no {a b : PrQ} : ltQ a b = false ↔ ¬ (a.1 < b.1 ∨ (a.1 = b.1 ∧ a.2 < b.2)) := by unfold ltQ; rw [decide_eq_false_iff_not]
/-- a is not behind b. -/
def leQ (a b : PrQ) : Prop := ltQ b a = false
theorem leQ_iff {a b : PrQ} : leQ a b ↔ (a.1 < b.1 ∨ (a.1 = b.1 ∧ a.2 ≤ b.2)) := by unfold leQ; rw [ltQ_no]; omega
theorem leQ_refl (a : PrQ) : leQ a a := leQ_iff.2 (Or.inr ⟨rfl, Int.le_refl _⟩)
theorem leQ_trans {a b c : PrQ} (h : leQ a b) (k : leQ b c) : leQ a c := by rw [leQ_iff] at *; omega
theorem leQ_of_lt {a b : PrQ} (h : ltQ a b = true) : leQ a b := by rw [ltQ_iff] at h; rw [leQ_iff]; omega
theorem leQ_anti {a b : PrQ} (h : leQ a b) (k : leQ b a) : a = b := by
  rw [leQ_iff] at *
  exact Prod.ext (by omega) (by omega)
/-- One place written anew; two exchanged. -/
def updQ (F : Nat → PrQ) (i : Nat) (v : PrQ) : Nat → PrQ := fun k => if k = i then v else F k
def swpQ (F : Nat → PrQ) (i j : Nat) : Nat → PrQ := updQ (updQ F i (F j)) j (F i)
theorem updQ_at (F : Nat → PrQ) (i : Nat) (v : PrQ) : updQ F i v i = v := by unfold updQ; rw [if_pos rfl]
theorem updQ_far {F : Nat → PrQ} {i k : Nat} {v : PrQ} (h : k ≠ i) : updQ F i v k = F k := by unfold updQ; rw [if_neg h]
theorem swpQ_j (F : Nat → PrQ) (i j : Nat) : swpQ F i j j = F i := updQ_at _ _ _
theorem swpQ_i (F : Nat → PrQ) (i j : Nat) : swpQ F i j i = F j := by
  unfold swpQ
  by_cases h : i = j
  · rw [h, updQ_at]
  · rw [updQ_far h, updQ_at]
theorem swpQ_far {F : Nat → PrQ} {i j k : Nat} (h : k ≠ i) (h' : k ≠ j) : swpQ F i j k = F k := by unfold swpQ; rw [updQ_far h', updQ_far h]
/-- How often p stands among the first n. -/
def cntQ (F : Nat → PrQ) (p : PrQ) : Nat → Nat
  | 0 => 0
  | n + 1 => cntQ F p n + (if F n = p then 1 else 0)
theorem cntQ_congr {F G : Nat → PrQ} {p : PrQ} : ∀ {n : Nat}, (∀ k, k < n → F k = G k) → cntQ F p n = cntQ G p n
  | 0, _ => rfl
  | n + 1, h => by
    show cntQ F p n + _ = cntQ G p n + _
    rw [cntQ_congr fun k hk => h k (by omega), h n (by omega)]
theorem cntQ_upd (F : Nat → PrQ) (p v : PrQ) (i : Nat) : ∀ {n : Nat}, i < n → cntQ (updQ F i v) p n + (if F i = p then 1 else 0) = cntQ F p n + (if v = p then 1 else 0)
  | n + 1, h => by
    show cntQ (updQ F i v) p n + (if updQ F i v n = p then 1 else 0) + _ = cntQ F p n + (if F n = p then 1 else 0) + _
    by_cases c : i = n
    · subst c
      rw [cntQ_congr (G := F) fun k hk => updQ_far (by omega), updQ_at]
      omega
    · have := cntQ_upd F p v i (n := n) (by omega)
      rw [updQ_far (show n ≠ i by omega)]
      omega
theorem cntQ_swp (F : Nat → PrQ) (p : PrQ) {i j n : Nat} (hi : i < n) (hj : j < n) : cntQ (swpQ F i j) p n = cntQ F p n := by
  have h1 := cntQ_upd F p (F j) i hi
  have h2 := cntQ_upd (updQ F i (F j)) p (F i) j hj
  have e : updQ F i (F j) j = F j := by
    by_cases h : j = i
    · rw [h, updQ_at]
    · exact updQ_far h
  rw [e] at h2
  unfold swpQ
  omega
theorem cntQ_pos {F : Nat → PrQ} {p : PrQ} : ∀ {n : Nat}, 0 < cntQ F p n → ∃ k, k < n ∧ F k = p
  | n + 1, h => by
    by_cases c : F n = p
    · exact ⟨n, by omega, c⟩
    · have h' : 0 < cntQ F p n := by
        have : cntQ F p (n + 1) = cntQ F p n + (if F n = p then 1 else 0) := rfl
        rw [this, if_neg c] at h
        exact h
      obtain ⟨k, hk, e⟩ := cntQ_pos h'
      exact ⟨k, by omega, e⟩
theorem cntQ_has {F : Nat → PrQ} {k : Nat} : ∀ {n : Nat}, k < n → 0 < cntQ F (F k) n
  | n + 1, h => by
    show 0 < cntQ F (F k) n + _
    by_cases c : k = n
    · subst c
      rw [if_pos rfl]; omega
    · have := cntQ_has (F := F) (k := k) (n := n) (by omega)
      omega
/-- A heap; a heap but for the place i, that may have to rise; that may have to sink. -/
def HpQ (F : Nat → PrQ) (n : Nat) : Prop := ∀ k, 0 < k → k < n → leQ (F ((k - 1) / 2)) (F k)
structure UpQ (F : Nat → PrQ) (n i : Nat) : Prop where
  a : ∀ k, 0 < k → k < n → k ≠ i → leQ (F ((k - 1) / 2)) (F k)
  b : ∀ k, 0 < k → k < n → (k - 1) / 2 = i → 0 < i → leQ (F ((i - 1) / 2)) (F k)
structure DnQ (F : Nat → PrQ) (n i : Nat) : Prop where
  a : ∀ k, 0 < k → k < n → (k - 1) / 2 ≠ i → leQ (F ((k - 1) / 2)) (F k)
  b : ∀ k, 0 < k → k < n → (k - 1) / 2 = i → 0 < i → leQ (F ((i - 1) / 2)) (F k)
theorem HpQ.min {F : Nat → PrQ} {n : Nat} (h : HpQ F n) : ∀ k, k < n → leQ (F 0) (F k) := by
  intro k
  induction k using Nat.strongRecOn with
  | ind k ih =>
    intro hk
    by_cases c : k = 0
    · subst c; exact leQ_refl _
    · exact leQ_trans (ih ((k - 1) / 2) (by omega) (by omega)) (h k (by omega) hk)
theorem UpQ.start {F : Nat → PrQ} {n : Nat} (h : HpQ F n) (v : PrQ) : UpQ (updQ F n v) (n + 1) n :=
  ⟨fun k h0 hk hn => by rw [updQ_far (show k ≠ n by omega), updQ_far (show (k - 1) / 2 ≠ n by omega)]; exact h k h0 (by omega), fun k h0 hk hp h1 => by omega⟩
theorem UpQ.top {F : Nat → PrQ} {n : Nat} (h : UpQ F n 0) : HpQ F n := fun k h0 hk => h.a k h0 hk (by omega)
theorem UpQ.stop {F : Nat → PrQ} {n i : Nat} (h : UpQ F n i) (hc : ltQ (F i) (F ((i - 1) / 2)) = false) : HpQ F n := fun k h0 hk => by
  by_cases c : k = i
  · subst c; exact hc
  · exact h.a k h0 hk c
theorem UpQ.go {F : Nat → PrQ} {n i u : Nat} (h : UpQ F n i) (h0 : 0 < i) (hi : i < n) (hu : u = (i - 1) / 2) (hc : ltQ (F i) (F u) = true) : UpQ (swpQ F i u) n u := by
  have hui : u < i := by omega
  have hle := leQ_of_lt hc
  constructor
  · intro k k0 hk hn
    by_cases c : k = i
    · subst c
      rw [← hu, swpQ_j, swpQ_i]
      exact hle
    · rw [swpQ_far (k := k) c hn]
      by_cases d : (k - 1) / 2 = i
      · rw [d, swpQ_i]
        have := h.b k k0 hk d h0
        rwa [← hu] at this
      · by_cases e : (k - 1) / 2 = u
        · rw [e, swpQ_j]
          have := h.a k k0 hk c
          rw [e] at this
          exact leQ_trans hle this
        · rw [swpQ_far d e]
          exact h.a k k0 hk c
  · intro k k0 hk hp hu0
    have hq : leQ (F ((u - 1) / 2)) (F u) := h.a u hu0 (by omega) (by omega)
    rw [swpQ_far (k := (u - 1) / 2) (by omega) (by omega)]
    by_cases c : k = i
    · subst c
      rw [swpQ_i]
      exact hq
    · rw [swpQ_far (k := k) c (by omega)]
      have := h.a k k0 hk c
      rw [hp] at this
      exact leQ_trans hq this
theorem DnQ.start {F : Nat → PrQ} {n m : Nat} (h : HpQ F n) (hm : m ≤ n) (v : PrQ) : DnQ (updQ F 0 v) m 0 :=
  ⟨fun k h0 hk hn => by rw [updQ_far (show k ≠ 0 by omega), updQ_far hn]; exact h k h0 (by omega), fun k h0 hk hp h1 => by omega⟩
theorem DnQ.stop {F : Nat → PrQ} {n i : Nat} (h : DnQ F n i) (h1 : 2 * i + 1 < n → leQ (F i) (F (2 * i + 1))) (h2 : 2 * i + 2 < n → leQ (F i) (F (2 * i + 2))) : HpQ F n := fun k k0 hk => by
  by_cases c : (k - 1) / 2 = i
  · rw [c]
    rcases (show k = 2 * i + 1 ∨ k = 2 * i + 2 by omega) with e | e
    · rw [e]; exact h1 (by omega)
    · rw [e]; exact h2 (by omega)
  · exact h.a k k0 hk c
theorem DnQ.go {F : Nat → PrQ} {n i c : Nat} (h : DnQ F n i) (hc : c = 2 * i + 1 ∨ c = 2 * i + 2) (hcn : c < n) (hl : ltQ (F c) (F i) = true) (h1 : 2 * i + 1 < n → leQ (F c) (F (2 * i + 1))) (h2 : 2 * i + 2 < n → leQ (F c) (F (2 * i + 2))) : DnQ (swpQ F i c) n c := by
  have hle := leQ_of_lt hl
  have hp : (c - 1) / 2 = i := by omega
  constructor
  · intro k k0 hk hn
    by_cases e1 : k = i
    · subst e1
      rw [swpQ_i, swpQ_far (k := (k - 1) / 2) (by omega) (by omega)]
      exact h.b c (by omega) hcn hp k0
    · by_cases e2 : k = c
      · subst e2
        rw [hp, swpQ_i, swpQ_j]
        exact hle
      · rw [swpQ_far (k := k) e1 e2]
        by_cases e3 : (k - 1) / 2 = i
        · rw [e3, swpQ_i]
          rcases (show k = 2 * i + 1 ∨ k = 2 * i + 2 by omega) with e | e
          · rw [e]; exact h1 (by omega)
          · rw [e]; exact h2 (by omega)
        · rw [swpQ_far e3 hn]
          exact h.a k k0 hk e3
  · intro k k0 hk hpk c0
    rw [hp, swpQ_i, swpQ_far (k := k) (by omega) (by omega)]
    have := h.a k k0 hk (by omega)
    rwa [hpk] at this
/-- The cells of the first n pairs. -/
def flatQ (F : Nat → PrQ) : Nat → List Value
  | 0 => []
  | n + 1 => flatQ F n ++ [.int .i64 (F n).1, .int .i64 (F n).2]
theorem flatQ_len (F : Nat → PrQ) : ∀ n, (flatQ F n).length = n * 2
  | 0 => rfl
  | n + 1 => by
    show (flatQ F n ++ _).length = _
    rw [List.length_append, flatQ_len F n]
    simp; omega
theorem flatQ_at (F : Nat → PrQ) : ∀ {n k : Nat}, k < n → (flatQ F n)[k * 2]? = some (.int .i64 (F k).1) ∧ (flatQ F n)[k * 2 + 1]? = some (.int .i64 (F k).2)
  | n + 1, k, h => by
    have hl := flatQ_len F n
    show (flatQ F n ++ _)[k * 2]? = _ ∧ (flatQ F n ++ _)[k * 2 + 1]? = _
    by_cases c : k = n
    · subst c
      rw [List.getElem?_append_right (by omega), List.getElem?_append_right (by omega), hl]
      rw [show k * 2 - k * 2 = 0 by omega, show k * 2 + 1 - k * 2 = 1 by omega]
      exact ⟨rfl, rfl⟩
    · rw [List.getElem?_append_left (by omega), List.getElem?_append_left (by omega)]
      exact flatQ_at F (by omega)
theorem flatQ_congr {F G : Nat → PrQ} : ∀ {n : Nat}, (∀ k, k < n → F k = G k) → flatQ F n = flatQ G n
  | 0, _ => rfl
  | n + 1, h => by
    show flatQ F n ++ _ = flatQ G n ++ _
    rw [flatQ_congr fun k hk => h k (by omega), h n (by omega)]
theorem flatQ_take (F : Nat → PrQ) : ∀ {n m : Nat}, m ≤ n → (flatQ F n).take (m * 2) = flatQ F m
  | 0, m, h => by rw [show m = 0 by omega]; rfl
  | n + 1, m, h => by
    have hl := flatQ_len F n
    by_cases c : m = n + 1
    · subst c
      rw [List.take_of_length_le (by rw [flatQ_len]; exact Nat.le_refl _)]
    · show (flatQ F n ++ _).take (m * 2) = _
      rw [List.take_append_of_le_length (by omega)]
      exact flatQ_take F (by omega)
theorem flatQ_ext {F : Nat → PrQ} {n : Nat} {l : List Value} (hl : l.length = n * 2) (h : ∀ k, k < n → l[k * 2]? = some (.int .i64 (F k).1) ∧ l[k * 2 + 1]? = some (.int .i64 (F k).2)) : l = flatQ F n := by
  apply List.ext_getElem?
  intro t
  by_cases ht : t < n * 2
  · rcases Nat.mod_two_eq_zero_or_one t with e | e
    · have := h (t / 2) (by omega)
      have h2 := flatQ_at F (n := n) (k := t / 2) (by omega)
      rw [show t / 2 * 2 = t by omega] at this h2
      rw [this.1, h2.1]
    · have := h (t / 2) (by omega)
      have h2 := flatQ_at F (n := n) (k := t / 2) (by omega)
      rw [show t / 2 * 2 + 1 = t by omega] at this h2
      rw [this.2, h2.2]
  · rw [List.getElem?_eq_none (by omega), List.getElem?_eq_none (by rw [flatQ_len]; omega)]
theorem flatQ_set (F : Nat → PrQ) {n k : Nat} (hk : k < n) (p : PrQ) : ((flatQ F n).set (k * 2) (.int .i64 p.1)).set (k * 2 + 1) (.int .i64 p.2) = flatQ (updQ F k p) n := by
  apply flatQ_ext
  · simp [flatQ_len]
  · intro j hj
    have h1 := flatQ_at F hj
    have hl := flatQ_len F n
    by_cases c : j = k
    · subst c
      rw [updQ_at]
      constructor
      · rw [List.getElem?_set_ne (by omega), List.getElem?_set_self (by omega)]
      · rw [List.getElem?_set_self (by simp; omega)]
    · rw [updQ_far c]
      rw [List.getElem?_set_ne (by omega), List.getElem?_set_ne (by omega), List.getElem?_set_ne (by omega), List.getElem?_set_ne (by omega)]
      exact h1
theorem flatQ_one (F : Nat → PrQ) : ∀ n, ∀ u ∈ flatQ F n, u.oneCell' = true
  | 0, u, h => by cases h
  | n + 1, u, h => by
    rcases List.mem_append.1 h with h | h
    · exact flatQ_one F n u h
    · simp at h; rcases h with rfl | rfl <;> rfl
end Go.Proofs.YthabjihpjdlmoaaDoor
/- Plain words of layer 13: what waits in the queue. -/
namespace Go.Proofs.YthabjihpjdlmoaaDoor
open Go.RowKit
set_option linter.unusedVariables false
/-- Does s wait? -/
def Pq (D : Nat → Int) (F : Nat → PrQ) (m s : Nat) : Prop := 0 < cntQ F (D s, (s : Int)) m
structure QOk (n : Nat) (D : Nat → Int) (F : Nat → PrQ) (m : Nat) : Prop where
  at_ : ∀ k, k < m → ∃ t : Nat, t < n ∧ (F k).2 = (t : Int) ∧ 0 ≤ D t ∧ D t ≤ (F k).1 ∧ (F k).1 ≤ 1400000
theorem QOk.of_cnt {n m : Nat} {D : Nat → Int} {F : Nat → PrQ} (h : QOk n D F m) {x : PrQ} (hx : 0 < cntQ F x m) : ∃ t : Nat, t < n ∧ x.2 = (t : Int) ∧ 0 ≤ D t ∧ D t ≤ x.1 ∧ x.1 ≤ 1400000 := by
  obtain ⟨k, hk, e⟩ := cntQ_pos hx
  rw [← e]
  exact h.at_ k hk
theorem QOk.pop {n m : Nat} {D : Nat → Int} {F G : Nat → PrQ} (h : QOk n D F (m + 1)) (hc : ∀ x, cntQ F x (m + 1) = cntQ G x m + (if F 0 = x then 1 else 0)) : QOk n D G m :=
  ⟨fun k hk => h.of_cnt (by rw [hc]; have := cntQ_has (F := G) hk; omega)⟩
theorem Lab0.stale {n g m t : Nat} {T C : Nat → Nat → Int} {D : Nat → Int} {F G : Nat → PrQ} (h : Lab0 n T C g D (Pq D F (m + 1))) (hc : ∀ x, cntQ F x (m + 1) = cntQ G x m + (if F 0 = x then 1 else 0))
    (ht : (F 0).2 = (t : Int)) (hd : D t < (F 0).1) : Lab0 n T C g D (Pq D G m) := by
  refine h.drop (fun s hs h0 hp => ?_)
  unfold Pq at hp ⊢
  rw [hc] at hp
  by_cases e : F 0 = (D s, (s : Int))
  · rw [e] at ht hd
    simp only at ht hd
    have : s = t := by omega
    subst this
    omega
  · rw [if_neg e] at hp
    exact hp
theorem Lab0.fresh {n g m t : Nat} {T C : Nat → Nat → Int} {D : Nat → Int} {F G : Nat → PrQ} (h : Lab0 n T C g D (Pq D F (m + 1))) (hc : ∀ x, cntQ F x (m + 1) = cntQ G x m + (if F 0 = x then 1 else 0))
    (ht : (F 0).2 = (t : Int)) (htn : t < n) (h0 : 0 ≤ D t) : Lab n T C g D (Pq D G m) t 0 := by
  refine h.take (fun s hs hp => ?_) htn h0
  unfold Pq at hp ⊢
  rw [hc] at hp
  by_cases e : F 0 = (D s, (s : Int))
  · rw [e] at ht
    simp only at ht
    exact absurd (by omega) hs
  · rw [if_neg e] at hp
    exact hp
theorem Lab.push {n g m t i u : Nat} {T C : Nat → Nat → Int} {D : Nat → Int} {F G : Nat → PrQ} {v : Int} (h : Lab n T C g D (Pq D F m) t i) (hS : Stp n T C) (hi : i < 8) (hu : T t i = (u : Int)) (hv : v = D t + C t i) (hd : D u < 0 ∨ v < D u)
    (hc : ∀ x, cntQ G x (m + 1) = cntQ F x m + (if ((v, (u : Int)) : PrQ) = x then 1 else 0)) : Lab n T C g (updD D u v) (Pq (updD D u v) G (m + 1)) t (i + 1) := by
  refine h.put hS hi hu hv hd (fun s hs hp => ?_) ?_
  · unfold Pq at hp ⊢
    rw [updD_far hs, hc]
    omega
  · unfold Pq
    rw [updD_at, hc, if_pos rfl]
    omega
theorem QOk.push {n m u : Nat} {D : Nat → Int} {F G : Nat → PrQ} {v : Int} (h : QOk n D F m) (hun : u < n) (hv0 : 0 ≤ v) (hvb : v ≤ 1400000) (hd : D u < 0 ∨ v < D u)
    (hc : ∀ x, cntQ G x (m + 1) = cntQ F x m + (if ((v, (u : Int)) : PrQ) = x then 1 else 0)) : QOk n (updD D u v) G (m + 1) := by
  refine ⟨fun k hk => ?_⟩
  have h1 := cntQ_has (F := G) hk
  rw [hc] at h1
  by_cases e : ((v, (u : Int)) : PrQ) = G k
  · rw [← e]
    exact ⟨u, hun, rfl, by rw [updD_at]; omega, by rw [updD_at]; exact Int.le_refl _, hvb⟩
  · rw [if_neg e] at h1
    obtain ⟨t, ht, e1, h0, h2, h3⟩ := h.of_cnt (x := G k) (by omega)
    by_cases et : t = u
    · subst et
      exact ⟨t, ht, e1, by rw [updD_at]; omega, by rw [updD_at]; omega, h3⟩
    · exact ⟨t, ht, e1, by rw [updD_far et]; exact h0, by rw [updD_far et]; exact h2, h3⟩
theorem Lab0.empty {n g : Nat} {T C : Nat → Nat → Int} {D : Nat → Int} {F : Nat → PrQ} (h : Lab0 n T C g D (Pq D F 0)) : Tab n T C g D :=
  h.out (fun s _ _ hp => by unfold Pq cntQ at hp; omega)
theorem Lab0.first {n g : Nat} {T C : Nat → Nat → Int} {G : Nat → PrQ} (hg : g < n) (hc : ∀ x, cntQ G x 1 = cntQ (fun _ => ((0, 0) : PrQ)) x 0 + (if ((0, (g : Int)) : PrQ) = x then 1 else 0)) : Lab0 n T C g (oneD g) (Pq (oneD g) G 1) :=
  Lab0.start hg (by unfold Pq; rw [oneD_at, hc, if_pos rfl]; omega)
theorem QOk.first {n g : Nat} {G : Nat → PrQ} (hg : g < n) (hc : ∀ x, cntQ G x 1 = cntQ (fun _ => ((0, 0) : PrQ)) x 0 + (if ((0, (g : Int)) : PrQ) = x then 1 else 0)) : QOk n (oneD g) G 1 := by
  refine ⟨fun k hk => ?_⟩
  have h1 := cntQ_has (F := G) hk
  rw [hc] at h1
  by_cases e : ((0, (g : Int)) : PrQ) = G k
  · rw [← e]
    exact ⟨g, hg, rfl, by rw [oneD_at]; omega, by rw [oneD_at]; exact Int.le_refl _, by show (0 : Int) ≤ 1400000; omega⟩
  · rw [if_neg e] at h1
    unfold cntQ at h1
    omega
theorem potD_one {g : Nat} (n : Nat) : potD (oneD g) n ≤ n * 1400001 := potD_le n (fun t _ => by unfold oneD; split <;> omega)
/-- What stands in a row of numbers; how long the row is that a cell holds. -/
def cellD (w : World) (J k : Nat) : Int := match w.cell? ⟨J, k, none⟩ with | some (.int _ z) => z | _ => 0
def lenD (w : World) (Q : Nat) : Nat := match w.cell? ⟨Q, 0, none⟩ with | some (.slice _ n _) => n | _ => 0
theorem potD_congr {D E : Nat → Int} : ∀ {n}, (∀ k, k < n → D k = E k) → potD D n = potD E n
  | 0, _ => rfl
  | k + 1, h => by
    show potD D k + _ = potD E k + _
    rw [potD_congr (n := k) (fun j hj => h j (by omega)), h k (by omega)]
theorem pot_cell {w : World} {J n : Nat} {D : Nat → Int} (h : ∀ k, k < n → w.cell? ⟨J, k, none⟩ = some (.int .i64 (D k))) : potD (cellD w J) n = potD D n :=
  potD_congr (fun k hk => by unfold cellD; rw [h k hk])
theorem len_cell {w : World} {Q n c : Nat} {a : Option Addr} (h : w.cell? ⟨Q, 0, none⟩ = some (.slice a n c)) : lenD w Q = n := by unfold lenD; rw [h]
end Go.Proofs.YthabjihpjdlmoaaDoor
