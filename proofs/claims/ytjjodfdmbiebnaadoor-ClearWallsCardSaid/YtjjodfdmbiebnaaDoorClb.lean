/- Layer 9: clear.Open. -/
import Derived.Test.YtjjodfdmbiebnaaDoorCla
import Derived.Test.YtjjodfdmbiebnaaDoorBui
import Derived.Deep.QuietTactic
import Derived.BigQuiet
import Derived.Deep.RegionWith
import Derived.Deep.RegionHeld3
import Derived.Deep.DeepCutAuto
import Derived.Deep.DeepFit
import Derived.Outline
namespace Go.Proofs.YtjjodfdmbiebnaaDoor
open Go.RowKit
set_option linter.unusedVariables false
set_option linter.unusedSimpArgs false
/-- Is the tile open for the class? -/
def opn (W : Int) (xs : List Int) (bs : List Bd) (c k : Nat) : Bool := opB c (xs.getD k 0).toNat && !(cvB W bs k)
theorem z_of {c : Nat} {X : World} {P : Nat} (h : X.cell? ⟨P, 0, none⟩ = some (.bool (opB c 0)) ∧ X.cell? ⟨P, 1, none⟩ = some (.bool (opB c 1)) ∧ X.cell? ⟨P, 2, none⟩ = some (.bool (opB c 2)) ∧ X.cell? ⟨P, 3, none⟩ = some (.bool (opB c 3)) ∧ X.cell? ⟨P, 4, none⟩ = some (.bool (opB c 4)) ∧ X.cell? ⟨P, 5, none⟩ = some (.bool (opB c 5)) ∧ P < X.heap.size) : ∀ j, j < 6 → X.cell? ⟨P, j, none⟩ = some (.bool (opB c j)) := by
  obtain ⟨h0, h1, h2, h3, h4, h5, _⟩ := h
  intro j hj
  match j, hj with
  | 0, _ => exact h0
  | 1, _ => exact h1
  | 2, _ => exact h2
  | 3, _ => exact h3
  | 4, _ => exact h4
  | 5, _ => exact h5
theorem open_no (W H : Int) (a : Option Addr) (n c : Nat) (xs : List Int) (la : Option Addr) (ln lc : Nat) (bs : List Bd) (w : World) (h : By w w.heap.size a n xs) (hb0 : Bq w w.heap.size la ln bs) (hn : n ≤ 140737488355328) (hln : ln ≤ 1099511627776) (x : Int) (MM : Hk (¬ (MOk W H n xs bs ∧ 0 ≤ x ∧ x ≤ 2))) :
    Calls Tryd.prog 26 #[.agg #[.int .i64 W, .int .i64 H, .slice a n c], .slice la ln lc, .int .i64 x] w fun e w' => e = .returned (.tuple #[.slice none 0 0, .int .i64 1]) ∧ Below w.heap.size w w' := by
  have HWB : Hk (Below w.heap.size w (w.alloc (.cells #[.int .i64 W, .int .i64 H, .slice a n c] 24))) := ⟨(Below.refl _ _).alloc (Nat.le_refl _) _⟩
  have hNW : w.heap.size + 1 ≤ (w.alloc (.cells #[.int .i64 W, .int .i64 H, .slice a n c] 24)).heap.size := by simp
  have HB : Hk (Below (w.heap.size + 1) (w.alloc (.cells #[.int .i64 W, .int .i64 H, .slice a n c] 24)) (w.alloc (.cells #[.int .i64 W, .int .i64 H, .slice a n c] 24))) := ⟨Below.refl _ _⟩
  have HTR : Hk (∀ X, Below (w.heap.size + 1) (w.alloc (.cells #[.int .i64 W, .int .i64 H, .slice a n c] 24)) X → Below w.heap.size w X) := ⟨fun X hX => HWB.out.trans (hX.mono (by omega))⟩
  have HBY := Hk.mk (fun (X : World) (hX : Below (w.heap.size + 1) (w.alloc (.cells #[.int .i64 W, .int .i64 H, .slice a n c] 24)) X) => h.below (HTR.out X hX) (Nat.le_refl _))
  have HBQ := Hk.mk (fun (X : World) (hX : Below (w.heap.size + 1) (w.alloc (.cells #[.int .i64 W, .int .i64 H, .slice a n c] 24)) X) => hb0.below (HTR.out X hX) (Nat.le_refl _))
  clear h hb0
  by_cases hM : MOk W H n xs bs
  · have hx : x < 0 ∨ 2 < x := by
      rcases Int.lt_or_le x 0 with h | h
      · exact Or.inl h
      · right
        rcases Int.lt_or_le 2 x with h2 | h2
        · exact h2
        · exact absurd ⟨hM, h, h2⟩ MM.out
    replace MM := Hk.mk hM
    clear hM
    rcases hx with hx | hx
    all_goals
      go_enter Tryd.func26, Tryd.ntmps26
      go_wp2_with (go_at_call 58; (with_reducible refine (cov_yes W H a n c xs la ln lc bs _ ?_ ?_ hn hln MM).mono ?_); (exact (HBY.out _ HB.out).mono (hsz1 HB.out)); (exact (HBQ.out _ HB.out).mono (hsz1 HB.out)); rintro e z ⟨g, rfl, hg, hA, hb⟩; replace HB := Hk.mk (kw_step HB.out hNW hb); clear hb)
      go_ret2
      exact ⟨rfl, HTR.out _ HB.out⟩
  · replace MM := Hk.mk hM
    clear hM
    go_enter Tryd.func26, Tryd.ntmps26
    go_wp2_with (go_at_call 58; (with_reducible refine (cov_no W H a n c xs la ln lc bs _ ?_ ?_ hn hln MM).mono ?_); (exact (HBY.out _ HB.out).mono (hsz1 HB.out)); (exact (HBQ.out _ HB.out).mono (hsz1 HB.out)); rintro e z ⟨rfl, hb⟩; replace HB := Hk.mk (kw_step HB.out hNW hb); clear hb)
    go_ret2
    exact ⟨rfl, HTR.out _ HB.out⟩
theorem frb {N G : Nat} {w Z X : World} (h : Below N w Z) (hN : N ≤ w.heap.size) (f : Fr (fun q => q = G) Z X) (hG : N ≤ G) : Below N w X :=
  h.trans (f.below (B := N) (Nat.le_trans hN h.size) (fun q _ e => by subst e; exact hG))
set_option maxRecDepth 100000 in
set_option maxHeartbeats 800000 in
theorem open_yes (W H : Int) (a : Option Addr) (n c : Nat) (xs : List Int) (la : Option Addr) (ln lc : Nat) (bs : List Bd) (w : World) (h : By w w.heap.size a n xs) (hb0 : Bq w w.heap.size la ln bs) (hn : n ≤ 140737488355328) (hln : ln ≤ 1099511627776) (cl : Nat) (hL : LC w) (hc3 : cl < 3) (MM : Hk (MOk W H n xs bs)) :
    Calls Tryd.prog 26 #[.agg #[.int .i64 W, .int .i64 H, .slice a n c], .slice la ln lc, .int .i64 cl] w fun e w' => ∃ g, e = .returned (.tuple #[.slice (some ⟨g, 0, none⟩) n n, .int .i64 0]) ∧ w.heap.size ≤ g ∧ Arr w' g n 4 (fun k => .bool (opn W xs bs cl k)) ∧ Below w.heap.size w w' := by
  have HWB : Hk (Below w.heap.size w (w.alloc (.cells #[.int .i64 W, .int .i64 H, .slice a n c] 24))) := ⟨(Below.refl _ _).alloc (Nat.le_refl _) _⟩
  have hNW : w.heap.size + 1 ≤ (w.alloc (.cells #[.int .i64 W, .int .i64 H, .slice a n c] 24)).heap.size := by simp
  have HB : Hk (Below (w.heap.size + 1) (w.alloc (.cells #[.int .i64 W, .int .i64 H, .slice a n c] 24)) (w.alloc (.cells #[.int .i64 W, .int .i64 H, .slice a n c] 24))) := ⟨Below.refl _ _⟩
  have HTR : Hk (∀ X, Below (w.heap.size + 1) (w.alloc (.cells #[.int .i64 W, .int .i64 H, .slice a n c] 24)) X → Below w.heap.size w X) := ⟨fun X hX => HWB.out.trans (hX.mono (by omega))⟩
  have HBY := Hk.mk (fun (X : World) (hX : Below (w.heap.size + 1) (w.alloc (.cells #[.int .i64 W, .int .i64 H, .slice a n c] 24)) X) => h.below (HTR.out X hX) (Nat.le_refl _))
  have HBQ := Hk.mk (fun (X : World) (hX : Below (w.heap.size + 1) (w.alloc (.cells #[.int .i64 W, .int .i64 H, .slice a n c] 24)) X) => hb0.below (HTR.out X hX) (Nat.le_refl _))
  have HLL := Hk.mk (fun (X : World) (hX : Below (w.heap.size + 1) (w.alloc (.cells #[.int .i64 W, .int .i64 H, .slice a n c] 24)) X) => hL.below (HTR.out X hX) (Nat.le_refl _))
  have HY := Hk.mk h
  have info_b : (Tryd.prog.info? 4).map (fun i => (i.zero, i.size, i.bytes)) = some (some (.bool false), 1, 1) := by kernel_rfl
  obtain ⟨i0, hi, hz0, hz1, hz2⟩ := info_parts info_b
  clear info_b h hb0 hL
  have hn16 : n ≤ 16384 := by have := MM.out.g.nn; have := mul_bd MM.out.g.w1 MM.out.g.w2 MM.out.g.h1 MM.out.g.h2; omega
  have d1 : decide ((cl : Int) < 0) = false := by simp
  have d2 : decide ((2 : Int) < (cl : Int)) = false := by simp; omega
  go_enter Tryd.func26, Tryd.ntmps26
  go_wp2_with (first | (go_at_call 58; (with_reducible refine (cov_yes W H a n c xs la ln lc bs _ ?_ ?_ hn hln MM).mono ?_); (exact (HBY.out _ HB.out).mono (hsz1 HB.out)); (exact (HBQ.out _ HB.out).mono (hsz1 HB.out)); rintro e z1 ⟨g1, rfl, hg1, hA1, hb⟩; have HG1 : Hk (w.heap.size + 1 ≤ g1) := ⟨Nat.le_trans (kw_size HB.out hNW) hg1⟩; have HA1 := Hk.mk hA1; clear hA1 hg1; replace HB := Hk.mk (kw_step HB.out hNW hb); clear hb; obtain ⟨hc, hf, hl, hn', hm⟩ := kw_rules HB.out hNW) | (go_at_call 59; (with_reducible refine (terr_any cl _ ?_ hc3).mono ?_); (exact HLL.out _ HB.out); rintro e z2 ⟨rfl, hb⟩; replace HA1 := Hk.mk (HA1.out.later hb); replace HB := Hk.mk (kw_step HB.out hNW hb); clear hb; clear hc hf hl hn' hm) | (at_make; go_must (refine wpList_make_full _ rfl _ _ 51 rfl (w.heap.size + 1) 4 i0 (.bool false) 1 Tryd.underlying51 hi hz0 hz1 .i64 .i64 _ _ n rfl rfl rfl rfl (by rw [hz2]; omega) (by unfold maxLen; omega) (by have := kw_size HB.out hNW; simp; omega) ?_); intro z4 hown hgrow; have hb := below_grown hgrow; have hG6 := six_box hb; have HG20 : Hk (w.heap.size + 1 ≤ z2.heap.size ∧ g1 < z2.heap.size) := ⟨⟨kw_size HB.out hNW, HA1.out.lt⟩⟩; replace HA1 := Hk.mk ((HA1.out.alloc _).later hb); replace HB := Hk.mk (kw_step (HB.out.alloc (kw_size HB.out hNW) _) hNW hb); have HA2 : Hk (Arr z4 (z2.heap.size + 1) n 4 (fun _ => .bool false)) := (by have h9 := Arr.made hown rfl; simpa using Hk.mk h9);  have HP := Hk.mk (z_of hG6); obtain ⟨-, -, -, -, -, -, hPl⟩ := hG6; obtain ⟨hc, hf, hl, hn', hm⟩ := kw_rules HB.out hNW; clear hb hown hgrow))
  generalize hP0 : z2.heap.size = P at *
  have hP1 : ¬ P = P + 1 := by omega
  have HPb := HP.out
  have hg1P : ¬ g1 = P + 1 := by have := HG20.out; omega
  have hwP : ¬ w.heap.size = P + 1 := by have := HG20.out; omega
  have hg1l := HA1.out.lt
  have hwl : w.heap.size < z4.heap.size := by have := HB.out.size; simp at this; omega
  clear hc hf hl hn' hm HPb
  go_loopw [38] (fun i wr => ∃ k : Nat, i = .int .i64 k ∧ k ≤ n ∧ Hk (Fr (fun q => q = P + 1) z4 wr) ∧ Hk (Arr wr (P + 1) n 4 (fun j => .bool (if j < k then opn W xs bs cl j else false)))) (fun i _ => n - (intOf i).toNat)
  case atStart => exact ⟨0, rfl, Nat.zero_le _, ⟨Fr.refl _ _⟩, ⟨HA2.out.congr fun j _ => by rw [if_neg (by omega)]⟩⟩
  case round =>
    clear HA2
    obtain ⟨k, rfl, hk, HF, HA2⟩ := hrel
    obtain ⟨kc, kf, kl, kn, km⟩ := fr_rules HF.out
    by_cases hlt : k < n
    · obtain ⟨bb, off, rfl, hbl, hcc⟩ := HY.out.at_ (by omega)
      have hY4 : By z4 w.heap.size (some ⟨bb, off, none⟩) n xs := HBY.out _ HB.out
      obtain ⟨b2, off2, e2, -, hc4⟩ := hY4.at_ (by omega)
      obtain ⟨rfl, rfl⟩ : b2 = bb ∧ off2 = off := by
        injection e2 with h9
        injection h9 with h7 h8
        exact ⟨h7.symm, h8.symm⟩
      have p0 := hc4 k hlt
      have hx := HY.out.bd hlt
      have hmem := MM.out.g.ts (xs.getD k 0) (getD_mem (by rw [HY.out.len]; exact hlt))
      obtain ⟨x, hxx⟩ : ∃ x : Nat, xs.getD k 0 = x := ⟨(xs.getD k 0).toNat, by omega⟩
      rw [hxx] at p0 hx hmem
      have HX := Hk.mk hxx
      have hbz : b2 < z4.heap.size := by omega
      have hbP : ¬ b2 = P + 1 := by have := HG20.out; omega
      have x0 : (0 : Int) ≤ (x : Int) := by omega
      have x1 : (x : Int) < 6 := by omega
      have c0 := HP.out x (by omega)
      have v0 := HA1.out.cell hlt
      have a0 := HA2.out.cell hlt
      have az := HA2.out.frozen k
      rw [if_neg (by omega)] at a0
      have t0 : (0 : Int) ≤ (k : Int) := by omega
      have t1 : (k : Int) < (n : Int) := by omega
      have HO : Hk (opn W xs bs cl k = (opB cl x && !(cvB W bs k))) := ⟨by unfold opn; rw [HX.out]; simp⟩
      obtain ⟨q1, hq1⟩ : ∃ q1, opB cl x = q1 := ⟨_, rfl⟩
      obtain ⟨q2, hq2⟩ : ∃ q2, cvB W bs k = q2 := ⟨_, rfl⟩
      rw [hq1] at c0 HO
      rw [hq2] at v0 HO
      clear hcc hc4 e2 hY4 hxx hq1 hq2
      cases q1
      all_goals
        go_wp2
        exact ⟨⟨k + 1, by go_num, by omega, ⟨HF.out.setCell (p := ⟨P + 1, k, none⟩) (fun _ => rfl) _⟩, ⟨(HA2.out.set hlt _).congr fun j hj => by
          by_cases e : j = k
          · subst e; rw [if_pos rfl, if_pos (by omega), HO.out]; rfl
          · rw [if_neg e]
            by_cases e2 : j < k
            · rw [if_pos e2, if_pos (by omega)]
            · rw [if_neg e2, if_neg (by omega)]⟩⟩, by simp [intOf]; omega⟩
    · have hkn : k = n := by omega
      subst hkn
      go_wp2
      go_ret2
      exact ⟨P + 1, rfl, by have := HG20.out; omega, HA2.out.congr fun j hj => by rw [if_pos hj], HTR.out _ (frb HB.out hNW HF.out (by have := HG20.out; omega))⟩
end Go.Proofs.YtjjodfdmbiebnaaDoor
