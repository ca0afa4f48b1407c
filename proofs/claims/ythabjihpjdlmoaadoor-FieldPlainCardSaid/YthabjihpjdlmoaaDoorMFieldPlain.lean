import Derived.Deep.QuietTactic
import Derived.BigQuiet
import Derived.Deep.RegionWith
import Derived.Deep.RegionHeld3
import Derived.Deep.DeepCutAuto
import Derived.Deep.DeepFit
import Derived.Outline
import Derived.SevenTiedAt
import Derived.ProofKit
import Derived.LaidMore
import Derived.OpenShut
import Derived.Stop.Joined
import Derived.Test.YthabjihpjdlmoaaDoorFkz
import Derived.Test.YthabjihpjdlmoaaDoorCards
import Derived.Test.YthabjihpjdlmoaaDoorTie
/- For every argument, FieldPlain answers true and leaves its argument as it was: on a plain ground it is as far as the steps say. No condition; the tables of packages kind, tiles and step are tied to the program's text. -/
namespace Go.Proofs.YthabjihpjdlmoaaDoor
open Go.ChangeShapes Go.WideShapes Go.ChangeAt Go.RowKit Go.Deep
set_option linter.unusedVariables false
set_option linter.unusedSimpArgs false
theorem bits_and3 (x : Int) : 0 ≤ bits BinOp.and IntKind.i64 x 3 ∧ bits BinOp.and IntKind.i64 x 3 ≤ 3 := by
  have h : (BitVec.ofInt 64 x &&& BitVec.ofInt 64 3).toNat ≤ 3 := by
    rw [BitVec.toNat_and]; exact Nat.le_trans Nat.and_le_right (by decide)
  have e : bits BinOp.and IntKind.i64 x 3 = IntKind.i64.wrap ((BitVec.ofInt 64 x &&& BitVec.ofInt 64 3).toNat : Int) := rfl
  rw [e, IntKind.wrap_i64]
  omega
theorem xy_bd {W H : Int} {n t : Nat} (hW : 1 ≤ W) (hn : (n : Int) = W * H) (ht : t < n) : 0 ≤ (t : Int) % W ∧ (t : Int) % W < W ∧ 0 ≤ (t : Int) / W ∧ (t : Int) / W < H :=
  ⟨Int.emod_nonneg _ (by omega), Int.emod_lt_of_pos _ (by omega), Int.ediv_nonneg (by omega) (by omega), Int.ediv_lt_of_lt_mul (by omega) (by rw [Int.mul_comm]; omega)⟩
theorem pl_mx {a b A : Int} (h : (if a < b then b else a) = A) : A = max a b := by subst h; split <;> omega
theorem pl_mn {a b A : Int} (h : (if b < a then b else a) = A) : A = min a b := by subst h; split <;> omega
theorem pl_by {X : World} {g n B : Nat} {T : TypeId} (h : Arr X g n T (fun _ => .int .u8 0)) (hg : g < B) : By X B (some ⟨g, 0, none⟩) n (List.replicate n 0) :=
  ⟨by simp, fun b hb => by rw [(List.mem_replicate.1 hb).2]; unfold Fn.Byt; omega, fun hn => ⟨g, 0, rfl, hg, fun k hk => by rw [Nat.zero_add, h.cell hk]; show _ = some (Value.int .u8 ((List.replicate n 0).getD k 0)); rw [zero_at]⟩⟩
theorem make_plain (W H : Int) (a : Option Addr) (n c goal : Nat) (w : World) (hL : LF w) (h : By w w.heap.size a n (List.replicate n 0)) (w1 : 1 ≤ W) (w2 : W ≤ 128) (h1 : 1 ≤ H) (h2 : H ≤ 128) (hn : (n : Int) = W * H) (hg : goal < n) :
    Calls Tryd.prog 28 #[.agg #[.int .i64 W, .int .i64 H, .slice a n c], .slice none 0 0, .int .i64 0, .int .i64 0, .int .i64 goal] w fun e w' => ∃ J, e = .returned (.tuple #[.slice (some ⟨J, 0, none⟩) n n, .int .i64 0]) ∧ w.heap.size ≤ J ∧ Arr w' J n 3 (fun t => .int .i64 (octD W goal t)) ∧ Below w.heap.size w w' := by
  have hb := mul_bd w1 w2 h1 h2
  refine (make_yes W H a n c (List.replicate n 0) none 0 0 [] 0 0 goal w hL h (Bq.nil _ _ _) (by omega) (by omega) (by omega) (by omega) ⟨mok_plain w1 w2 h1 h2 hn⟩ hg).mono ?_
  rintro e z ⟨J, D, rfl, hJ, hA, hT, hb⟩
  refine ⟨J, rfl, hJ, hA.congr fun t ht => ?_, hb⟩
  unfold TabG at hT
  rw [if_pos (gd_plain w1 w2 hn hg)] at hT
  rw [hT.eq (tab_plain w1 hn (fun k hk => gd_plain w1 w2 hn hk) (fun k hk => kc_plain n k) hg) ht]
set_option maxRecDepth 100000 in
set_option maxHeartbeats 3200000 in
theorem fieldPlain_go (W H : Int) (a : Option Addr) (n c : Nat) (xs : List Int) (la : Option Addr) (ln lc : Nat) (bs : List Bd) (x sz : Int) (ta : Option Addr) (tn tc : Nat) (w : World) (hL : LF w) (htn : tn ≤ 9223372036854775807) :
    Calls Tryd.prog 9 #[.agg #[.int .i64 W, .int .i64 H, .slice a n c, .slice la ln lc, .int .i64 x, .int .i64 sz, .slice ta tn tc]] w fun e w' => e = .returned (.bool true) ∧ Below w.heap.size w w' := by
  have info_b : (Tryd.prog.info? 5).map (fun i => (i.zero, i.size, i.bytes)) = some (some (.int .u8 0), 1, 1) := by kernel_rfl
  obtain ⟨i0, hi, hz0, hz1, hz2⟩ := info_parts info_b
  clear info_b
  have HWB : Hk (Below w.heap.size w (w.alloc (.cells #[.int .i64 W, .int .i64 H, .slice a n c, .slice la ln lc, .int .i64 x, .int .i64 sz, .slice ta tn tc] 28))) := ⟨(Below.refl _ _).alloc (Nat.le_refl _) _⟩
  have hNW : w.heap.size + 1 ≤ (w.alloc (.cells #[.int .i64 W, .int .i64 H, .slice a n c, .slice la ln lc, .int .i64 x, .int .i64 sz, .slice ta tn tc] 28)).heap.size := by simp
  have HB : Hk (Below (w.heap.size + 1) (w.alloc (.cells #[.int .i64 W, .int .i64 H, .slice a n c, .slice la ln lc, .int .i64 x, .int .i64 sz, .slice ta tn tc] 28)) (w.alloc (.cells #[.int .i64 W, .int .i64 H, .slice a n c, .slice la ln lc, .int .i64 x, .int .i64 sz, .slice ta tn tc] 28))) := ⟨Below.refl _ _⟩
  have HTR : Hk (∀ X, Below (w.heap.size + 1) (w.alloc (.cells #[.int .i64 W, .int .i64 H, .slice a n c, .slice la ln lc, .int .i64 x, .int .i64 sz, .slice ta tn tc] 28)) X → Below w.heap.size w X) := ⟨fun X hX => HWB.out.trans (hX.mono (by omega))⟩
  have HLF := Hk.mk (fun (X : World) (hX : Below (w.heap.size + 1) (w.alloc (.cells #[.int .i64 W, .int .i64 H, .slice a n c, .slice la ln lc, .int .i64 x, .int .i64 sz, .slice ta tn tc] 28)) X) => hL.below (HTR.out X hX) (Nat.le_refl _))
  clear hL
  go_enter Tryd.func9, Tryd.ntmps9
  go_wp2_with fail
  obtain ⟨m7, hm7, m70, m76⟩ : ∃ m : Int, (tn : Int).tmod 7 = m ∧ 0 ≤ m ∧ m ≤ 6 := ⟨_, rfl, by rw [Int.tmod_eq_emod_of_nonneg (by omega)]; omega, by rw [Int.tmod_eq_emod_of_nonneg (by omega)]; omega⟩
  obtain ⟨b3, hb3, b30, b31⟩ : ∃ b : Int, bits BinOp.and IntKind.i64 sz 3 = b ∧ 0 ≤ b ∧ b ≤ 3 := ⟨_, rfl, bits_and3 sz⟩
  go_loopw [3] (fun i wr => ∃ k : Nat, i = .int .i64 k ∧ k ≤ 3 ∧ Hk (Below (w.heap.size + 1) (w.alloc (.cells #[.int .i64 W, .int .i64 H, .slice a n c, .slice la ln lc, .int .i64 x, .int .i64 sz, .slice ta tn tc] 28)) wr)) (fun i _ => (3 - intOf i).toNat)
  case atStart => exact ⟨0, rfl, by omega, HB⟩
  case round =>
    clear HB
    obtain ⟨k, rfl, k3, HB⟩ := hrel
    obtain ⟨hc, hf, hl, hn', hm⟩ := kw_rules HB.out hNW
    by_cases hk : k < 3
    · have bk : decide ((k : Int) < 3) = true := by simp; omega
      obtain ⟨A1, hA1⟩ : ∃ q, 1 + m7 = q := ⟨_, rfl⟩
      obtain ⟨B1, hB1⟩ : ∃ q, 1 + b3 = q := ⟨_, rfl⟩
      obtain ⟨K2, hK2⟩ : ∃ q, 2 * (k : Int) = q := ⟨_, rfl⟩
      obtain ⟨Wd, hWd⟩ : ∃ q, A1 + (k : Int) = q := ⟨_, rfl⟩
      obtain ⟨Hd, hHd⟩ : ∃ q, B1 + K2 = q := ⟨_, rfl⟩
      have wk1 : IntKind.i64.wrap A1 = A1 := by rw [IntKind.wrap_i64]; omega
      have wk2 : IntKind.i64.wrap B1 = B1 := by rw [IntKind.wrap_i64]; omega
      have wk3 : IntKind.i64.wrap K2 = K2 := by rw [IntKind.wrap_i64]; omega
      have wk4 : IntKind.i64.wrap Wd = Wd := by rw [IntKind.wrap_i64]; omega
      have wk5 : IntKind.i64.wrap Hd = Hd := by rw [IntKind.wrap_i64]; omega
      have w1 : 1 ≤ Wd := by omega
      have w2 : Wd ≤ 9 := by omega
      have h1 : 1 ≤ Hd := by omega
      have h2 : Hd ≤ 8 := by omega
      obtain ⟨mb1, mb2⟩ := mul_bd w1 (by omega) h1 (by omega)
      obtain ⟨N, hN⟩ : ∃ N : Nat, Wd * Hd = N := ⟨(Wd * Hd).toNat, by omega⟩
      have n77 : N ≤ 72 := by
        have := Int.mul_le_mul w2 h2 (by omega) (by omega)
        omega
      have n1 : 1 ≤ N := by omega
      have wkn : IntKind.i64.wrap (N : Int) = (N : Int) := by rw [IntKind.wrap_i64]; omega
      go_wp2_with fail
      go_quiet (fail)
      replace HB := Hk.mk (below_drewN HB.out nq)
      generalize World.drewN wr nq = VR at *
      clear hc hf hl hn' hm
      obtain ⟨hc, hf, hl, hn', hm⟩ := kw_rules HB.out hNW
      go_wp2_with (first | (at_make; go_must (refine wpList_make_full _ rfl _ _ 22 rfl (w.heap.size + 1) 5 i0 (.int .u8 0) 1 Tryd.underlying22 hi hz0 hz1 .i64 .i64 _ _ N rfl rfl rfl rfl (by rw [hz2]; omega) (by unfold maxLen; omega) (kw_size HB.out hNW) ?_); intro z1 hown hgrow; have HA := Hk.mk (Arr.made hown rfl (z := .int .u8 0)); have HZ1 := Hk.mk (HB.out.trans ((below_grown hgrow).mono (kw_size HB.out hNW))); have HGN : Hk (w.heap.size + 1 ≤ VR.heap.size) := ⟨kw_size HB.out hNW⟩; have HGP := Hk.mk HA.out.lt; clear hown hgrow))
      have HA5 : Hk (Arr (z1.alloc (.cells #[.int .i64 Wd, .int .i64 Hd, .slice (some ⟨VR.heap.size, 0, none⟩) N N] 24)) VR.heap.size N 5 (fun _ => .int .u8 0)) := ⟨HA.out.alloc _⟩
      have HV : Hk (Below (w.heap.size + 1) ((w.alloc (.cells #[.int .i64 W, .int .i64 H, .slice a n c, .slice la ln lc, .int .i64 x, .int .i64 sz, .slice ta tn tc] 28))) (z1.alloc (.cells #[.int .i64 Wd, .int .i64 Hd, .slice (some ⟨VR.heap.size, 0, none⟩) N N] 24))) := ⟨HZ1.out.alloc (by have := HGN.out; have := HGP.out; omega) _⟩
      have D0 : (z1.alloc (.cells #[.int .i64 Wd, .int .i64 Hd, .slice (some ⟨VR.heap.size, 0, none⟩) N N] 24)).cell? ⟨z1.heap.size, 0, none⟩ = some (.int .i64 Wd) := by go_simp
      have D1 : (z1.alloc (.cells #[.int .i64 Wd, .int .i64 Hd, .slice (some ⟨VR.heap.size, 0, none⟩) N N] 24)).cell? ⟨z1.heap.size, 1, none⟩ = some (.int .i64 Hd) := by go_simp
      have D2 : (z1.alloc (.cells #[.int .i64 Wd, .int .i64 Hd, .slice (some ⟨VR.heap.size, 0, none⟩) N N] 24)).cell? ⟨z1.heap.size, 2, none⟩ = some (.slice (some ⟨VR.heap.size, 0, none⟩) N N) := by go_simp
      have D3 : z1.heap.size < (z1.alloc (.cells #[.int .i64 Wd, .int .i64 Hd, .slice (some ⟨VR.heap.size, 0, none⟩) N N] 24)).heap.size := by simp
      clear HB hc hf hl hn' hm HA HZ1 HGN HGP
      generalize (z1.alloc (.cells #[.int .i64 Wd, .int .i64 Hd, .slice (some ⟨VR.heap.size, 0, none⟩) N N] 24)) = V at *
      generalize z1.heap.size = P at *
      generalize VR.heap.size = G at *
      have HBV : Hk (∀ X, Below V.heap.size V X → By X V.heap.size (some ⟨G, 0, none⟩) N (List.replicate N 0)) := ⟨fun X hX => pl_by (HA5.out.later hX) HA5.out.lt⟩
      have HLX : Hk (∀ X, Below V.heap.size V X → LF X) := ⟨fun X hX => HLF.out _ (HV.out.trans (hX.mono (kw_size HV.out hNW)))⟩
      have w128 : Wd ≤ 128 := by omega
      have h128 : Hd ≤ 128 := by omega
      have HNN : Hk ((N : Int) = Wd * Hd) := ⟨hN.symm⟩
      have n5 : (N : Int).tdiv 5 = (N : Int) / 5 := Int.tdiv_eq_ediv_of_nonneg (by omega)
      obtain ⟨q5, hq5, q50, q51⟩ : ∃ q : Nat, (N : Int) / 5 = q ∧ 0 ≤ q ∧ q ≤ 72 := ⟨((N : Int) / 5).toNat, by omega, by omega, by omega⟩
      rw [hq5] at n5
      clear hq5 HA5
      have wk6 : IntKind.i64.wrap (q5 : Int) = (q5 : Int) := by rw [IntKind.wrap_i64]; omega
      go_loopw [7] (fun i wr => ∃ goal : Nat, i = .int .i64 goal ∧ goal ≤ 300 ∧ Hk (Below V.heap.size V wr)) (fun i _ => (300 - intOf i).toNat)
      case atStart => exact ⟨0, rfl, by omega, ⟨Below.refl _ _⟩⟩
      case round =>
        obtain ⟨goal, rfl, hg3, HC⟩ := hrel
        obtain ⟨hc, hf, hl, hn', hm⟩ := kw_rules HC.out (Nat.le_refl _)
        by_cases hgn : goal < N
        · have cb : decide ((goal : Int) < (N : Int)) = true := by simp; omega
          go_wp2_with (first
            | (go_at_call 28; (with_reducible refine (make_plain Wd Hd (some ⟨G, 0, none⟩) N N goal _ ?_ ?_ w1 w128 h1 h128 HNN.out hgn).mono ?_); (exact HLX.out _ HC.out); (exact (HBV.out _ HC.out).mono HC.out.size); rintro e z2 ⟨J, rfl, hJ, hA, hb⟩; have HA1 := Hk.mk hA; have HBJ : Hk (V.heap.size ≤ J) := ⟨Nat.le_trans HC.out.size hJ⟩; replace HC := Hk.mk (kw_step HC.out (Nat.le_refl _) hb); clear hJ hA hb hc hf hl hn' hm; obtain ⟨hc, hf, hl, hn', hm⟩ := kw_rules HC.out (Nat.le_refl _))
            | (go_at_call 21; (with_reducible refine (num13_any _ _).mono ?_); rintro e z ⟨rfl, rfl⟩))
          have HA1 := HA1
          have HC := HC
          clear hc hf hl hn' hm
          obtain ⟨gx0, gx1, gy0, gy1⟩ := xy_bd w1 HNN.out hgn
          have gtm : (goal : Int).tmod Wd = (goal : Int) % Wd := Int.tmod_eq_emod_of_nonneg (by omega)
          have gtd : (goal : Int).tdiv Wd = (goal : Int) / Wd := Int.tdiv_eq_ediv_of_nonneg (by omega)
          obtain ⟨gx, hgx⟩ : ∃ q, (goal : Int) % Wd = q := ⟨_, rfl⟩
          obtain ⟨gy, hgy⟩ : ∃ q, (goal : Int) / Wd = q := ⟨_, rfl⟩
          have HG : Hk ((goal : Int) % Wd = gx ∧ (goal : Int) / Wd = gy) := ⟨hgx, hgy⟩
          rw [hgx] at gtm gx0 gx1
          rw [hgy] at gtd gy0 gy1
          clear hgx hgy
          have hW0 : ¬ Wd = 0 := by omega
          obtain ⟨zz, rfl⟩ : ∃ zz : World, zz = z2 := ⟨z2, rfl⟩
          have HCZ : Hk (∀ X, Below zz.heap.size zz X → Below V.heap.size V X) := ⟨fun X hX => HC.out.trans (hX.mono HC.out.size)⟩
          clear HC
          go_loopw [10] (fun i wr => ∃ t : Nat, i = .int .i64 t ∧ t ≤ N ∧ Hk (Below zz.heap.size zz wr)) (fun i _ => N - (intOf i).toNat)
          case atStart => exact ⟨0, rfl, by omega, ⟨Below.refl _ _⟩⟩
          case round =>
            obtain ⟨t, rfl, ht, HC⟩ := hrel
            obtain ⟨hc, hf, hl, hn', hm⟩ := kw_rules HC.out (Nat.le_refl _)
            by_cases hlt : t < N
            · have t0 : (0 : Int) ≤ (t : Int) := by omega
              have t1 : (t : Int) < (N : Int) := by omega
              obtain ⟨x0, x1, y0, y1⟩ := xy_bd w1 HNN.out hlt
              have tm : (t : Int).tmod Wd = (t : Int) % Wd := Int.tmod_eq_emod_of_nonneg (by omega)
              have td : (t : Int).tdiv Wd = (t : Int) / Wd := Int.tdiv_eq_ediv_of_nonneg (by omega)
              have hiz : J < zz.heap.size := HA1.out.lt
              have c1 := HA1.out.cell hlt
              unfold octD at c1
              rw [HG.out.1, HG.out.2] at c1
              generalize (t : Int) % Wd = x at *
              generalize (t : Int) / Wd = y at *
              obtain ⟨A, mA⟩ : ∃ A, (if x - gx < -(x - gx) then -(x - gx) else x - gx) = A := ⟨_, rfl⟩
              obtain ⟨B, mB⟩ : ∃ A, (if y - gy < -(y - gy) then -(y - gy) else y - gy) = A := ⟨_, rfl⟩
              obtain ⟨C, mC⟩ : ∃ C, (if B < A then B else A) = C := ⟨_, rfl⟩
              obtain ⟨D, mD⟩ : ∃ A', (if A < B then B else A) = A' := ⟨_, rfl⟩
              have e1 := pl_mx mA
              have e2 := pl_mx mB
              have e3 := pl_mn mC
              have e4 := pl_mx mD
              have hv := octV_eq (x - gx) (y - gy) A B e1 e2
              rw [← e3, ← e4] at hv
              have bA : 0 ≤ A ∧ A ≤ 20 := by omega
              have bB : 0 ≤ B ∧ B ≤ 20 := by omega
              have bC : 0 ≤ C ∧ C ≤ 20 := by omega
              have bD : 0 ≤ D ∧ D ≤ 20 := by omega
              generalize octV (x - gx) (y - gy) = v at *
              clear e1 e2 e3 e4
              go_wp2_with fail
              go_quiet (fail)
              go_wp2_with fail
              exact ⟨⟨t + 1, by go_num, by omega, ⟨below_drewN HC.out _⟩⟩, by simp [intOf]; omega⟩
            · obtain rfl : t = N := by omega
              go_wp2_with fail
              exact ⟨⟨goal + 1 + q5, by go_num, by omega, ⟨HCZ.out _ HC.out⟩⟩, by simp [intOf]; omega⟩
        · have cb : decide ((goal : Int) < (N : Int)) = false := by simp; omega
          go_wp2_with fail
          exact ⟨⟨k + 1, by go_num, by omega, ⟨HV.out.trans (HC.out.mono (kw_size HV.out hNW))⟩⟩, by simp [intOf]; omega⟩
    · obtain rfl : k = 3 := by omega
      go_wp2_with (go_at_call 24; (with_reducible refine (wakes13_any _ (HLF.out _ HB.out)).mono ?_); rintro e z ⟨rfl, hb⟩; replace HB := Hk.mk (kw_step HB.out hNW hb); clear hb; clear hc hf hl hn' hm; obtain ⟨hc, hf, hl, hn', hm⟩ := kw_rules HB.out hNW)
      go_ret
      exact ⟨rfl, HTR.out _ HB.out⟩
theorem fieldPlain_walk (v : Value) (w : World) (hL : LF w) (rows : Asks13 w v) :
    Calls Tryd.prog 9 #[v] w fun e w' => e = .returned (.bool true) ∧ Below w.heap.size w w' := by
  obtain ⟨W, H, a, n, c, xs, la, ln, lc, bs, x, sz, ta, tn, tc, ts, rfl, hn, hln, htn, hlc, hW, hH, hx, hsz, hby, hbq, hnq⟩ := rows
  exact fieldPlain_go W H a n c xs la ln lc bs x sz ta tn tc w hL (by omega)

theorem fieldPlain_own : ownKnob Tryd.prog.godebug = none := by kernel_rfl
theorem fieldPlain_laidOut : laidOutB Tryd.prog = true := by kernel_rfl
theorem fieldPlain_door (os : Os) (args : Array Value) : laidMetH Tryd.prog [("throng/kind.costs", Rows.laid_throng_kind_costs), ("throng/tiles.offsets", Rows.laid_throng_tiles_offsets), ("throng/step.sides", Rows.laid_throng_step_sides)] ((World.doorLaid Tryd.prog 400 os).forCall (fun _ _ => 0) ⟨#[], args, []⟩).memory :=
  laidMetH_of_parts3 (fuel := 8) (laidMet_of_run' 8 (by kernel_rfl) (by kernel_rfl)) (by kernel_rfl) (by kernel_rfl)
set_option maxRecDepth 100000 in
theorem fieldPlain_lifted (os : Os) (started : os.Started) (H : Type) (enc : TypeId × Value → H) :
    ReturnsInHanded {} Tryd.checked os 9 .any (fun w args => (Rows.fieldPlainSpec.pre enc Tryd.prog Tryd.f9 [] false w args ∧ laidMetH Tryd.prog [("throng/kind.costs", Rows.laid_throng_kind_costs), ("throng/tiles.offsets", Rows.laid_throng_tiles_offsets), ("throng/step.sides", Rows.laid_throng_step_sides)] w) ∧ sizedMet enc Tryd.prog Tryd.f9 (OpenSpec.ofChange Rows.fieldPlainSpec) false w args)
      (Rows.fieldPlainSpec.post enc Tryd.prog Tryd.f9 false true false false) := by
  refine returnsInHanded_of_change_and (C := Tryd.checked) (X := fun w _ => laidMetH Tryd.prog [("throng/kind.costs", Rows.laid_throng_kind_costs), ("throng/tiles.offsets", Rows.laid_throng_tiles_offsets), ("throng/step.sides", Rows.laid_throng_step_sides)] w) (fun _ _ _ hh h => h.of_heap hh) fieldPlain_own started (by kernel_rfl) Tryd.func9
    (ChangeSpec.witness_shaped (enc := enc) (C := Tryd.checked) (os := os) (X := fun w _ => laidMetH Tryd.prog [("throng/kind.costs", Rows.laid_throng_kind_costs), ("throng/tiles.offsets", Rows.laid_throng_tiles_offsets), ("throng/step.sides", Rows.laid_throng_step_sides)] w) false (World.doorLaid Tryd.prog 400 os) #[.agg #[.int .i64 0, .int .i64 0, .slice none 0 0, .slice none 0 0, .int .i64 0, .int .i64 0, .slice none 0 0]] 8 rfl (World.shaped_of_RefB (by kernel_rfl) (by kernel_rfl)) (by kernel_rfl) (by kernel_rfl) (by kernel_rfl) (fieldPlain_door os _)) ?_
  intro W base args ds gs before hval0 hW _ _ hL _
  have hval : ∀ (j : Nat) t v, Tryd.f9.params[j]? = some t → args[j]? = some v → Value.okWide Tryd.prog W .any base t v := hval0
  have hW' := hW
  obtain ⟨p, q, hA0, hV, rfl, hfz, hnd⟩ := hW
  have hA : DataW.TrodAll enc Tryd.prog W 0 (fun _ => true) true Tryd.f9.params.toList args.toList ds p := hA0
  rw [Tryd.params9] at hA hval
  obtain ⟨v0, vs0, d0, ds0, p0, q0, hargs, rfl, rfl, h0, r0⟩ := trodAll_cons hA
  obtain ⟨rfl, rfl, rfl⟩ := trodAll_nil r0
  obtain rfl : args = #[v0] := by cases args; simp_all
  obtain ⟨rfl, rfl⟩ := trodVars_none hV
  obtain ⟨cs0, rfl, hcs0⟩ := okWide_struct Tryd.underlying28 (hval 0 28 v0 rfl rfl)
  have k0 := h0
  have lt0 : ∀ x ∈ p0, x.block < W.heap.size := by obtain ⟨m, hm⟩ := k0; exact DataW.trod_lt m _ _ _ hm
  have rows : Asks13 W (.agg cs0) := by obtain ⟨fuel, hf⟩ := h0; exact asks13_of hcs0 hf
  clear hA0 hval0
  refine (fieldPlain_walk (.agg cs0) W (of_laidF hL) rows).mono fun e W' ⟨he, bel⟩ => ?_
  subst he
  exact ⟨_, rfl, _, _, _, [], _, [], hW', trodAll_mk1 (shut_bool Tryd.underlying4 _), (trodAll_cons_mk (Below.trod fieldPlain_laidOut (by kernel_rfl) (of_decide_eq_true (by kernel_rfl)) k0 bel lt0) trodAll_mk0), rfl, bel.frame _, fun h => by cases h⟩
theorem fieldPlain_over : Rows.FieldPlainSaid :=
  OpenClaim.holds_of_wide 9 Tryd.f9 rfl rfl rfl rfl rfl rfl rfl ⟨rfl, rfl, rfl, rfl, rfl⟩ rfl rfl rfl rfl rfl (by kernel_rfl) Tryd.func9 (by kernel_rfl)
    (of_decide_eq_true (by kernel_rfl)) (by unfold Func.isWrapper; first | (rw [if_pos (by decide +kernel)]; kernel_rfl) | (rw [if_neg (by decide +kernel)]; exact ⟨rfl, rfl⟩))
    (fun os started H enc _ => fieldPlain_lifted os started H enc)
/-- The given card of FieldPlain. -/
theorem fieldPlain_card : Rows.FieldPlainCardSaid :=
  Claim7.holds_tied_plain_at .later [] [.data, .data, .data] true (true, "90ed51393f35b406bdee0705b6f0a8d051456ef454f3ffd6e600d1670cebcd34") false
    fieldPlain_over (fun _ h => by cases h) (by kernel_rfl) (fun _ h => by cases h) fieldPlain_row_tie rfl ⟨rfl, rfl⟩ (by kernel_rfl) rfl
    (fun f fn hf hfn => by
      obtain rfl : f = 9 := Option.some.inj ((show Tryd.prog.funcNamed "throng/thronglaw13.FieldPlain" = some 9 by kernel_rfl).symm.trans hf) |>.symm
      obtain rfl : fn = Tryd.f9 := (Option.some.inj (Tryd.func9.symm.trans hfn)).symm
      exact ⟨by kernel_rfl, fun j t ht => by
        rw [Tryd.params9] at ht
        have hm : t ∈ [28] := by simpa using Array.mem_of_getElem? ht
        have hall : ([28].all fun u => !Tryd.prog.wantsStandIn u) = true := by kernel_rfl
        exact (show Tryd.prog.wantsStandIn t = false by simpa using List.all_eq_true.1 hall t hm)⟩)
    (by kernel_rfl)
end Go.Proofs.YthabjihpjdlmoaaDoor

