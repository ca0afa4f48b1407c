/- For every argument, ClearWalls answers true and leaves its argument as it was: one rock on open ground. No condition; the table of package kind is tied to the program's text. -/
import Derived.Test.YtjjodfdmbiebnaaDoorClu
import Derived.Deep.QuietTactic
import Derived.BigQuiet
import Derived.Deep.RegionWith
import Derived.Deep.RegionHeld3
import Derived.Deep.DeepCutAuto
import Derived.Deep.DeepFit
import Derived.Outline
import Derived.Test.YtjjodfdmbiebnaaDoorCards
import Derived.Test.YtjjodfdmbiebnaaDoorTie
import Derived.SevenTiedAt
import Derived.ProofKit
import Derived.LaidMore
import Derived.OpenShut
import Derived.Stop.Joined
namespace Go.Proofs.YtjjodfdmbiebnaaDoor
open Go.ChangeShapes Go.WideShapes Go.ChangeAt Go.RowKit Go.Deep
set_option linter.unusedVariables false
set_option linter.unusedSimpArgs false
/-- On open ground with one rock: how far it is to the rock and to the edges. -/
theorem sC_rock {W H : Int} (w2 : W ≤ 128) (w1 : 1 ≤ W) {n t rock : Nat} (nn : (n : Int) = W * H) (ht : t < n) (hr : rock < n) {f : Nat → Bool} (hf : ∀ k, k < n → f k = decide (k ≠ rock)) {x y rx ry : Int} (hA : At W H n t x y) (hR : At W H n rock rx ry) (s : Nat) :
    s ≤ sC W H f t ↔ ((s : Int) ≤ x + 1 ∧ (s : Int) ≤ W - x ∧ (s : Int) ≤ y + 1 ∧ (s : Int) ≤ H - y ∧ ((s : Int) ≤ x - rx ∨ (s : Int) ≤ rx - x ∨ (s : Int) ≤ y - ry ∨ (s : Int) ≤ ry - y)) := by
  unfold sC
  rw [hA.m, hA.d, sV_iff w2]
  have x0 := hA.x0; have x1 := hA.x1; have y0 := hA.y0; have y1 := hA.y1
  match s with
  | 0 =>
    simp only [sqB, true_iff]
    omega
  | r + 1 =>
    rw [sq_iff]
    constructor
    · intro h
      have a1 := opXY_in (h (-(r : Int)) (-(r : Int)) (by omega) (by omega) (by omega) (by omega))
      have a2 := opXY_in (h r r (by omega) (by omega) (by omega) (by omega))
      refine ⟨by omega, by omega, by omega, by omega, ?_⟩
      apply Classical.byContradiction
      intro hn
      have := h (rx - x) (ry - y) (by omega) (by omega) (by omega) (by omega)
      rw [show x + (rx - x) = rx by omega, show y + (ry - y) = ry by omega, op_at hR, hf rock hr] at this
      simp at this
    · rintro ⟨a, b, c, d, e⟩ i j i1 i2 j1 j2
      have := at_lt (W := W) (H := H) (n := n) w1 nn (x := x + i) (y := y + j) (by omega) (by omega) (by omega) (by omega)
      obtain ⟨k, hk⟩ : ∃ k : Nat, x + i + W * (y + j) = k := ⟨(x + i + W * (y + j)).toNat, by omega⟩
      rw [op_in (k := k) (by omega) (by omega) (by omega) (by omega) hk, hf k (by omega)]
      simp only [decide_eq_true_eq, ne_eq]
      rintro rfl
      have h1 := xy_at' hk.symm (by omega) (by omega)
      have h2 := hR.m; have h3 := hR.d
      rw [h1.1] at h2; rw [h1.2] at h3
      omega
def rkL (n rock : Nat) : List Int := (List.range n).map fun j => if j = rock then 5 else 0
theorem rk_getD {n rock k : Nat} (hk : k < n) : (rkL n rock).getD k 0 = if k = rock then 5 else 0 := by
  unfold rkL; simp [List.getD, hk]
theorem rk_mem {n rock : Nat} {x : Int} (h : x ∈ rkL n rock) : x = 5 ∨ x = 0 := by
  unfold rkL at h; obtain ⟨j, _, rfl⟩ := List.mem_map.1 h; split <;> simp
theorem rk_ok (W H : Int) (n rock : Nat) (w1 : 1 ≤ W) (w2 : W ≤ 128) (h1 : 1 ≤ H) (h2 : H ≤ 128) (hn : (n : Int) = W * H) : MOk W H n (rkL n rock) [] :=
  ⟨⟨w1, w2, h1, h2, hn, fun x hx => by rcases rk_mem hx with rfl | rfl <;> omega⟩, by simp, fun k hk => by simp at hk, by simp, by simp, by simp, fun i j h1 h2 => by simp at h2⟩
theorem rk_by {X : World} {g n B rock : Nat} {T : TypeId} (h : Arr X g n T (fun j => if j = rock then .int .u8 5 else .int .u8 0)) (hg : g < B) : By X B (some ⟨g, 0, none⟩) n (rkL n rock) :=
  ⟨by simp [rkL], fun b hb => by rcases rk_mem hb with rfl | rfl <;> (unfold Fn.Byt; omega), fun hn => ⟨g, 0, rfl, hg, fun k hk => by rw [Nat.zero_add, h.cell hk]; congr 1; show _ = Value.int .u8 ((rkL n rock).getD k 0); rw [rk_getD hk]; split <;> rfl⟩⟩
theorem rk_opn {W : Int} {n rock c k : Nat} (hc : c < 3) (hk : k < n) : opn W (rkL n rock) [] c k = decide (k ≠ rock) := by
  unfold opn
  rw [rk_getD hk]
  have h3 : c = 0 ∨ c = 1 ∨ c = 2 := by omega
  by_cases e : k = rock
  · rw [if_pos e]; subst e; rcases h3 with rfl | rfl | rfl <;> simp [cvB] <;> decide
  · rw [if_neg e]; rcases h3 with rfl | rfl | rfl <;> simp [cvB, e] <;> decide
theorem mx_of {a b A : Int} (h : (if a < b then b else a) = A) : a ≤ A ∧ b ≤ A ∧ (A = a ∨ A = b) := by subst h; split <;> omega
theorem mn_of {a b A : Int} (h : (if b < a then b else a) = A) : A ≤ a ∧ A ≤ b ∧ (A = a ∨ A = b) := by subst h; split <;> omega
theorem bits_and15 (x : Int) : 0 ≤ bits BinOp.and IntKind.i64 x 15 ∧ bits BinOp.and IntKind.i64 x 15 ≤ 15 := by
  have h : (BitVec.ofInt 64 x &&& BitVec.ofInt 64 15).toNat ≤ 15 := by
    rw [BitVec.toNat_and]; exact Nat.le_trans Nat.and_le_right (by decide)
  have e : bits BinOp.and IntKind.i64 x 15 = IntKind.i64.wrap ((BitVec.ofInt 64 x &&& BitVec.ofInt 64 15).toNat : Int) := rfl
  rw [e, IntKind.wrap_i64]
  omega
set_option maxRecDepth 100000 in
set_option maxHeartbeats 3200000 in
theorem clearWalls_go (W H : Int) (a : Option Addr) (n c : Nat) (xs : List Int) (la : Option Addr) (ln lc : Nat) (bs : List Bd) (x : Int) (w : World) (hL : LC w) (h : By w w.heap.size a n xs) (hb0 : Bq w w.heap.size la ln bs) (hln : ln ≤ 9223372036854775807) :
    Calls Tryd.prog 9 #[.agg #[.int .i64 W, .int .i64 H, .slice a n c, .slice la ln lc, .int .i64 x]] w fun e w' => e = .returned (.bool true) ∧ Below w.heap.size w w' := by
  have info_b : (Tryd.prog.info? 5).map (fun i => (i.zero, i.size, i.bytes)) = some (some (.int .u8 0), 1, 1) := by kernel_rfl
  obtain ⟨i0, hi, hz0, hz1, hz2⟩ := info_parts info_b
  clear info_b
  have HWB : Hk (Below w.heap.size w (w.alloc (.cells #[.int .i64 W, .int .i64 H, .slice a n c, .slice la ln lc, .int .i64 x] 48))) := ⟨(Below.refl _ _).alloc (Nat.le_refl _) _⟩
  have hNW : w.heap.size + 1 ≤ (w.alloc (.cells #[.int .i64 W, .int .i64 H, .slice a n c, .slice la ln lc, .int .i64 x] 48)).heap.size := by simp
  have HB : Hk (Below (w.heap.size + 1) (w.alloc (.cells #[.int .i64 W, .int .i64 H, .slice a n c, .slice la ln lc, .int .i64 x] 48)) (w.alloc (.cells #[.int .i64 W, .int .i64 H, .slice a n c, .slice la ln lc, .int .i64 x] 48))) := ⟨Below.refl _ _⟩
  have HTR : Hk (∀ X, Below (w.heap.size + 1) (w.alloc (.cells #[.int .i64 W, .int .i64 H, .slice a n c, .slice la ln lc, .int .i64 x] 48)) X → Below w.heap.size w X) := ⟨fun X hX => HWB.out.trans (hX.mono (by omega))⟩
  have HBY := Hk.mk (fun (X : World) (hX : Below (w.heap.size + 1) (w.alloc (.cells #[.int .i64 W, .int .i64 H, .slice a n c, .slice la ln lc, .int .i64 x] 48)) X) => h.below (HTR.out X hX) (Nat.le_refl _))
  have HBQ := Hk.mk (fun (X : World) (hX : Below (w.heap.size + 1) (w.alloc (.cells #[.int .i64 W, .int .i64 H, .slice a n c, .slice la ln lc, .int .i64 x] 48)) X) => hb0.below (HTR.out X hX) (Nat.le_refl _))
  have HLC := Hk.mk (fun (X : World) (hX : Below (w.heap.size + 1) (w.alloc (.cells #[.int .i64 W, .int .i64 H, .slice a n c, .slice la ln lc, .int .i64 x] 48)) X) => hL.below (HTR.out X hX) (Nat.le_refl _))
  clear h hb0 hL HBY HBQ
  go_enter Tryd.func9, Tryd.ntmps9
  go_wp2_with fail
  obtain ⟨m3, hm3, m30, m32⟩ : ∃ m : Int, (ln : Int).tmod 3 = m ∧ 0 ≤ m ∧ m ≤ 2 := ⟨_, rfl, by rw [Int.tmod_eq_emod_of_nonneg (by omega)]; omega, by rw [Int.tmod_eq_emod_of_nonneg (by omega)]; omega⟩
  go_loopw [3] (fun i wr => ∃ k : Nat, i = .int .i64 k ∧ k ≤ 4 ∧ Hk (Below (w.heap.size + 1) (w.alloc (.cells #[.int .i64 W, .int .i64 H, .slice a n c, .slice la ln lc, .int .i64 x] 48)) wr)) (fun i _ => (4 - intOf i).toNat)
  case atStart => exact ⟨0, rfl, by omega, HB⟩
  case round =>
    clear HB
    obtain ⟨k, rfl, k4, HB⟩ := hrel
    obtain ⟨hc, hf, hl, hn', hm⟩ := kw_rules HB.out hNW
    by_cases hk : k < 4
    · have bk : decide ((k : Int) < 4) = true := by simp; omega
      have wk1 : IntKind.i64.wrap ((k : Int) * 2) = (k : Int) * 2 := by rw [IntKind.wrap_i64]; omega
      have wk2 : IntKind.i64.wrap (3 + (k : Int) * 2) = 3 + (k : Int) * 2 := by rw [IntKind.wrap_i64]; omega
      obtain ⟨Wd, hWd⟩ : ∃ Wd, 3 + (k : Int) * 2 + m3 = Wd := ⟨_, rfl⟩
      obtain ⟨Hd, hHd⟩ : ∃ Hd, 4 + (k : Int) = Hd := ⟨_, rfl⟩
      have wk3 : IntKind.i64.wrap (3 + (k : Int) * 2 + m3) = Wd := by rw [IntKind.wrap_i64]; omega
      have wk4 : IntKind.i64.wrap (4 + (k : Int)) = Hd := by rw [IntKind.wrap_i64]; omega
      have w1 : 1 ≤ Wd := by omega
      have w2 : Wd ≤ 11 := by omega
      have h1 : 1 ≤ Hd := by omega
      have h2 : Hd ≤ 7 := by omega
      clear hWd hHd
      obtain ⟨mb1, mb2⟩ := mul_bd w1 (by omega) h1 (by omega)
      obtain ⟨N, hN⟩ : ∃ N : Nat, Wd * Hd = N := ⟨(Wd * Hd).toNat, by omega⟩
      have n77 : N ≤ 77 := by
        have := Int.mul_le_mul w2 h2 (by omega) (by omega)
        omega
      have n1 : 1 ≤ N := by omega
      obtain ⟨b15, hb15, b0, b1⟩ : ∃ b : Int, bits BinOp.and IntKind.i64 x 15 = b ∧ 0 ≤ b ∧ b ≤ 15 := ⟨_, rfl, bits_and15 x⟩
      obtain ⟨rock, hrk, rk1⟩ : ∃ r : Nat, ((k : Int) * 7 + b15).tmod (N : Int) = r ∧ r < N := by
        rw [Int.tmod_eq_emod_of_nonneg (by omega)]
        have := Int.emod_nonneg ((k : Int) * 7 + b15) (show (N : Int) ≠ 0 by omega)
        have := Int.emod_lt_of_pos ((k : Int) * 7 + b15) (show (0 : Int) < N by omega)
        exact ⟨(((k : Int) * 7 + b15) % N).toNat, by omega, by omega⟩
      have wk5 : IntKind.i64.wrap ((k : Int) * 7 + b15) = (k : Int) * 7 + b15 := by rw [IntKind.wrap_i64]; omega
      have r0 : (0 : Int) ≤ (rock : Int) := by omega
      have r1 : (rock : Int) < (N : Int) := by omega
      have hN0 : ¬ (N : Int) = 0 := by omega
      go_wp2_with (first | (at_make; go_must (refine wpList_make_full _ rfl _ _ 22 rfl (w.heap.size + 1) 5 i0 (.int .u8 0) 1 Tryd.underlying22 hi hz0 hz1 .i64 .i64 _ _ N rfl rfl rfl rfl (by rw [hz2]; omega) (by unfold maxLen; omega) (kw_size HB.out hNW) ?_); intro z1 hown hgrow; have HA := Hk.mk (Arr.made hown rfl (z := .int .u8 0)); have HZ1 := Hk.mk (HB.out.trans ((below_grown hgrow).mono (kw_size HB.out hNW))); have HGN : Hk (w.heap.size + 1 ≤ wr.heap.size) := ⟨kw_size HB.out hNW⟩; have HGP := Hk.mk HA.out.lt; have hlt1 : w.heap.size < z1.heap.size := (by have := HGN.out; have := HGP.out; omega); have D4 : z1.cell? ⟨w.heap.size, 4, none⟩ = some (.int .i64 x) := (by rw [HZ1.out.cell (p := ⟨w.heap.size, 4, none⟩) (by show w.heap.size < _; omega)]; go_simp); have D5 := HA.out.cell rk1; have D6 := HA.out.frozen rock; have D7 : wr.heap.size < z1.heap.size := HGP.out; clear hown hgrow))
      have HA5 : Hk (Arr ((z1.setCell ⟨wr.heap.size, rock, none⟩ (.int .u8 5)).alloc (.cells #[.int .i64 Wd, .int .i64 Hd, .slice (some ⟨wr.heap.size, 0, none⟩) N N] 24)) wr.heap.size N 5 (fun j => if j = rock then .int .u8 5 else .int .u8 0)) := ⟨(HA.out.set rk1 _).alloc _⟩
      have HV : Hk (Below (w.heap.size + 1) ((w.alloc (.cells #[.int .i64 W, .int .i64 H, .slice a n c, .slice la ln lc, .int .i64 x] 48))) ((z1.setCell ⟨wr.heap.size, rock, none⟩ (.int .u8 5)).alloc (.cells #[.int .i64 Wd, .int .i64 Hd, .slice (some ⟨wr.heap.size, 0, none⟩) N N] 24))) := ⟨(HZ1.out.setCell (by exact HGN.out) _).alloc (by simp [World.setCell]; omega) _⟩
      have D0 : ((z1.setCell ⟨wr.heap.size, rock, none⟩ (.int .u8 5)).alloc (.cells #[.int .i64 Wd, .int .i64 Hd, .slice (some ⟨wr.heap.size, 0, none⟩) N N] 24)).cell? ⟨z1.heap.size, 0, none⟩ = some (.int .i64 Wd) := by go_simp
      have D1 : ((z1.setCell ⟨wr.heap.size, rock, none⟩ (.int .u8 5)).alloc (.cells #[.int .i64 Wd, .int .i64 Hd, .slice (some ⟨wr.heap.size, 0, none⟩) N N] 24)).cell? ⟨z1.heap.size, 1, none⟩ = some (.int .i64 Hd) := by go_simp
      have D2 : ((z1.setCell ⟨wr.heap.size, rock, none⟩ (.int .u8 5)).alloc (.cells #[.int .i64 Wd, .int .i64 Hd, .slice (some ⟨wr.heap.size, 0, none⟩) N N] 24)).cell? ⟨z1.heap.size, 2, none⟩ = some (.slice (some ⟨wr.heap.size, 0, none⟩) N N) := by go_simp
      have D3 : z1.heap.size < ((z1.setCell ⟨wr.heap.size, rock, none⟩ (.int .u8 5)).alloc (.cells #[.int .i64 Wd, .int .i64 Hd, .slice (some ⟨wr.heap.size, 0, none⟩) N N] 24)).heap.size := by simp [World.setCell]
      clear HB hc hf hl hn' hm HA HZ1 D4 D5 D6 D7 hlt1
      generalize ((z1.setCell ⟨wr.heap.size, rock, none⟩ (.int .u8 5)).alloc (.cells #[.int .i64 Wd, .int .i64 Hd, .slice (some ⟨wr.heap.size, 0, none⟩) N N] 24)) = V at *
      generalize z1.heap.size = P at *
      generalize wr.heap.size = G at *
      have HBV : Hk (∀ X, Below V.heap.size V X → By X V.heap.size (some ⟨G, 0, none⟩) N (rkL N rock)) := ⟨fun X hX => rk_by (HA5.out.later hX) HA5.out.lt⟩
      have HLX : Hk (∀ X, Below V.heap.size V X → LC X) := ⟨fun X hX => HLC.out _ (HV.out.trans (hX.mono (kw_size HV.out hNW)))⟩
      have MM : Hk (MOk Wd Hd N (rkL N rock) []) := ⟨rk_ok Wd Hd N rock w1 (by omega) h1 (by omega) hN.symm⟩
      go_loopw [8] (fun i wr => ∃ cl : Nat, i = .int .i64 cl ∧ cl ≤ 3 ∧ Hk (Below V.heap.size V wr)) (fun i _ => (3 - intOf i).toNat)
      case atStart => exact ⟨0, rfl, by omega, ⟨Below.refl _ _⟩⟩
      case round =>
        obtain ⟨cl, rfl, hcl, HC⟩ := hrel
        obtain ⟨hc, hf, hl, hn', hm⟩ := kw_rules HC.out (Nat.le_refl _)
        by_cases hc3 : cl < 3
        · have cb : decide ((cl : Int) ≤ 2) = true := by simp; omega
          go_wp2_with (first
            | (go_at_call 32; (with_reducible refine (grid_yes Wd Hd (some ⟨G, 0, none⟩) N N (rkL N rock) none 0 0 [] _ ?_ ?_ (by omega) (by omega) cl ?_ hc3 MM).mono ?_); (exact (HBV.out _ HC.out).mono HC.out.size); (exact Bq.nil _ _ _); (exact HLX.out _ HC.out); rintro e z2 ⟨I, rfl, hg2, hA1, hb⟩; have HA1 := Hk.mk hA1; have HI : Hk (V.heap.size ≤ I) := ⟨Nat.le_trans HC.out.size hg2⟩; replace HC := Hk.mk (kw_step HC.out (Nat.le_refl _) hb); clear hA1 hg2 hb hc hf hl hn' hm; obtain ⟨hc, hf, hl, hn', hm⟩ := kw_rules HC.out (Nat.le_refl _))
            | (go_at_call 27; (with_reducible refine (num9_any _ _).mono ?_); rintro e z ⟨rfl, rfl⟩))
          have HA1 := HA1
          have HCZ : Hk (∀ X, Below z2.heap.size z2 X → Below V.heap.size V X) := ⟨fun X hX => HC.out.trans (hX.mono HC.out.size)⟩
          have HFF : Hk (∀ j, j < N → opn Wd (rkL N rock) [] cl j = decide (j ≠ rock)) := ⟨fun j hj => rk_opn hc3 hj⟩
          have HAR := Hk.mk (at_of (H := Hd) (n := N) w1 hN.symm rk1)
          obtain ⟨rx, hrx⟩ : ∃ x, (rock : Int) % Wd = x := ⟨_, rfl⟩
          obtain ⟨ry, hry⟩ : ∃ y, (rock : Int) / Wd = y := ⟨_, rfl⟩
          rw [hrx, hry] at HAR
          have rtm : (rock : Int).tmod Wd = rx := by rw [← hrx]; exact Int.tmod_eq_emod_of_nonneg (by omega)
          have rtd : (rock : Int).tdiv Wd = ry := by rw [← hry]; exact Int.tdiv_eq_ediv_of_nonneg (by omega)
          have rx0 := HAR.out.x0; have rx1 := HAR.out.x1; have ry0 := HAR.out.y0; have ry1 := HAR.out.y1
          have hW0 : ¬ Wd = 0 := by omega
          clear hrx hry hc hf hl hn' hm
          obtain ⟨zz, rfl⟩ : ∃ zz : World, zz = z2 := ⟨z2, rfl⟩
          clear HC
          go_loopw [11] (fun i wr => ∃ t : Nat, i = .int .i64 t ∧ t ≤ N ∧ Hk (Below zz.heap.size zz wr)) (fun i _ => N - (intOf i).toNat)
          case atStart => exact ⟨0, rfl, by omega, ⟨Below.refl _ _⟩⟩
          case round =>
            obtain ⟨t, rfl, ht, HC⟩ := hrel
            obtain ⟨hc, hf, hl, hn', hm⟩ := kw_rules HC.out (Nat.le_refl _)
            by_cases hlt : t < N
            · have t0 : (0 : Int) ≤ (t : Int) := by omega
              have t1 : (t : Int) < (N : Int) := by omega
              have HAt := Hk.mk (at_of (H := Hd) (n := N) w1 hN.symm hlt)
              obtain ⟨x, hx⟩ : ∃ x, (t : Int) % Wd = x := ⟨_, rfl⟩
              obtain ⟨y, hy⟩ : ∃ y, (t : Int) / Wd = y := ⟨_, rfl⟩
              rw [hx, hy] at HAt
              have tm : (t : Int).tmod Wd = x := by rw [← hx]; exact Int.tmod_eq_emod_of_nonneg (by omega)
              have td : (t : Int).tdiv Wd = y := by rw [← hy]; exact Int.tdiv_eq_ediv_of_nonneg (by omega)
              have x0 := HAt.out.x0; have x1 := HAt.out.x1; have y0 := HAt.out.y0; have y1 := HAt.out.y1
              clear hx hy
              have hiz : I < zz.heap.size := HA1.out.lt
              have c1 := HA1.out.cell hlt
              have HS : Hk (∀ s : Nat, s ≤ sC Wd Hd (opn Wd (rkL N rock) [] cl) t ↔ ((s : Int) ≤ x + 1 ∧ (s : Int) ≤ Wd - x ∧ (s : Int) ≤ y + 1 ∧ (s : Int) ≤ Hd - y ∧ ((s : Int) ≤ x - rx ∨ (s : Int) ≤ rx - x ∨ (s : Int) ≤ y - ry ∨ (s : Int) ≤ ry - y))) := ⟨fun s => sC_rock (by omega) w1 hN.symm hlt rk1 HFF.out HAt.out HAR.out s⟩
              obtain ⟨s, hs⟩ : ∃ s, sC Wd Hd (opn Wd (rkL N rock) [] cl) t = s := ⟨_, rfl⟩
              rw [hs] at c1 HS
              clear hs
              have q1 := (HS.out s).1 (Nat.le_refl _)
              have q2 : ¬ _ := fun q => absurd ((HS.out (s + 1)).2 q) (by omega)
              clear HS
              obtain ⟨A, mA⟩ : ∃ A, (if x - rx < -(x - rx) then -(x - rx) else x - rx) = A := ⟨_, rfl⟩
              obtain ⟨B, mB⟩ : ∃ A, (if y - ry < -(y - ry) then -(y - ry) else y - ry) = A := ⟨_, rfl⟩
              obtain ⟨C, mC⟩ : ∃ C, (if A < B then B else A) = C := ⟨_, rfl⟩
              obtain ⟨D, mD⟩ : ∃ A, (if Wd - x < x + 1 then Wd - x else x + 1) = A := ⟨_, rfl⟩
              obtain ⟨E, mE⟩ : ∃ A, (if Hd - y < y + 1 then Hd - y else y + 1) = A := ⟨_, rfl⟩
              obtain ⟨F, mF⟩ : ∃ A, (if E < D then E else D) = A := ⟨_, rfl⟩
              have mG : (if F < C then F else C) = (s : Int) := by
                obtain ⟨G', mG⟩ : ∃ A, (if F < C then F else C) = A := ⟨_, rfl⟩
                rw [mG]
                have a1 := mx_of mA; have a2 := mx_of mB; have a3 := mx_of mC
                have a4 := mn_of mD; have a5 := mn_of mE; have a6 := mn_of mF; have a7 := mn_of mG
                clear mA mB mC mD mE mF mG
                simp only [Int.natCast_add, Int.natCast_one] at q2
                omega
              clear q1 q2
              go_wp2_with fail
              go_quiet (fail)
              go_wp2_with fail
              go_quiet (fail)
              go_wp2_with fail
              exact ⟨⟨t + 1, by go_num, by omega, ⟨below_drewN HC.out _⟩⟩, by simp [intOf]; omega⟩
            · have htn : t = N := by omega
              subst htn
              go_wp2
              exact ⟨⟨cl + 1, by go_num, by omega, ⟨HCZ.out _ HC.out⟩⟩, by simp [intOf]; omega⟩
        · have hc3' : cl = 3 := by omega
          subst hc3'
          go_wp2
          exact ⟨⟨k + 1, by go_num, by omega, ⟨HV.out.trans (HC.out.mono (kw_size HV.out hNW))⟩⟩, by simp [intOf]; omega⟩
    · have hk4 : k = 4 := by omega
      subst hk4
      go_wp2_with (go_at_call 30; (with_reducible refine (wakes9_any _ (HLC.out _ HB.out)).mono ?_); rintro e z ⟨rfl, hb⟩; replace HB := Hk.mk (kw_step HB.out hNW hb); clear hb; clear hc hf hl hn' hm; obtain ⟨hc, hf, hl, hn', hm⟩ := kw_rules HB.out hNW)
      go_ret
      exact ⟨rfl, HTR.out _ HB.out⟩
theorem clearWalls_walk (v : Value) (w : World) (hL : LC w) (rows : Asks9 w v) :
    Calls Tryd.prog 9 #[v] w fun e w' => e = .returned (.bool true) ∧ Below w.heap.size w w' := by
  obtain ⟨W, H, a, n, c, xs, la, ln, lc, bs, x, rfl, hW, hH, hx, hn, hlc, hcc, hby, hbq, hi⟩ := rows
  exact clearWalls_go W H a n c xs la ln lc bs x w hL hby hbq (by omega)

theorem clearWalls_own : ownKnob Tryd.prog.godebug = none := by kernel_rfl
theorem clearWalls_laidOut : laidOutB Tryd.prog = true := by kernel_rfl
theorem clearWalls_door (os : Os) (args : Array Value) : laidMetH Tryd.prog [("throng/kind.costs", Rows.laid_throng_kind_costs)] ((World.doorLaid Tryd.prog 400 os).forCall (fun _ _ => 0) ⟨#[], args, []⟩).memory :=
  laidMetH_of_parts3 (fuel := 8) (laidMet_of_run' 8 (by kernel_rfl) (by kernel_rfl)) (by kernel_rfl) (by kernel_rfl)
set_option maxRecDepth 100000 in
theorem clearWalls_lifted (os : Os) (started : os.Started) (H : Type) (enc : TypeId × Value → H) :
    ReturnsInHanded {} Tryd.checked os 9 .any (fun w args => (Rows.clearWallsSpec.pre enc Tryd.prog Tryd.f9 [] false w args ∧ laidMetH Tryd.prog [("throng/kind.costs", Rows.laid_throng_kind_costs)] w) ∧ sizedMet enc Tryd.prog Tryd.f9 (OpenSpec.ofChange Rows.clearWallsSpec) false w args)
      (Rows.clearWallsSpec.post enc Tryd.prog Tryd.f9 false true false false) := by
  refine returnsInHanded_of_change_and (C := Tryd.checked) (X := fun w _ => laidMetH Tryd.prog [("throng/kind.costs", Rows.laid_throng_kind_costs)] w) (fun _ _ _ hh h => h.of_heap hh) clearWalls_own started (by kernel_rfl) Tryd.func9
    (ChangeSpec.witness_shaped (enc := enc) (C := Tryd.checked) (os := os) (X := fun w _ => laidMetH Tryd.prog [("throng/kind.costs", Rows.laid_throng_kind_costs)] w) false (World.doorLaid Tryd.prog 400 os) #[.agg #[.int .i64 0, .int .i64 0, .slice none 0 0, .slice none 0 0, .int .i64 0]] 8 rfl (World.shaped_of_RefB (by kernel_rfl) (by kernel_rfl)) (by kernel_rfl) (by kernel_rfl) (by kernel_rfl) (clearWalls_door os _)) ?_
  intro W base args ds gs before hval0 hW _ _ hL _
  have hval : ∀ (j : Nat) t v, Tryd.f9.params[j]? = some t → args[j]? = some v → Value.okWide Tryd.prog W .any base t v := hval0
  have hW' := hW
  obtain ⟨p, q, hA0, hV, rfl, hfz, hnd⟩ := hW
  have hA : DataW.TrodAll enc Tryd.prog W 0 (fun _ => true) true Tryd.f9.params.toList args.toList ds p := hA0
  rw [Tryd.params9] at hA hval
  obtain ⟨v0, vs0, d0, ds0, p0, q0, hargs, rfl, rfl, h0, r0⟩ := trodAll_cons hA
  obtain ⟨rfl, rfl, rfl⟩ := trodAll_nil r0
  obtain rfl : args = #[v0] := by cases args; simp_all
  obtain ⟨rfl, rfl⟩ := trodVars_none hV
  obtain ⟨cs0, rfl, hcs0⟩ := okWide_struct Tryd.underlying48 (hval 0 48 v0 rfl rfl)
  have k0 := h0
  have lt0 : ∀ x ∈ p0, x.block < W.heap.size := by obtain ⟨m, hm⟩ := k0; exact DataW.trod_lt m _ _ _ hm
  have rows : Asks9 W (.agg cs0) := by obtain ⟨fuel, hf⟩ := h0; exact asks9_of hcs0 hf
  clear hA0 hval0
  refine (clearWalls_walk (.agg cs0) W (of_laidC hL) rows).mono fun e W' ⟨he, bel⟩ => ?_
  subst he
  exact ⟨_, rfl, _, _, _, [], _, [], hW', trodAll_mk1 (shut_bool Tryd.underlying4 _), (trodAll_cons_mk (Below.trod clearWalls_laidOut (by kernel_rfl) (of_decide_eq_true (by kernel_rfl)) k0 bel lt0) trodAll_mk0), rfl, bel.frame _, fun h => by cases h⟩
theorem clearWalls_over : Rows.ClearWallsSaid :=
  OpenClaim.holds_of_wide 9 Tryd.f9 rfl rfl rfl rfl rfl rfl rfl ⟨rfl, rfl, rfl, rfl, rfl⟩ rfl rfl rfl rfl rfl (by kernel_rfl) Tryd.func9 (by kernel_rfl)
    (of_decide_eq_true (by kernel_rfl)) (by unfold Func.isWrapper; first | (rw [if_pos (by decide +kernel)]; kernel_rfl) | (rw [if_neg (by decide +kernel)]; exact ⟨rfl, rfl⟩))
    (fun os started H enc _ => clearWalls_lifted os started H enc)
/-- The given card of ClearWalls. -/
theorem clearWalls_card : Rows.ClearWallsCardSaid :=
  Claim7.holds_tied_plain_at .later [] [.data] true (true, "2c4bcf7ec666a06e3a39b6c766dcfdcece0d58204668e437dfc8163f308f0d77") false
    clearWalls_over (fun _ h => by cases h) (by kernel_rfl) (fun _ h => by cases h) clearWalls_row_tie rfl ⟨rfl, rfl⟩ (by kernel_rfl) rfl
    (fun f fn hf hfn => by
      obtain rfl : f = 9 := Option.some.inj ((show Tryd.prog.funcNamed "throng/thronglaw9.ClearWalls" = some 9 by kernel_rfl).symm.trans hf) |>.symm
      obtain rfl : fn = Tryd.f9 := (Option.some.inj (Tryd.func9.symm.trans hfn)).symm
      exact ⟨by kernel_rfl, fun j t ht => by
        rw [Tryd.params9] at ht
        have hm : t ∈ [48] := by simpa using Array.mem_of_getElem? ht
        have hall : ([48].all fun u => !Tryd.prog.wantsStandIn u) = true := by kernel_rfl
        exact (show Tryd.prog.wantsStandIn t = false by simpa using List.all_eq_true.1 hall t hm)⟩)
    (by kernel_rfl)
end Go.Proofs.YtjjodfdmbiebnaaDoor

