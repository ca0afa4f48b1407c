import Derived.Test.YtjjodfdmbiebnaaDoorKdp
import Derived.Test.YtjjodfdmbiebnaaDoorKdn
import Derived.Deep.QuietTactic
import Derived.BigQuiet
import Derived.Deep.RegionWith
import Derived.Deep.RegionHeld3
import Derived.Deep.DeepCutAuto
import Derived.Deep.DeepFit
import Derived.Outline
import Derived.ArgAppend
import Derived.Test.YtjjodfdmbiebnaaDoorKdi
import Derived.Test.YtjjodfdmbiebnaaDoorKdj
/- Layer 6, plain: neighbours are neighbours both ways, each once (for GroundBack). -/
namespace Go.Proofs.YtjjodfdmbiebnaaDoor
open Go.RowKit
set_option linter.unusedVariables false
theorem nbS_inv {W H t dx dy u : Int} (hW : 1 ≤ W) (e : nbS W H t dx dy = u) (h : 0 ≤ u) :
    (0 ≤ t % W + dx ∧ t % W + dx < W ∧ 0 ≤ t / W + dy ∧ t / W + dy < H) ∧ u % W = t % W + dx ∧ u / W = t / W + dy ∧ u < W * H := by
  by_cases c : 0 ≤ t % W + dx ∧ t % W + dx < W ∧ 0 ≤ t / W + dy ∧ t / W + dy < H
  · obtain ⟨c1, c2, c3, c4⟩ := c
    rw [nbS_yes c1 c2 c3 c4] at e
    refine ⟨⟨c1, c2, c3, c4⟩, ?_, ?_, ?_⟩
    · rw [← e, Int.add_mul_emod_self_left, Int.emod_eq_of_lt c1 c2]
    · rw [← e, Int.add_mul_ediv_left _ _ (by omega), Int.ediv_eq_zero_of_lt c1 c2, Int.zero_add]
    · have h1 : W * (t / W + dy) ≤ W * (H - 1) := Int.mul_le_mul_of_nonneg_left (by omega) (by omega)
      have h2 : W * (H - 1) = W * H - W := by rw [Int.mul_sub, Int.mul_one]
      omega
  · rw [nbS_no c] at e; omega
theorem nbS_back {W H t dx dy u : Int} (hW : 1 ≤ W) (t0 : 0 ≤ t) (t1 : t < W * H) (e : nbS W H t dx dy = u) (h : 0 ≤ u) : nbS W H u (-dx) (-dy) = t := by
  obtain ⟨_, hm, hd, _⟩ := nbS_inv hW e h
  have m0 := Int.emod_nonneg t (show W ≠ 0 by omega)
  have m1 := Int.emod_lt_of_pos t (show 0 < W by omega)
  have d0 : 0 ≤ t / W := Int.ediv_nonneg t0 (by omega)
  have d1 : t / W < H := Int.ediv_lt_of_lt_mul (by omega) (by rw [Int.mul_comm]; exact t1)
  have em := Int.emod_add_mul_ediv t W
  rw [nbS_yes (by omega) (by omega) (by omega) (by omega), hm, hd, show t % W + dx + -dx = t % W by omega, show t / W + dy + -dy = t / W by omega]
  omega
theorem ways (k : Nat) (hk : k < 8) : ∃ j, j < 8 ∧ dxL.getD j 0 = -(dxL.getD k 0) ∧ dyL.getD j 0 = -(dyL.getD k 0) := by
  have h : ∀ k : Fin 8, ∃ j : Fin 8, dxL.getD j 0 = -(dxL.getD k 0) ∧ dyL.getD j 0 = -(dyL.getD k 0) := by decide
  obtain ⟨j, h1, h2⟩ := h ⟨k, hk⟩
  exact ⟨j, j.2, h1, h2⟩
theorem ways_once (i k : Nat) (hi : i < 8) (hk : k < 8) (h1 : dxL.getD i 0 = dxL.getD k 0) (h2 : dyL.getD i 0 = dyL.getD k 0) : i = k := by
  have h : ∀ i k : Fin 8, dxL.getD i 0 = dxL.getD k 0 → dyL.getD i 0 = dyL.getD k 0 → i = k := by decide
  have := h ⟨i, hi⟩ ⟨k, hk⟩ h1 h2
  simpa using this
theorem ways_not (k : Nat) (hk : k < 8) : ¬ (dxL.getD k 0 = 0 ∧ dyL.getD k 0 = 0) := by
  have h : ∀ k : Fin 8, ¬ (dxL.getD k 0 = 0 ∧ dyL.getD k 0 = 0) := by decide
  exact h ⟨k, hk⟩
theorem nb_getD (W H t : Int) (k : Nat) (hk : k < 8) : (nbL W H t).getD k 0 = nb W H t k := by
  unfold nbL; simp [List.getD, hk]
theorem nb_lt {W H t u : Int} {k : Nat} (hW : 1 ≤ W) (e : nb W H t k = u) (h : 0 ≤ u) : u < W * H := (nbS_inv hW e h).2.2.2
theorem nb_not {W H t u : Int} {k : Nat} (hW : 1 ≤ W) (hk : k < 8) (e : nb W H t k = u) (h : 0 ≤ u) : u ≠ t := by
  rintro rfl
  obtain ⟨_, hm, hd, _⟩ := nbS_inv hW e h
  exact ways_not k hk ⟨by omega, by omega⟩
theorem nb_back {W H t u : Int} {k : Nat} (hW : 1 ≤ W) (t0 : 0 ≤ t) (t1 : t < W * H) (hk : k < 8) (e : nb W H t k = u) (h : 0 ≤ u) : t ∈ nbL W H u := by
  obtain ⟨j, hj, h1, h2⟩ := ways k hk
  refine List.mem_map.2 ⟨j, List.mem_range.2 hj, ?_⟩
  unfold nb at e ⊢
  rw [h1, h2]
  exact nbS_back hW t0 t1 e h
theorem nb_once {W H t u : Int} {k : Nat} (hW : 1 ≤ W) (hk : k < 8) (e : nb W H t k = u) (h : 0 ≤ u) : u ∉ (nbL W H t).take k := by
  intro hm
  obtain ⟨i, hi, he⟩ := List.mem_iff_getElem.1 hm
  have hl : (nbL W H t).length = 8 := by unfold nbL; simp
  have hik : i < k := by rw [List.length_take] at hi; omega
  have he' : nb W H t i = u := by
    rw [← nb_getD W H t i (by omega), ← he, List.getElem_take]
    simp [List.getD, List.getElem?_eq_getElem (show i < (nbL W H t).length by omega)]
  obtain ⟨_, hm1, hd1, _⟩ := nbS_inv hW e h
  obtain ⟨_, hm2, hd2, _⟩ := nbS_inv hW he' h
  have := ways_once i k (by omega) hk (by omega) (by omega)
  omega
end Go.Proofs.YtjjodfdmbiebnaaDoor
/- Layer 9, plain: the reference's way: what stands beside what is away is taken away. -/
namespace Go.Proofs.YtjjodfdmbiebnaaDoor
open Go.RowKit
set_option linter.unusedVariables false
/-- Is all within m steps of the tile open? -/
def sqT (W H : Int) (f : Nat → Bool) (m k : Nat) : Bool := sqB (opXY W H f) m ((k : Int) % W) ((k : Int) / W)
theorem sqT_sC {W H : Int} {f : Nat → Bool} (hW : W ≤ 128) (m k : Nat) : sqT W H f m k = true ↔ m ≤ sC W H f k := by
  unfold sqT sC; rw [sV_iff hW]
theorem sqT_one {W H : Int} {f : Nat → Bool} {n k : Nat} (w1 : 1 ≤ W) (hn : (n : Int) = W * H) (hk : k < n) : sqT W H f 1 k = f k := by
  have h := at_of (H := H) w1 hn hk
  unfold sqT
  rw [sqB]
  simp only [sqB, Bool.and_true]
  exact op_at h
theorem sqB_out {W H : Int} {f : Nat → Bool} {x y : Int} (m : Nat) (h : ¬ (0 ≤ x ∧ x < W ∧ 0 ≤ y ∧ y < H)) : sqB (opXY W H f) (m + 1) x y = false := by
  rw [sqB, op_out h]; rfl
/-- Is the i-th neighbour there, and in? -/
def nbO (W H : Int) (f : Nat → Bool) (m t i : Nat) : Bool := decide (0 ≤ nb W H t i) && sqT W H f (m + 1) (nb W H t i).toNat
def alO (W H : Int) (f : Nat → Bool) (m t : Nat) : Nat → Bool
  | 0 => true
  | i + 1 => alO W H f m t i && nbO W H f m t i
theorem nbO_eq {W H : Int} {f : Nat → Bool} {m n t i : Nat} (w1 : 1 ≤ W) (hn : (n : Int) = W * H) (ht : t < n) : nbO W H f m t i = sqB (opXY W H f) (m + 1) ((t : Int) % W + dxL.getD i 0) ((t : Int) / W + dyL.getD i 0) := by
  unfold nbO nb
  generalize dxL.getD i 0 = dx
  generalize dyL.getD i 0 = dy
  by_cases c : 0 ≤ (t : Int) % W + dx ∧ (t : Int) % W + dx < W ∧ 0 ≤ (t : Int) / W + dy ∧ (t : Int) / W + dy < H
  · obtain ⟨c1, c2, c3, c4⟩ := c
    rw [nbS_yes c1 c2 c3 c4]
    have h0 : 0 ≤ (t : Int) % W + dx + W * ((t : Int) / W + dy) := by have := Int.mul_nonneg (show 0 ≤ W by omega) c3; omega
    rw [decide_eq_true h0, Bool.true_and]
    unfold sqT
    have := xy_at' (W := W) (x := (t : Int) % W + dx) (y := (t : Int) / W + dy) (j := ((t : Int) % W + dx + W * ((t : Int) / W + dy)).toNat) (by rw [Int.toNat_of_nonneg h0]) c1 c2
    rw [this.1, this.2]
  · rw [nbS_no c, sqB_out m c]; rfl
theorem sqB_succ (op : Int → Int → Bool) (r : Nat) (x y : Int) : sqB op (r + 1) x y = (op x y && sqB op r (x - 1) (y - 1) && sqB op r x (y - 1) && sqB op r (x + 1) (y - 1) && sqB op r (x - 1) y && sqB op r x y && sqB op r (x + 1) y && sqB op r (x - 1) (y + 1) && sqB op r x (y + 1) && sqB op r (x + 1) (y + 1)) := rfl
theorem alO_full {W H : Int} {f : Nat → Bool} {m n t : Nat} (w1 : 1 ≤ W) (hn : (n : Int) = W * H) (ht : t < n) (hi : sqT W H f (m + 1) t = true) : alO W H f m t 8 = sqT W H f (m + 2) t := by
  have e : ∀ i, nbO W H f m t i = sqB (opXY W H f) (m + 1) ((t : Int) % W + dxL.getD i 0) ((t : Int) / W + dyL.getD i 0) := fun i => nbO_eq w1 hn ht
  have hop : opXY W H f ((t : Int) % W) ((t : Int) / W) = true := by
    unfold sqT at hi
    rw [sqB] at hi
    simp only [Bool.and_eq_true] at hi
    exact hi.1.1.1.1.1.1.1.1.1
  show ((((((((true && nbO W H f m t 0) && nbO W H f m t 1) && nbO W H f m t 2) && nbO W H f m t 3) && nbO W H f m t 4) && nbO W H f m t 5) && nbO W H f m t 6) && nbO W H f m t 7) = _
  rw [e 0, e 1, e 2, e 3, e 4, e 5, e 6, e 7]
  unfold sqT at hi ⊢
  rw [show m + 2 = m + 1 + 1 from rfl, sqB_succ (opXY W H f) (m + 1) ((t : Int) % W) ((t : Int) / W), hop, hi]
  have z : ∀ a : Int, a + 0 = a := fun a => by omega
  have s : ∀ a : Int, a + -1 = a - 1 := fun a => by omega
  show ((((((((true && sqB _ (m + 1) (_ + 0) (_ + -1)) && sqB _ (m + 1) (_ + 1) (_ + 0)) && sqB _ (m + 1) (_ + 0) (_ + 1)) && sqB _ (m + 1) (_ + -1) (_ + 0)) && sqB _ (m + 1) (_ + 1) (_ + -1)) && sqB _ (m + 1) (_ + 1) (_ + 1)) && sqB _ (m + 1) (_ + -1) (_ + 1)) && sqB _ (m + 1) (_ + -1) (_ + -1)) = _
  simp only [z, s]
  rw [Bool.eq_iff_iff]
  simp only [Bool.and_eq_true, Bool.true_and, Bool.and_true]
  constructor
  · rintro ⟨⟨⟨⟨⟨⟨⟨h1, h2⟩, h3⟩, h4⟩, h5⟩, h6⟩, h7⟩, h8⟩
    exact ⟨⟨⟨⟨⟨⟨⟨h8, h1⟩, h5⟩, h4⟩, h2⟩, h7⟩, h3⟩, h6⟩
  · rintro ⟨⟨⟨⟨⟨⟨⟨h8, h1⟩, h5⟩, h4⟩, h2⟩, h7⟩, h3⟩, h6⟩
    exact ⟨⟨⟨⟨⟨⟨⟨h1, h2⟩, h3⟩, h4⟩, h5⟩, h6⟩, h7⟩, h8⟩
theorem sqT_no {W H : Int} {f : Nat → Bool} (hW : W ≤ 128) {m k : Nat} (h : sqT W H f (m + 1) k = false) : sqT W H f (m + 2) k = false := by
  cases q : sqT W H f (m + 2) k
  · rfl
  · have := (sqT_sC (H := H) (f := f) hW (m + 2) k).1 q
    have := (sqT_sC (H := H) (f := f) hW (m + 1) k).2 (by omega)
    rw [h] at this; cases this
theorem sqT_bd {W H : Int} {f : Nat → Bool} (hW : W ≤ 128) {m k : Nat} (h : sqT W H f m k = true) : m ≤ 128 := by
  have := (sqT_sC hW m k).1 h
  have := sV_le (W := W) (H := H) (f := f) ((k : Int) % W) ((k : Int) / W)
  unfold sC at *
  omega
end Go.Proofs.YtjjodfdmbiebnaaDoor
/- Layer 9: the reference's Grid. -/
namespace Go.Proofs.YtjjodfdmbiebnaaDoor
open Go.RowKit
set_option linter.unusedVariables false
set_option linter.unusedSimpArgs false
theorem fr2_rules {P Q : Nat} {Z X : World} (h : Fr (fun j => j = P ∨ j = Q) Z X) :
    (∀ b o, b < Z.heap.size → ¬ b = P → ¬ b = Q → X.cell? ⟨b, o, none⟩ = Z.cell? ⟨b, o, none⟩) ∧ (∀ b, b < Z.heap.size → b < X.heap.size) ∧ (∀ b, b < Z.heap.size → ¬ b = X.heap.size) ∧ (∀ b, b < Z.heap.size → ¬ X.heap.size = b) := by
  have hs := h.size
  exact ⟨fun b o hb h1 h2 => h.cell hb (fun e => by rcases e with e | e; exact h1 e; exact h2 e), fun b hb => by omega, fun b hb => by omega, fun b hb => by omega⟩
set_option maxRecDepth 100000 in
set_option maxHeartbeats 1600000 in
theorem rgrid_any (W H : Int) (a : Option Addr) (n c : Nat) (xs : List Int) (la : Option Addr) (ln lc : Nat) (bs : List Bd) (w : World) (h : By w w.heap.size a n xs) (hb0 : Bq w w.heap.size la ln bs) (cl : Nat) (hc3 : cl < 3) (MM : Hk (MOk W H n xs bs)) :
    Calls Tryd.prog 31 #[.agg #[.int .i64 W, .int .i64 H, .slice a n c], .slice la ln lc, .int .i64 cl] w fun e w' => ∃ g, e = .returned (.slice (some ⟨g, 0, none⟩) n n) ∧ w.heap.size ≤ g ∧ Arr w' g n 3 (fun k => .int .i64 (sC W H (opn W xs bs cl) k)) ∧ Below w.heap.size w w' := by
  have HWB : Hk (Below w.heap.size w (w.alloc (.cells #[.int .i64 W, .int .i64 H, .slice a n c] 24))) := ⟨(Below.refl _ _).alloc (Nat.le_refl _) _⟩
  have hNW : w.heap.size + 1 ≤ (w.alloc (.cells #[.int .i64 W, .int .i64 H, .slice a n c] 24)).heap.size := by simp
  have HB : Hk (Below (w.heap.size + 1) (w.alloc (.cells #[.int .i64 W, .int .i64 H, .slice a n c] 24)) (w.alloc (.cells #[.int .i64 W, .int .i64 H, .slice a n c] 24))) := ⟨Below.refl _ _⟩
  have HTR : Hk (∀ X, Below (w.heap.size + 1) (w.alloc (.cells #[.int .i64 W, .int .i64 H, .slice a n c] 24)) X → Below w.heap.size w X) := ⟨fun X hX => HWB.out.trans (hX.mono (by omega))⟩
  have HBY := Hk.mk (fun (X : World) (hX : Below (w.heap.size + 1) (w.alloc (.cells #[.int .i64 W, .int .i64 H, .slice a n c] 24)) X) => h.below (HTR.out X hX) (Nat.le_refl _))
  have HBQ := Hk.mk (fun (X : World) (hX : Below (w.heap.size + 1) (w.alloc (.cells #[.int .i64 W, .int .i64 H, .slice a n c] 24)) X) => hb0.below (HTR.out X hX) (Nat.le_refl _))
  have info_b : (Tryd.prog.info? 4).map (fun i => (i.zero, i.size, i.bytes)) = some (some (.bool false), 1, 1) := by kernel_rfl
  obtain ⟨ib, bi, bz0, bz1, bz2⟩ := info_parts info_b
  have info_i : (Tryd.prog.info? 3).map (fun i => (i.zero, i.size, i.bytes)) = some (some (.int .i64 0), 1, 8) := by kernel_rfl
  obtain ⟨i0, hi, hz0, hz1, hz2⟩ := info_parts info_i
  clear info_b info_i h hb0
  have w1 := MM.out.g.w1; have w2 := MM.out.g.w2; have h1 := MM.out.g.h1; have h2 := MM.out.g.h2
  have hn16 : n ≤ 16384 := by have := MM.out.g.nn; have := mul_bd w1 w2 h1 h2; omega
  have HNN := Hk.mk MM.out.g.nn
  go_enter Tryd.func31, Tryd.ntmps31
  go_wp2_with (first | (go_at_call 25; (with_reducible refine (ropen_any W H a n c xs la ln lc bs _ ?_ ?_ cl hc3 MM).mono ?_); (exact (HBY.out _ HB.out).mono (hsz1 HB.out)); (exact (HBQ.out _ HB.out).mono (hsz1 HB.out)); rintro e z1 ⟨I, rfl, hg1, hA1, hb⟩; have HG1 : Hk (w.heap.size + 1 ≤ I) := ⟨Nat.le_trans (kw_size HB.out hNW) hg1⟩; have HA1 := Hk.mk hA1; clear hA1 hg1; replace HB := Hk.mk (kw_step HB.out hNW hb); clear hb; obtain ⟨hc, hf, hl, hn', hm⟩ := kw_rules HB.out hNW) | (at_make; go_must (refine wpList_make_full _ rfl _ _ 25 rfl (w.heap.size + 1) 3 i0 (.int .i64 0) 1 Tryd.underlying25 hi hz0 hz1 .i64 .i64 _ _ n rfl rfl rfl rfl (by rw [hz2]; omega) (by unfold maxLen; omega) (kw_size HB.out hNW) ?_); intro z4 hown hgrow; have HG2 : Hk (w.heap.size + 1 ≤ z1.heap.size ∧ I < z1.heap.size) := ⟨⟨kw_size HB.out hNW, HA1.out.lt⟩⟩; have hb := below_grown hgrow; replace HA1 := Hk.mk (HA1.out.later hb); replace HB := Hk.mk (kw_step HB.out hNW hb); have HA2 := Hk.mk (Arr.made hown rfl); clear hb hown hgrow))
  clear hc hf hl hn' hm
  generalize z1.heap.size = P at *
  have HIP : Hk (I ≠ P ∧ w.heap.size + 1 ≤ P) := ⟨⟨by have := HG2.out; omega, HG2.out.1⟩⟩
  clear HG2
  have hwP : ¬ w.heap.size = P := by have := HIP.out.2; omega
  go_loopg [7, 9] 200 (fun k s l wr => ∃ m I, ∃ lv : Bool, s = .slice (some ⟨I, 0, none⟩) n n ∧ l = .bool lv ∧ k = 200 - m ∧ (lv = true → m ≤ 128) ∧ Hk (lv = false → ∀ t, t < n → sC W H (opn W xs bs cl) t ≤ m) ∧ Hk (I ≠ P ∧ w.heap.size + 1 ≤ I) ∧ Hk (Below (w.heap.size + 1) (w.alloc (.cells #[.int .i64 W, .int .i64 H, .slice a n c] 24)) wr) ∧ Hk (Arr wr I n 4 (fun j => .bool (sqT W H (opn W xs bs cl) (m + 1) j))) ∧ Hk (Arr wr P n 3 (fun j => .int .i64 ((min m (sC W H (opn W xs bs cl) j) : Nat) : Int))))
  case atStart => exact ⟨0, I, true, rfl, rfl, rfl, fun _ => by omega, ⟨fun h => by cases h⟩, ⟨⟨HIP.out.1, HG1.out⟩⟩, HB, ⟨HA1.out.congr fun j hj => by rw [sqT_one w1 HNN.out hj]⟩, ⟨HA2.out.congr fun j hj => by simp⟩⟩
  case round =>
    clear HA1 HA2 HB HG1
    obtain ⟨m, J, lv, rfl, rfl, rfl, hm128, HLV, HJ, HB, HA1, HA2⟩ := hrel
    cases lv
    case false =>
      go_wp2
      go_ret
      exact ⟨P, rfl, by have := HIP.out; omega, HA2.out.congr fun j hj => by rw [Nat.min_eq_right (HLV.out (by simp) j hj)], HTR.out _ HB.out⟩
    case true =>
      have hm := hm128 rfl
      clear hm128 HLV
      obtain ⟨hc, hf, hl, hn', hm⟩ := kw_rules HB.out hNW
      go_wp2_with (at_make; go_must (refine wpList_make_full _ rfl _ _ 51 rfl (w.heap.size + 1) 4 ib (.bool false) 1 Tryd.underlying51 bi bz0 bz1 .i64 .i64 _ _ n rfl rfl rfl rfl (by rw [bz2]; omega) (by unfold maxLen; omega) (kw_size HB.out hNW) ?_); intro z4 hown hgrow)
      have HQ0 : Hk (w.heap.size + 1 ≤ wr.heap.size ∧ J < wr.heap.size ∧ P < wr.heap.size) := ⟨⟨kw_size HB.out hNW, HA1.out.lt, HA2.out.lt⟩⟩
      have hb := below_grown hgrow
      replace HA1 := Hk.mk (HA1.out.later hb)
      replace HA2 := Hk.mk (HA2.out.later hb)
      replace HB := Hk.mk (kw_step HB.out hNW hb)
      have HA3 := Hk.mk (Arr.made hown rfl)
      clear hb hown hgrow
      clear hc hf hl hn' hm
      generalize wr.heap.size = Q at *
      have hwQ : ¬ w.heap.size = Q := by have := HQ0.out.1; omega
      have hJQ : ¬ J = Q := by have := HQ0.out.2.1; omega
      have hPQ : ¬ P = Q := by have := HQ0.out.2.2; omega
      have hQP : ¬ Q = P := by omega
      have hJP : ¬ J = P := HJ.out.1
      have hwl : w.heap.size < z4.heap.size := by have := HB.out.size; simp at this; omega
      have D0 : z4.cell? ⟨w.heap.size, 0, none⟩ = some (.int .i64 W) := by rw [HB.out.cell (p := ⟨w.heap.size, 0, none⟩) (by show w.heap.size < _; omega)]; go_simp
      have D1 : z4.cell? ⟨w.heap.size, 1, none⟩ = some (.int .i64 H) := by rw [HB.out.cell (p := ⟨w.heap.size, 1, none⟩) (by show w.heap.size < _; omega)]; go_simp
      have D2 : z4.cell? ⟨w.heap.size, 2, none⟩ = some (.slice a n c) := by rw [HB.out.cell (p := ⟨w.heap.size, 2, none⟩) (by show w.heap.size < _; omega)]; go_simp
      obtain ⟨wo, rfl⟩ : ∃ wo : World, wo = wr := ⟨wr, rfl⟩
      go_loopw [9, 11] (fun l s wr => ∃ t : Nat, ∃ lv : Bool, l = .bool lv ∧ s = .int .i64 t ∧ t ≤ n ∧ Hk (lv = true → m + 1 ≤ 128) ∧ Hk (lv = false → ∀ j, j < t → sqT W H (opn W xs bs cl) (m + 2) j = false) ∧ Hk (Fr (fun q => q = P ∨ q = Q) z4 wr) ∧ Hk (Arr wr J n 4 (fun j => .bool (sqT W H (opn W xs bs cl) (m + 1) j))) ∧ Hk (Arr wr P n 3 (fun j => .int .i64 ((if j < t then min (m + 1) (sC W H (opn W xs bs cl) j) else min m (sC W H (opn W xs bs cl) j) : Nat) : Int))) ∧ Hk (Arr wr Q n 4 (fun j => .bool (if j < t then sqT W H (opn W xs bs cl) (m + 2) j else false)))) (fun _ s _ => n - (intOf s).toNat)
      case atStart => exact ⟨0, false, rfl, rfl, Nat.zero_le _, ⟨fun h => by cases h⟩, ⟨fun _ j hj => absurd hj (by omega)⟩, ⟨Fr.refl _ _⟩, HA1, ⟨HA2.out.congr fun j _ => by rw [if_neg (by omega)]⟩, ⟨HA3.out.congr fun j _ => by rw [if_neg (by omega)]⟩⟩
      case round =>
        clear HA1 HA2 HA3
        obtain ⟨t, lv, rfl, rfl, ht, HL1, HL0, HF, HA1, HA2, HA3⟩ := hrel
        obtain ⟨kc, kl, kn, km⟩ := fr2_rules HF.out
        by_cases hlt : t < n
        · have v0 := HA1.out.cell hlt
          have t0 : (0 : Int) ≤ (t : Int) := by omega
          have t1 : (t : Int) < (n : Int) := by omega
          cases hq : sqT W H (opn W xs bs cl) (m + 1) t
          case false =>
            rw [hq] at v0
            have HZ : Hk (min (m + 1) (sC W H (opn W xs bs cl) t) = min m (sC W H (opn W xs bs cl) t)) := ⟨by
              have : ¬ (m + 1 ≤ sC W H (opn W xs bs cl) t) := fun h => by rw [(sqT_sC w2 (m + 1) t).2 h] at hq; cases hq
              omega⟩
            have HS : Hk (sqT W H (opn W xs bs cl) (m + 2) t = false) := ⟨sqT_no w2 hq⟩
            clear hq
            go_wp2
            exact ⟨⟨t + 1, lv, rfl, by go_num, by omega, HL1, ⟨fun h j hj => by
              by_cases e : j = t
              · subst e; exact HS.out
              · exact HL0.out h j (by omega)⟩, HF, HA1, ⟨HA2.out.congr fun j _ => by
              by_cases e : j = t
              · subst e; rw [if_pos (by omega), if_neg (by omega), HZ.out]
              · by_cases e2 : j < t
                · rw [if_pos (by omega), if_pos e2]
                · rw [if_neg (by omega), if_neg e2]⟩, ⟨HA3.out.congr fun j _ => by
              by_cases e : j = t
              · subst e; rw [if_pos (by omega), if_neg (by omega), HS.out]
              · by_cases e2 : j < t
                · rw [if_pos (by omega), if_pos e2]
                · rw [if_neg (by omega), if_neg e2]⟩⟩, by simp [intOf]; omega⟩
          case true =>
            rw [hq] at v0
            have hms : m + 1 ≤ sC W H (opn W xs bs cl) t := (sqT_sC w2 (m + 1) t).1 hq
            have a0 := HA2.out.cell hlt
            have az := HA2.out.frozen t
            rw [if_neg (by omega), Nat.min_eq_left (by omega)] at a0
            have b0 := HA3.out.cell hlt
            have bz := HA3.out.frozen t
            rw [if_neg (by omega)] at b0
            have HZ : Hk (min (m + 1) (sC W H (opn W xs bs cl) t) = m + 1) := ⟨Nat.min_eq_left hms⟩
            have HAL : Hk (alO W H (opn W xs bs cl) m t 8 = sqT W H (opn W xs bs cl) (m + 2) t) := ⟨alO_full w1 HNN.out hlt hq⟩
            clear hq hms
            go_wp2_with (go_at_call 36; (with_reducible refine (rnear_q W H t (.slice a n c) _ w1 w2 h1 h2 t0 (by omega)).mono ?_); rintro e z5 ⟨gn, cn, rfl, hnq, hb⟩; have HA1' := Hk.mk (((HA1.out.far ⟨P, t, none⟩ (.int .i64 ((m : Int) + 1)) hJP).far ⟨Q, t, none⟩ (.bool true) hJQ).later hb); have HA2' := Hk.mk (((HA2.out.set hlt (.int .i64 ((m : Int) + 1))).far ⟨Q, t, none⟩ (.bool true) hPQ).later hb); have HA3' := Hk.mk (((HA3.out.far ⟨P, t, none⟩ (.int .i64 ((m : Int) + 1)) hQP).set hlt (.bool true)).later hb); have HF' := Hk.mk (((HF.out.setCell (p := ⟨P, t, none⟩) (fun _ => Or.inl rfl) (.int .i64 ((m : Int) + 1))).setCell (p := ⟨Q, t, none⟩) (fun _ => Or.inr rfl) (.bool true)).trans (Fr.of_all hb)); have HNQ := Hk.mk hnq; have hgq : Hk (Q < z5.heap.size) := ⟨HA3'.out.lt⟩; clear hnq)
            obtain ⟨bb, oo, hbo, hbl, hnear⟩ := HNQ.out.rd (by omega)
            simp only [Option.some.injEq, Addr.mk.injEq] at hbo
            obtain ⟨rfl, rfl, -⟩ := hbo
            have hgQ : ¬ gn = Q := by
              rintro rfl
              have e1 := hnear 0 (by omega)
              have e2 := HA3'.out.cell (k := 0) (by omega)
              rw [Nat.add_zero, e2] at e1
              by_cases e : 0 = t
              · rw [if_pos e] at e1; cases e1
              · rw [if_neg e] at e1; cases e1
            have HNR : Hk (∀ k, k < 8 → z5.cell? ⟨gn, k, none⟩ = some (.int .i64 (nb W H t k))) := ⟨fun k hk => by
              have := hnear k hk
              rw [Nat.zero_add, nb_getD W H t k hk] at this
              exact this⟩
            have hjl : J < z5.heap.size := HA1'.out.lt
            have hpl : P < z5.heap.size := HA2'.out.lt
            clear hnear HNQ HA1 HA2 HA3 HF kc kl kn km a0 az b0 bz v0
            go_loopw [13] (fun s wr => ∃ i : Nat, s = .int .i64 i ∧ i ≤ 8 ∧ Hk (Fr (fun q => q = Q) z5 wr) ∧ Hk (Arr wr Q n 4 (fun j => .bool (if j = t then alO W H (opn W xs bs cl) m t i else if j < t then sqT W H (opn W xs bs cl) (m + 2) j else false)))) (fun s _ => 8 - (intOf s).toNat)
            case atStart => exact ⟨0, rfl, by omega, ⟨Fr.refl _ _⟩, ⟨HA3'.out.congr fun j _ => by
              by_cases e : j = t
              · rw [if_pos e, if_pos e]; rfl
              · rw [if_neg e, if_neg e]⟩⟩
            case round =>
              clear HA3'
              obtain ⟨i, rfl, hi8, HG, HA3⟩ := hrel
              obtain ⟨ic, ifz, il, inn, im⟩ := fr_rules HG.out
              by_cases hlt8 : i < 8
              · have c0 := HNR.out i hlt8
                have b0 := HA3.out.cell hlt
                have bz := HA3.out.frozen t
                rw [if_pos rfl] at b0
                have i0' : (0 : Int) ≤ (i : Int) := by omega
                have i1' : (i : Int) < 8 := by omega
                have HNB : Hk (alO W H (opn W xs bs cl) m t (i + 1) = (alO W H (opn W xs bs cl) m t i && nbO W H (opn W xs bs cl) m t i)) := ⟨rfl⟩
                obtain ⟨u, hu⟩ : ∃ u, nb W H t i = u := ⟨_, rfl⟩
                rw [hu] at c0
                by_cases hu0 : 0 ≤ u
                · have hun : u < (n : Int) := by rw [HNN.out]; exact nb_lt w1 hu hu0
                  obtain ⟨q, rfl⟩ : ∃ q : Nat, u = q := ⟨u.toNat, by omega⟩
                  have hqn : q < n := by omega
                  have q0 := HA1'.out.cell hqn
                  have hdu : decide ((q : Int) < 0) = false := by simp
                  have HNV : Hk (nbO W H (opn W xs bs cl) m t i = sqT W H (opn W xs bs cl) (m + 1) q) := ⟨by unfold nbO; rw [hu, decide_eq_true hu0, Bool.true_and]; simp⟩
                  clear hu
                  cases hq2 : sqT W H (opn W xs bs cl) (m + 1) q
                  case false =>
                    rw [hq2] at q0
                    have HV : Hk (alO W H (opn W xs bs cl) m t (i + 1) = false) := ⟨by rw [HNB.out, HNV.out, hq2, Bool.and_false]⟩
                    clear hq2
                    go_wp2
                    exact ⟨⟨i + 1, by go_num, by omega, ⟨HG.out.setCell (p := ⟨Q, t, none⟩) (fun _ => rfl) _⟩, ⟨(HA3.out.set hlt _).congr fun j hj => by
                      by_cases e : j = t
                      · rw [if_pos e, if_pos e, HV.out]
                      · rw [if_neg e, if_neg e, if_neg e]⟩⟩, by simp [intOf]; omega⟩
                  case true =>
                    rw [hq2] at q0
                    have HV : Hk (alO W H (opn W xs bs cl) m t (i + 1) = alO W H (opn W xs bs cl) m t i) := ⟨by rw [HNB.out, HNV.out, hq2, Bool.and_true]⟩
                    clear hq2
                    go_wp2
                    exact ⟨⟨i + 1, by go_num, by omega, HG, ⟨HA3.out.congr fun j hj => by
                      by_cases e : j = t
                      · rw [if_pos e, if_pos e, HV.out]
                      · rw [if_neg e, if_neg e]⟩⟩, by simp [intOf]; omega⟩
                · have hdu : decide (u < 0) = true := by simp; omega
                  have HV : Hk (alO W H (opn W xs bs cl) m t (i + 1) = false) := ⟨by rw [HNB.out]; unfold nbO; rw [hu, decide_eq_false hu0, Bool.false_and, Bool.and_false]⟩
                  clear hu
                  go_wp2
                  exact ⟨⟨i + 1, by go_num, by omega, ⟨HG.out.setCell (p := ⟨Q, t, none⟩) (fun _ => rfl) _⟩, ⟨(HA3.out.set hlt _).congr fun j hj => by
                      by_cases e : j = t
                      · rw [if_pos e, if_pos e, HV.out]
                      · rw [if_neg e, if_neg e, if_neg e]⟩⟩, by simp [intOf]; omega⟩
              · have hi : i = 8 := by omega
                subst hi
                have b0 := HA3.out.cell hlt
                rw [if_pos rfl, HAL.out] at b0
                have HFF : Hk (Fr (fun q => q = P ∨ q = Q) z4 wr) := ⟨HF'.out.trans (HG.out.mono fun q _ e => Or.inr e)⟩
                have HB1 : Hk (Arr wr J n 4 (fun j => .bool (sqT W H (opn W xs bs cl) (m + 1) j))) := ⟨HA1'.out.fr HG.out hJQ⟩
                have HB2 : Hk (Arr wr P n 3 (fun j => .int .i64 ((if j < t + 1 then min (m + 1) (sC W H (opn W xs bs cl) j) else min m (sC W H (opn W xs bs cl) j) : Nat) : Int))) := ⟨(HA2'.out.fr HG.out hPQ).congr fun j _ => by
                  by_cases e : j = t
                  · subst e; rw [if_pos (by omega), if_pos rfl, HZ.out]; simp
                  · rw [if_neg e]
                    by_cases e2 : j < t
                    · rw [if_pos (by omega), if_pos e2]
                    · rw [if_neg (by omega), if_neg e2]⟩
                have HB3 : Hk (Arr wr Q n 4 (fun j => .bool (if j < t + 1 then sqT W H (opn W xs bs cl) (m + 2) j else false))) := ⟨HA3.out.congr fun j _ => by
                  by_cases e : j = t
                  · subst e; rw [if_pos (by omega), if_pos rfl, HAL.out]
                  · rw [if_neg e]
                    by_cases e2 : j < t
                    · rw [if_pos (by omega), if_pos e2]
                    · rw [if_neg (by omega), if_neg e2]⟩
                obtain ⟨x, hx⟩ : ∃ x, sqT W H (opn W xs bs cl) (m + 2) t = x := ⟨_, rfl⟩
                rw [hx] at b0
                have HX := Hk.mk hx
                clear hx
                cases lv
                case false =>
                  go_wp2
                  exact ⟨⟨t + 1, x, rfl, by go_num, by omega, ⟨fun h => by subst h; have := sqT_bd w2 HX.out; omega⟩, ⟨fun h j hj => by
                    by_cases e : j = t
                    · subst e; rw [HX.out]; exact h
                    · exact HL0.out (by simp) j (by omega)⟩, HFF, HB1, HB2, HB3⟩, by simp [intOf]; omega⟩
                case true =>
                  go_wp2
                  exact ⟨⟨t + 1, true, rfl, by go_num, by omega, HL1, ⟨fun h => by cases h⟩, HFF, HB1, HB2, HB3⟩, by simp [intOf]; omega⟩
        · have htn : t = n := by omega
          subst htn
          go_wp2
          go_roundg (200 - (m + 1))
          case measure => omega
          case rel =>
           exact ⟨m + 1, Q, lv, rfl, rfl, rfl, HL1.out, ⟨fun h j hj => by
            have := HL0.out h j hj
            by_cases c : sC W H (opn W xs bs cl) j ≤ m + 1
            · exact c
            · have := (sqT_sC (H := H) (f := (opn W xs bs cl)) w2 (m + 2) j).2 (by omega)
              rw [HL0.out h j hj] at this; cases this⟩, ⟨⟨by omega, by have := HQ0.out; omega⟩⟩, ⟨HB.out.trans (HF.out.below (B := w.heap.size + 1) (by have := HB.out.size; simp at this; omega) (fun q _ e => by rcases e with rfl | rfl; have := HIP.out; omega; have := HQ0.out; omega))⟩, ⟨HA3.out.congr fun j hj => by rw [if_pos hj]⟩, ⟨HA2.out.congr fun j hj => by rw [if_pos hj]⟩⟩
end Go.Proofs.YtjjodfdmbiebnaaDoor
/- Lists of one's own spoilt; lists of booleans compared. -/
namespace Go.Proofs.YtjjodfdmbiebnaaDoor
open Go.RowKit
set_option linter.unusedVariables false
theorem own_of_arr {base g n : Nat} {w : World} {T : TypeId} {f : Nat → Value} (h : Arr w g n T f) (hb : base ≤ g) (hn : n ≤ 1099511627776) : w.ownsRow base T 1 (.slice (some ⟨g, 0, none⟩) n n) n ((List.range n).map f) := by
  obtain ⟨cur, e, hs, hc⟩ := h.ex
  refine ⟨by simp, Or.inr ⟨g, n, cur, rfl, hb, e, Nat.le_refl _, by unfold maxLen; omega, by omega, ?_⟩⟩
  apply List.ext_getElem?
  intro k
  by_cases hk : k < n
  · have := hc k hk
    simp [hk, hs]
    simpa [Array.getElem?_eq_some_iff, hs, hk] using this
  · rw [List.getElem?_eq_none (by simp; omega), List.getElem?_eq_none (by simp; omega)]
theorem Arr.nq {w : World} {g n B : Nat} {T : TypeId} {F : Nat → Int} (h : Arr w g n T (fun k => .int .i64 (F k))) (hg : g < B) : Nq w B (some ⟨g, 0, none⟩) n ((List.range n).map F) :=
  ⟨by simp, fun hn => ⟨g, 0, rfl, hg, fun k hk => by rw [Nat.zero_add, h.cell hk]; simp [List.getD, hk]⟩⟩
set_option maxRecDepth 100000 in
theorem numbers_as (n g : Nat) (F : Nat → Int) (w : World) (h : Arr w g n 3 (fun k => .int .i64 (F k))) (hn : n ≤ 1099511627776) :
    Calls Tryd.prog 34 #[.slice (some ⟨g, 0, none⟩) n n] w fun e w' => e = .returned (.tuple #[]) ∧ Below g w w' := by
  have infoT : (Tryd.prog.info? 3).map (fun i => (i.zero, i.size, i.bytes)) = some (some (.int .i64 default), 1, 8) := by kernel_rfl
  obtain ⟨i0, hi, hz0, hz1, hz2⟩ := info_parts infoT
  clear infoT
  have HO := Hk.mk h
  have hgw := h.lt
  clear h
  go_enter Tryd.func34, Tryd.ntmps34
  go_wp2
  go_loopw [2] (fun i wr => ∃ (k : Nat), i = .int .i64 k ∧ k ≤ n ∧ Hk (∃ F : Nat → Int, Arr wr g n 3 (fun k => .int .i64 (F k))) ∧ Hk (Fr (fun q => q = g) w wr)) (fun i _ => n - (intOf i).toNat)
  case atStart => exact ⟨0, rfl, by omega, ⟨_, HO.out⟩, ⟨Fr.refl _ _⟩⟩
  case round =>
    obtain ⟨k, rfl, hk, HP, HF⟩ := hrel
    obtain ⟨F, HA⟩ := HP.out
    clear HP HO
    by_cases hlt : k < n
    · have hcx := HA.cell hlt
      have hfz := HA.frozen k
      have j1 : (0 : Int) ≤ (k : Int) := by omega
      have j2 : (k : Int) < (n : Int) := by omega
      have H3 := Hk.mk (HA.set hlt (.int .i64 (-99)))
      have H4 := Hk.mk (HF.out.setCell (p := ⟨g, k, none⟩) (fun _ => rfl) (.int .i64 (-99)))
      clear HA HF
      go_wp2
      go_roundw
      case rel => exact ⟨k + 1, by go_num, by omega, ⟨fun j => if j = k then -99 else F j, H3.out.congr fun j hj => by by_cases e : j = k <;> simp [e]⟩, H4⟩
      case measure => simp [intOf]; omega
    · obtain rfl : k = n := by omega
      have hgr := HA.lt
      have H3 := Hk.mk (own_of_arr HA (Nat.le_refl g) hn)
      have H5 := Hk.mk HA
      clear HA
      go_wp2_with (at_builtin; go_must (refine wpList_append_own _ rfl _ _ 25 rfl g 3 i0 (.int .i64 default) 1 8 Tryd.underlying25 hi hz0 hz1 hz2 rfl (by decide) _ k _ rfl (H3.out.alloc _) ⟨wr.heap.size, 0, none⟩ 1 1 [.int .i64 (5)] rfl rfl (one_new _ _ _) ?c2 (by unfold maxLen; omega) (by omega) ?c5 ?_))
      case c2 => intro u hu; simp at hu; subst hu; rfl
      case c5 => simp; omega
      · intro v' w1 hown' hgrow _
        have HG := Hk.mk hgrow
        clear hgrow hown'
        go_wp2
        go_end0
        exact ⟨rfl, ((HF.out.below (B := g) (by omega) (fun q _ e => by subst e; exact Nat.le_refl _)).alloc (by omega) _).grown HG.out (by simp; omega) (fun g hg => by simp [Value.ownBlock] at hg; omega)⟩
set_option maxRecDepth 100000 in
theorem bools_as (n g : Nat) (F : Nat → Bool) (w : World) (h : Arr w g n 4 (fun k => .bool (F k))) (hn : n ≤ 1099511627776) :
    Calls Tryd.prog 29 #[.slice (some ⟨g, 0, none⟩) n n] w fun e w' => e = .returned (.tuple #[]) ∧ Below g w w' := by
  have infoT : (Tryd.prog.info? 4).map (fun i => (i.zero, i.size, i.bytes)) = some (some (.bool default), 1, 1) := by kernel_rfl
  obtain ⟨i0, hi, hz0, hz1, hz2⟩ := info_parts infoT
  clear infoT
  have HO := Hk.mk h
  have hgw := h.lt
  clear h
  go_enter Tryd.func29, Tryd.ntmps29
  go_wp2
  go_loopw [2] (fun i wr => ∃ (k : Nat), i = .int .i64 k ∧ k ≤ n ∧ Hk (∃ F : Nat → Bool, Arr wr g n 4 (fun k => .bool (F k))) ∧ Hk (Fr (fun q => q = g) w wr)) (fun i _ => n - (intOf i).toNat)
  case atStart => exact ⟨0, rfl, by omega, ⟨_, HO.out⟩, ⟨Fr.refl _ _⟩⟩
  case round =>
    obtain ⟨k, rfl, hk, HP, HF⟩ := hrel
    obtain ⟨F, HA⟩ := HP.out
    clear HP HO
    by_cases hlt : k < n
    · have hcx := HA.cell hlt
      have hfz := HA.frozen k
      have j1 : (0 : Int) ≤ (k : Int) := by omega
      have j2 : (k : Int) < (n : Int) := by omega
      have H3 := Hk.mk (HA.set hlt (.bool (!(F k))))
      have H4 := Hk.mk (HF.out.setCell (p := ⟨g, k, none⟩) (fun _ => rfl) (.bool (!(F k))))
      clear HA HF
      go_wp2
      go_roundw
      case rel => exact ⟨k + 1, by go_num, by omega, ⟨fun j => if j = k then !(F k) else F j, H3.out.congr fun j hj => by by_cases e : j = k <;> simp [e]⟩, H4⟩
      case measure => simp [intOf]; omega
    · obtain rfl : k = n := by omega
      have hgr := HA.lt
      have H3 := Hk.mk (own_of_arr HA (Nat.le_refl g) hn)
      have H5 := Hk.mk HA
      clear HA
      go_wp2_with (at_builtin; go_must (refine wpList_append_own _ rfl _ _ 51 rfl g 4 i0 (.bool default) 1 1 Tryd.underlying51 hi hz0 hz1 hz2 rfl (by decide) _ k _ rfl (H3.out.alloc _) ⟨wr.heap.size, 0, none⟩ 1 1 [.bool (true)] rfl rfl (one_new _ _ _) ?c2 (by unfold maxLen; omega) (by omega) ?c5 ?_))
      case c2 => intro u hu; simp at hu; subst hu; rfl
      case c5 => simp; omega
      · intro v' w1 hown' hgrow _
        have HG := Hk.mk hgrow
        clear hgrow hown'
        go_wp2
        go_end0
        exact ⟨rfl, ((HF.out.below (B := g) (by omega) (fun q _ e => by subst e; exact Nat.le_refl _)).alloc (by omega) _).grown HG.out (by simp; omega) (fun g hg => by simp [Value.ownBlock] at hg; omega)⟩
set_option maxRecDepth 100000 in
theorem bools_nil (w : World) : Calls Tryd.prog 29 #[.slice none 0 0] w fun e w' => e = .returned (.tuple #[]) ∧ Below w.heap.size w w' := by
  have infoT : (Tryd.prog.info? 4).map (fun i => (i.zero, i.size, i.bytes)) = some (some (.bool false), 1, 1) := by kernel_rfl
  obtain ⟨i0, hi, hz0, hz1, hz2⟩ := info_parts infoT
  have HO := Hk.mk (World.ownsRow_nil w w.heap.size 4 1)
  go_enter Tryd.func29, Tryd.ntmps29
  go_wp2
  go_loopw [2] (fun i wr => i = .int .i64 0 ∧ wr = w) (fun i _ => 0)
  case atStart => exact ⟨rfl, rfl⟩
  case round =>
    obtain ⟨rfl, rfl⟩ := hrel
    go_wp2_with (at_builtin; refine wpList_append_own _ rfl _ _ 51 rfl wr.heap.size 4 i0 (.bool false) 1 1 Tryd.underlying51 hi hz0 hz1 hz2 rfl (by decide) _ _ _ rfl (HO.out.alloc _) ⟨wr.heap.size, 0, none⟩ 1 1 [.bool true] rfl rfl (one_new _ _ _) ?c2 (by unfold maxLen; omega) (by omega) ?c5 ?_)
    case c2 => intro u hu; simp at hu; subst hu; rfl
    case c5 => simp
    · intro v' w1 hown' hgrow _
      have HG := Hk.mk hgrow
      clear hgrow hown'
      go_wp2
      go_end0
      exact ⟨rfl, ((Below.refl _ _).alloc (Nat.le_refl _) _).grown HG.out (by simp) (fun g hg => by cases hg)⟩
theorem rd_nil (w : World) (B : Nat) (a : Option Addr) (f : Nat → Value) : Rd w B a 0 f := fun h => absurd h (by omega)
theorem Arr.rd0 {w : World} {g n : Nat} {T : TypeId} {f : Nat → Value} (h : Arr w g n T f) : Rd w (g + 1) (some ⟨g, 0, none⟩) n f := h.rd (Nat.lt_succ_self g)
theorem eqbl_yes (a a' : Option Addr) (n c c' B B' : Nat) (F : Nat → Bool) (w : World) (h : Rd w B a n (fun k => .bool (F k))) (h' : Rd w B' a' n (fun k => .bool (F k))) (hn : n ≤ 1099511627776) :
    Calls Tryd.prog 28 #[.slice a n c, .slice a' n c'] w fun e w' => e = .returned (.bool true) ∧ ∃ m, w' = w.drewN m := by
  have H := Hk.mk h
  have H' := Hk.mk h'
  clear h h'
  go_enter Tryd.func28, Tryd.ntmps28
  go_wp2
  go_loopw [5] (fun i wr => ∃ k : Nat, k ≤ n ∧ i = .int .i64 k ∧ Hk (∃ m, wr = w.drewN m)) (fun i _ => n - (intOf i).toNat)
  case atStart => exact ⟨0, Nat.zero_le _, rfl, ⟨0, rfl⟩⟩
  case round =>
    obtain ⟨k, hk, rfl, HB⟩ := hrel
    by_cases hlt : k < n
    · obtain ⟨b, off, rfl, hbl, hc⟩ := H.out (by omega)
      obtain ⟨b', off', rfl, hbl', hc'⟩ := H'.out (by omega)
      have hcx : wr.cell? ⟨b, off + k, none⟩ = some (.bool (F k)) := by obtain ⟨m, rfl⟩ := HB.out; exact hc k hlt
      have hcy : wr.cell? ⟨b', off' + k, none⟩ = some (.bool (F k)) := by obtain ⟨m, rfl⟩ := HB.out; exact hc' k hlt
      clear hc hc'
      generalize F k = x at *
      have i1 : (0 : Int) ≤ (k : Int) := by omega
      have i2 : (k : Int) < (n : Int) := by omega
      cases x <;>
       (go_wp2
        go_quiet (fail)
        go_wp2
        go_roundw
        case rel => exact ⟨k + 1, by omega, by go_num, ⟨by obtain ⟨m, rfl⟩ := HB.out; exact ⟨_, by rw [World.drewN_drewN]⟩⟩⟩
        case measure => simp [intOf]; omega)
    · have hkn : k = n := by omega
      subst hkn
      go_wp2
      go_ret
      exact ⟨rfl, HB.out⟩
end Go.Proofs.YtjjodfdmbiebnaaDoor
/- Slices of structs that came in: each element opened. -/
namespace Go.Proofs.YtjjodfdmbiebnaaDoor
open Go.ChangeShapes Go.WideShapes Go.ChangeAt Go.RowKit Go.Deep
set_option linter.unusedVariables false
theorem rows_of {H : Type} {enc : TypeId × Value → H} {w : World} {base : Nat} {spare : Nat → Bool} {held : Bool} {fuel : Nat} {x : DataW H × List MemPlace} {v : Value} {S E : TypeId} {α : Type} (d : α)
    (hu : Tryd.prog.underlying S = some (.slice E)) (sz : Nat) (hC : Tryd.prog.cellsOf E = sz) (hsz : 0 < sz) (K : List Value → α → Prop)
    (hK : ∀ (fuel : Nat) (x : DataW H × List MemPlace) (cs : List Value), cs.length = sz → DataW.trod enc Tryd.prog w base spare held fuel E cs = some x → ∃ y : α, K cs y)
    (hf : DataW.trod enc Tryd.prog w base spare held fuel S [v] = some x) :
    ∃ a n c, ∃ ys : List α, v = .slice a n c ∧ n ≤ c ∧ c ≤ 9223372036854775807 ∧ ys.length = n ∧ (0 < n → ∃ b off, a = some ⟨b, off, none⟩ ∧ b < w.heap.size ∧ ∀ k, k < n → ∃ cs : List Value, cs.length = sz ∧ K cs (ys.getD k d) ∧ ∀ i, i < sz → w.cell? ⟨b, off + k * sz + i, none⟩ = cs[i]?) := by
  rcases open_slice hu hf with ⟨hcs, _⟩ | ⟨a', l, c, m, n, D, Pl, hcs, _, hl, hm, hmm, _, hi⟩
  · simp at hcs
    exact ⟨none, 0, 0, [], hcs, by omega, by omega, rfl, fun h => absurd h (by omega)⟩
  · simp at hcs
    have hspot : 0 < l → a'.spot = none := fun hl0 => by
      obtain ⟨cs2, hc2, _⟩ := hi 0 (by rw [hmm]; split <;> omega)
      rw [hC] at hc2
      obtain ⟨_, hcl2, hat2⟩ := World.cells?_some hc2
      have h0 := hat2 0 (by omega)
      rw [List.getElem?_eq_getElem (by omega)] at h0
      simpa [Addr.add] using World.cell?_spot h0
    have hall : ∀ k, ∃ p : List Value × α, k < l → p.1.length = sz ∧ K p.1 p.2 ∧ ∃ b off, a' = ⟨b, off, none⟩ ∧ b < w.heap.size ∧ ∀ i, i < sz → w.cell? ⟨b, off + k * sz + i, none⟩ = p.1[i]? := by
      intro k
      by_cases hk : k < l
      · obtain ⟨cs', hc, ht⟩ := hi k (by rw [hmm]; split <;> omega)
        rw [hC] at hc
        obtain ⟨_, hcl, hat⟩ := World.cells?_some hc
        obtain ⟨y, hy⟩ := hK _ _ _ hcl ht
        have hs := hspot (by omega)
        obtain ⟨b, off, spot⟩ := a'
        simp only at hs
        subst hs
        refine ⟨(cs', y), fun _ => ⟨hcl, hy, b, off, rfl, ?_, fun i hi' => ?_⟩⟩
        · have h0 := hat 0 hsz
          rw [List.getElem?_eq_getElem (by omega)] at h0
          simp only [aq_plus] at h0
          exact World.block_lt_of_cell? _ _ h0
        · have h0 := hat i hi'
          simp only [aq_plus] at h0
          exact h0
      · exact ⟨([], d), fun h => absurd h hk⟩
    obtain ⟨p, hp⟩ := Classical.skolem.1 hall
    refine ⟨_, l, c, (List.range l).map fun k => (p k).2, hcs, hl, by unfold maxLen at hm; omega, by simp, fun hn => ?_⟩
    obtain ⟨_, _, b, off, rfl, hb, _⟩ := hp 0 hn
    refine ⟨b, off, rfl, hb, fun k hk => ?_⟩
    obtain ⟨h1, h2, b', off', e, _, h3⟩ := hp k hk
    simp only [Addr.mk.injEq] at e
    obtain ⟨rfl, rfl, _⟩ := e
    exact ⟨(p k).1, h1, by simpa [List.getD, hk] using h2, h3⟩
end Go.Proofs.YtjjodfdmbiebnaaDoor
/- Openers: a number, a ground, buildings that came in. -/
namespace Go.Proofs.YtjjodfdmbiebnaaDoor
open Go.ChangeShapes Go.WideShapes Go.ChangeAt Go.RowKit Go.Deep
set_option linter.unusedVariables false
theorem opi_wf {n : Int} (h : (Lit.int .i64 n).wf = true) : I64' n := by
  have := bounds_i64 h
  unfold I64'; omega
theorem op_int {H : Type} {enc : TypeId × Value → H} {w : World} {base : Nat} {spare : Nat → Bool} {held : Bool} {fuel : Nat} {x : DataW H × List MemPlace} {v : Value} (hf : DataW.trod enc Tryd.prog w base spare held fuel 3 [v] = some x) : ∃ z : Int, v = .int .i64 z ∧ I64' z := by
  obtain ⟨x0, e0, _, w0⟩ := DataW.trod_int Tryd.underlying3 hf
  simp at e0
  exact ⟨x0, e0, opi_wf w0⟩
theorem op_ground {H : Type} {enc : TypeId × Value → H} {w : World} {base : Nat} {spare : Nat → Bool} {held : Bool} {fuel : Nat} {x : DataW H × List MemPlace} {c0 c1 c2 : Value}
    (hf : DataW.trod enc Tryd.prog w base spare held fuel 24 [c0, c1, c2] = some x) : ∃ (W H : Int) (a : Option Addr) (n c : Nat) (xs : List Int), c0 = .int .i64 W ∧ c1 = .int .i64 H ∧ c2 = .slice a n c ∧ I64' W ∧ I64' H ∧ n ≤ 9223372036854775807 ∧ By w w.heap.size a n xs := by
  have h2 : Tryd.prog.cellsOf 3 = 1 := by kernel_rfl
  have h3 : Tryd.prog.cellsOf 22 = 1 := by kernel_rfl
  obtain ⟨ys, n', _, _, _, hyl, hg⟩ := DataW.trod_struct Tryd.underlying24 hf
  match ys, hyl with
  | [y0, y1, y2], _ =>
    have g0 := hg 0 _ rfl
    have g1 := hg 1 _ rfl
    have g2 := hg 2 _ rfl
    simp [h2, h3] at g0 g1 g2
    obtain ⟨x0, e0, w0⟩ := op_int g0
    obtain ⟨x1, e1, w1⟩ := op_int g1
    obtain ⟨a, n, c, xs, rfl, hn, hc, hby⟩ := by_of g2
    exact ⟨x0, x1, a, n, c, xs, e0, e1, rfl, w0, w1, by omega, hby⟩
theorem op_bd {H : Type} {enc : TypeId × Value → H} {w : World} {base : Nat} {spare : Nat → Bool} {held : Bool} {fuel : Nat} {x : DataW H × List MemPlace} {cs : List Value} (hl : cs.length = 6)
    (hf : DataW.trod enc Tryd.prog w base spare held fuel 96 cs = some x) : ∃ b : Bd, cs = [.int .i64 b.i, .int .i64 b.o, .int .i64 b.x, .int .i64 b.y, .int .i64 b.w, .int .i64 b.h] ∧ ∀ i, I64' (b.c i) := by
  have h2 : Tryd.prog.cellsOf 3 = 1 := by kernel_rfl
  match cs, hl with
  | [c0, c1, c2, c3, c4, c5], _ =>
    obtain ⟨ys, n', _, _, _, hyl, hg⟩ := DataW.trod_struct Tryd.underlying96 hf
    match ys, hyl with
    | [y0, y1, y2, y3, y4, y5], _ =>
      have g0 := hg 0 _ rfl
      have g1 := hg 1 _ rfl
      have g2 := hg 2 _ rfl
      have g3 := hg 3 _ rfl
      have g4 := hg 4 _ rfl
      have g5 := hg 5 _ rfl
      simp [h2] at g0 g1 g2 g3 g4 g5
      obtain ⟨x0, rfl, w0⟩ := op_int g0
      obtain ⟨x1, rfl, w1⟩ := op_int g1
      obtain ⟨x2, rfl, w2⟩ := op_int g2
      obtain ⟨x3, rfl, w3⟩ := op_int g3
      obtain ⟨x4, rfl, w4⟩ := op_int g4
      obtain ⟨x5, rfl, w5⟩ := op_int g5
      refine ⟨⟨x0, x1, x2, x3, x4, x5⟩, rfl, fun i => ?_⟩
      match i with
      | 0 => exact w0
      | 1 => exact w1
      | 2 => exact w2
      | 3 => exact w3
      | 4 => exact w4
      | _ + 5 => exact w5
theorem op_bds {H : Type} {enc : TypeId × Value → H} {w : World} {base : Nat} {spare : Nat → Bool} {held : Bool} {fuel : Nat} {x : DataW H × List MemPlace} {v : Value}
    (hf : DataW.trod enc Tryd.prog w base spare held fuel 46 [v] = some x) : ∃ a n c, ∃ bs : List Bd, v = .slice a n c ∧ n ≤ c ∧ c ≤ 9223372036854775807 ∧ Bq w w.heap.size a n bs ∧ ∀ k, k < n → ∀ i, I64' ((bs.getD k default).c i) := by
  obtain ⟨a, n, c, ys, rfl, hnc, hc, hl, hr⟩ := rows_of (default : Bd) Tryd.underlying46 6 (by kernel_rfl) (by omega) (fun cs b => cs = [.int .i64 b.i, .int .i64 b.o, .int .i64 b.x, .int .i64 b.y, .int .i64 b.w, .int .i64 b.h] ∧ ∀ i, I64' (b.c i)) (fun fuel x cs hl h => op_bd hl h) hf
  refine ⟨a, n, c, ys, rfl, hnc, hc, ⟨hl, fun hn => ?_⟩, fun k hk i => ?_⟩
  · obtain ⟨b, off, e, hb, hcells⟩ := hr hn
    refine ⟨b, off, e, hb, fun k hk i hi => ?_⟩
    obtain ⟨cs, hcl, ⟨hcs, _⟩, hat⟩ := hcells k hk
    rw [hat i hi, hcs]
    match i, hi with
    | 0, _ | 1, _ | 2, _ | 3, _ | 4, _ | 5, _ => rfl
  · obtain ⟨b, off, e, hb, hcells⟩ := hr (by omega)
    obtain ⟨cs, hcl, ⟨hcs, h64⟩, hat⟩ := hcells k hk
    exact h64 i
end Go.Proofs.YtjjodfdmbiebnaaDoor
