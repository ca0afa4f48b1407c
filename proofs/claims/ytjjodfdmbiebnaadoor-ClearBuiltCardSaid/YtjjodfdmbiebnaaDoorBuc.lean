/- Layer 8: the tiles under a building. -/
import Derived.Test.YtjjodfdmbiebnaaDoorBub
import Derived.Test.YtjjodfdmbiebnaaDoorNq
import Derived.Deep.QuietTactic
import Derived.BigQuiet
import Derived.Deep.RegionWith
import Derived.Deep.RegionHeld3
import Derived.Deep.DeepCutAuto
import Derived.Deep.DeepFit
import Derived.Outline
namespace Go.Proofs.YtjjodfdmbiebnaaDoor
open Go.RowKit
set_option linter.unusedVariables false
/-- What under answers: new memory. -/
def UndR (w : World) (W : Int) (b : Bd) (e : Ending) (w' : World) : Prop := ∃ g, e = .returned (.slice (some ⟨g, 0, none⟩) (b.w.toNat * b.h.toNat) (b.w.toNat * b.h.toNat)) ∧ w.heap.size ≤ g ∧ Nq w' (g + 1) (some ⟨g, 0, none⟩) (b.w.toNat * b.h.toNat) (undL W b) ∧ g < w'.heap.size ∧ Below w.heap.size w w'
theorem und_snoc (W : Int) (bi bo bx bY : Int) (wn hn y x : Nat) (hx : x < wn) (hy : y < hn) {P : Int} (hP : W * (bY + y) = P) :
    (undL W ⟨bi, bo, bx, bY, wn, hn⟩).take (y * wn + (x + 1)) = (undL W ⟨bi, bo, bx, bY, wn, hn⟩).take (y * wn + x) ++ [bx + x + P] := by
  have hk : y * wn + x < wn * hn := by
    have := Nat.mul_le_mul_left wn (show y + 1 ≤ hn by omega)
    rw [Nat.mul_add, Nat.mul_one, Nat.mul_comm] at this
    omega
  have hl : y * wn + x < (undL W ⟨bi, bo, bx, bY, wn, hn⟩).length := by rw [undL_len]; simpa using hk
  rw [← Nat.add_assoc, List.take_succ_eq_append_getElem hl]
  congr 2
  have := undL_getD W ⟨bi, bo, bx, bY, wn, hn⟩ (y * wn + x) (by simpa using hk)
  rw [List.getD, List.getElem?_eq_getElem hl] at this
  simp only [Option.getD_some] at this
  rw [this]
  unfold undAt
  simp only [Int.toNat_natCast]
  rw [Nat.mul_comm y wn, Nat.mul_add_mod, Nat.mod_eq_of_lt hx, Nat.mul_add_div (by omega), Nat.div_eq_of_lt hx, Nat.add_zero, hP]
theorem nat_mul {a b N : Nat} (h : (a : Int) * (b : Int) = (N : Int)) : N = a * b := by
  have : ((N : Nat) : Int) = ((a * b : Nat) : Int) := by rw [← h]; simp
  omega
theorem own_lt {w : World} {base : Nat} {e : TypeId} {size n m cap g : Nat} {xs : List Value} (h : w.ownsRow base e size (.slice (some ⟨g, 0, none⟩) m cap) n xs) : g < w.heap.size := by
  rcases h.2 with ⟨h, _⟩ | ⟨g', cap', cur, hv, _, hg, _⟩
  · simp at h
  · simp at hv
    obtain ⟨rfl, _⟩ := hv
    exact (Array.getElem?_eq_some_iff.1 hg).1
theorem one_at (w : World) (v : Value) (T : TypeId) : ∀ j u, [v][j]? = some u → (w.alloc (.cells #[v] T)).cell? ((⟨w.heap.size, 0, none⟩ : Addr).add j) = some u := by
  intro j u hu
  match j, hu with
  | 0, hu => simp at hu; subst hu; simp [Addr.add]
set_option maxRecDepth 100000 in
set_option maxHeartbeats 1600000 in
theorem under_go (W H : Int) (a : Option Addr) (n c : Nat) (bi bo bx bY : Int) (wn hn : Nat) (w : World) (w1 : 1 ≤ W) (w2 : W ≤ 128) (h1 : 1 ≤ H) (h2 : H ≤ 128) (f : FmOk ⟨bi, bo, bx, bY, wn, hn⟩) (i : InOk W H ⟨bi, bo, bx, bY, wn, hn⟩) :
    Calls Tryd.prog 77 #[.agg #[.int .i64 W, .int .i64 H, .slice a n c], .agg #[.int .i64 bi, .int .i64 bo, .int .i64 bx, .int .i64 bY, .int .i64 wn, .int .i64 hn]] w (UndR w W ⟨bi, bo, bx, bY, wn, hn⟩) := by
  have info_i : (Tryd.prog.info? 3).map (fun i => (i.zero, i.size, i.bytes)) = some (some (.int .i64 0), 1, 8) := by kernel_rfl
  obtain ⟨i0, hi, hz0, hz1, hz2⟩ := info_parts info_i
  clear info_i
  have q1 := f.w1; have q2 := f.w2; have q3 := f.h1; have q4 := f.h2
  have q5 := i.x1; have q6 := i.x2; have q7 := i.y1; have q8 := i.y2
  simp only at q1 q2 q3 q4 q5 q6 q7 q8
  clear f i
  have hW0 : Hk (Below w.heap.size w ((w.alloc (.cells #[.int .i64 W, .int .i64 H, .slice a n c] 24)).alloc (.cells #[.int .i64 bi, .int .i64 bo, .int .i64 bx, .int .i64 bY, .int .i64 wn, .int .i64 hn] 96))) := ⟨((Below.refl _ _).alloc (Nat.le_refl _) _).alloc (by simp) _⟩
  obtain ⟨N, hN⟩ : ∃ N : Nat, (wn : Int) * (hn : Int) = (N : Int) := ⟨wn * hn, by simp⟩
  have hN' : Hk (N = wn * hn) := ⟨nat_mul hN⟩
  have N16 : N ≤ 16 := by
    have := Nat.mul_le_mul (show wn ≤ 4 by omega) (show hn ≤ 4 by omega)
    have := hN'.out
    omega
  go_enter Tryd.func77, Tryd.ntmps77
  have hNW : w.heap.size + 2 ≤ ((w.alloc (.cells #[.int .i64 W, .int .i64 H, .slice a n c] 24)).alloc (.cells #[.int .i64 bi, .int .i64 bo, .int .i64 bx, .int .i64 bY, .int .i64 wn, .int .i64 hn] 96)).heap.size := by simp
  go_wp2_with (at_make; go_must (refine wpList_make_own _ rfl _ _ 25 rfl (w.heap.size + 2) 3 i0 (.int .i64 0) 1 Tryd.underlying25 hi hz0 hz1 .i64 .i64 _ N rfl rfl rfl (by rw [hz2]; omega) (by unfold maxLen; omega) (by simp) ?_); intro z1 hown hgrow; have HB : Hk (Below (w.heap.size + 2) ((w.alloc (.cells #[.int .i64 W, .int .i64 H, .slice a n c] 24)).alloc (.cells #[.int .i64 bi, .int .i64 bo, .int .i64 bx, .int .i64 bY, .int .i64 wn, .int .i64 hn] 96)) z1) := ⟨(below_grown hgrow).mono hNW⟩; obtain ⟨hc, hf, hl, hn, hm⟩ := kw_rules HB.out hNW)
  have hz := own_lt hown
  clear hgrow hc hf hl hn hm
  have HG : Hk (w.heap.size + 1 + 1 < z1.heap.size) := ⟨by simpa using hz⟩
  clear hz
  go_loopw [5, 16] (fun s i wr => ∃ y : Nat, i = .int .i64 y ∧ y ≤ hn ∧ s = .slice (some ⟨w.heap.size + 1 + 1, 0, none⟩) (y * wn) N ∧ Hk (wr.ownsRow (w.heap.size + 2) 3 1 (.slice (some ⟨w.heap.size + 1 + 1, 0, none⟩) (y * wn) N) (y * wn) ((undL W ⟨bi, bo, bx, bY, wn, hn⟩).take (y * wn) |>.map (Value.int .i64))) ∧ Hk (Below (w.heap.size + 2) ((w.alloc (.cells #[.int .i64 W, .int .i64 H, .slice a n c] 24)).alloc (.cells #[.int .i64 bi, .int .i64 bo, .int .i64 bx, .int .i64 bY, .int .i64 wn, .int .i64 hn] 96)) wr)) (fun _ i _ => hn - (intOf i).toNat)
  case atStart => exact ⟨0, rfl, Nat.zero_le _, by simp, ⟨by simpa using hown⟩, HB⟩
  case round =>
    clear HB hown
    obtain ⟨y, rfl, hy, rfl, HO, HB⟩ := hrel
    obtain ⟨hc, hf, hl, hn', hm⟩ := kw_rules HB.out hNW
    by_cases hlt : y < hn
    · have y2 : (y : Int) < (hn : Int) := by omega
      obtain ⟨P, hP⟩ : ∃ P, W * (bY + y) = P := ⟨_, rfl⟩
      have P0 : 0 ≤ P := by rw [← hP]; exact Int.mul_nonneg (by omega) (by omega)
      have P1 : P ≤ 16384 := by
        have := Int.mul_le_mul w2 (show bY + y ≤ 128 by omega) (by omega) (by omega)
        omega
      go_wp2_with fail
      obtain ⟨wo, rfl⟩ : ∃ wo : World, wo = wr := ⟨wr, rfl⟩
      clear hc hf hl hn' hm
      go_loopw [5, 21] (fun s i wr => ∃ x : Nat, i = .int .i64 x ∧ x ≤ wn ∧ s = .slice (some ⟨w.heap.size + 1 + 1, 0, none⟩) (y * wn + x) N ∧ Hk (wr.ownsRow (w.heap.size + 2) 3 1 (.slice (some ⟨w.heap.size + 1 + 1, 0, none⟩) (y * wn + x) N) (y * wn + x) ((undL W ⟨bi, bo, bx, bY, wn, hn⟩).take (y * wn + x) |>.map (Value.int .i64))) ∧ Hk (Below (w.heap.size + 2) ((w.alloc (.cells #[.int .i64 W, .int .i64 H, .slice a n c] 24)).alloc (.cells #[.int .i64 bi, .int .i64 bo, .int .i64 bx, .int .i64 bY, .int .i64 wn, .int .i64 hn] 96)) wr)) (fun _ i _ => wn - (intOf i).toNat)
      case atStart => exact ⟨0, rfl, Nat.zero_le _, rfl, HO, HB⟩
      case round =>
        clear HB HO
        obtain ⟨x, rfl, hx, rfl, HO, HB⟩ := hrel
        obtain ⟨hc, hf, hl, hn', hm⟩ := kw_rules HB.out hNW
        by_cases hlx : x < wn
        · have x2 : (x : Int) < (wn : Int) := by omega
          have hkN : y * wn + x + 1 ≤ N := by
            have := hN'.out
            have := Nat.mul_le_mul_left wn (show y + 1 ≤ hn by omega)
            rw [Nat.mul_add, Nat.mul_one, Nat.mul_comm wn y] at this
            omega
          have HS := Hk.mk (und_snoc W bi bo bx bY wn hn y x hlx hlt hP)
          obtain ⟨K, hK⟩ : ∃ K, y * wn + x = K := ⟨_, rfl⟩
          have HK := Hk.mk hK
          rw [hK] at HO hkN
          simp only [hK]
          clear hK
          have hgl := own_lt HO.out
          go_wp2_with (at_builtin; go_must (refine wpList_append_fits _ rfl _ _ 25 rfl (w.heap.size + 2) 3 i0 1 Tryd.underlying25 hi hz1 (w.heap.size + 1 + 1) K N _ rfl (HO.out.alloc _) ⟨wr.heap.size, 0, none⟩ 1 1 [.int .i64 (bx + x + P)] rfl rfl (one_at _ _ _) (by intro u hu; simp at hu; subst hu; rfl) hkN ?_); intro z2 hown2 hgrow2)
          have HB2 := Hk.mk ((HB.out.alloc (kw_size HB.out hNW) (.cells #[.int .i64 (bx + x + P)] 3)).grown hgrow2 (by have := kw_size HB.out hNW; simp; omega) (by intro k h; injection h with h; omega))
          exact ⟨⟨x + 1, by go_num, by omega, by have h9 := HK.out; subst h9; rfl, ⟨by rw [HS.out, List.map_append, ← Nat.add_assoc, HK.out]; exact hown2⟩, HB2⟩, by simp [intOf]; omega⟩
        · have hxw : x = wn := by omega
          subst hxw
          go_wp2
          exact ⟨⟨y + 1, by go_num, by omega, by rw [Nat.add_mul, Nat.one_mul], ⟨by rw [Nat.add_mul, Nat.one_mul]; exact HO.out⟩, HB⟩, by simp [intOf]; omega⟩
    · have hyh : y = hn := by omega
      subst hyh
      have HE : y * wn = N := by rw [hN'.out, Nat.mul_comm]
      rw [HE] at HO
      simp only [HE]
      go_wp2
      go_ret
      exact ⟨w.heap.size + 1 + 1, by rw [hN'.out]; simp, by omega, ⟨by rw [undL_len], fun hn0 => ⟨_, 0, rfl, by omega, fun k hk => by
        have hk' : k < N := by rw [hN'.out]; simpa using hk
        rw [Nat.zero_add, HO.out.cellAt k (by omega)]
        have hl : ((undL W ⟨bi, bo, bx, bY, wn, y⟩).take N).length = N := by rw [List.length_take, undL_len]; simp [hN'.out]
        rw [List.getElem?_map, List.getElem?_take, if_pos hk']
        simp [List.getD, List.getElem?_eq_getElem (show k < (undL W ⟨bi, bo, bx, bY, wn, y⟩).length by rw [undL_len]; simpa using hk)]⟩⟩, own_lt HO.out, hW0.out.trans (HB.out.mono (by omega))⟩
theorem under_any (W H : Int) (a : Option Addr) (n c : Nat) (b : Bd) (w : World) (w1 : 1 ≤ W) (w2 : W ≤ 128) (h1 : 1 ≤ H) (h2 : H ≤ 128) (f : FmOk b) (i : InOk W H b) :
    Calls Tryd.prog 77 #[.agg #[.int .i64 W, .int .i64 H, .slice a n c], .agg #[.int .i64 b.i, .int .i64 b.o, .int .i64 b.x, .int .i64 b.y, .int .i64 b.w, .int .i64 b.h]] w (UndR w W b) := by
  obtain ⟨bi, bo, bx, bY, bw, bh⟩ := b
  obtain ⟨wn, rfl⟩ : ∃ wn : Nat, bw = wn := ⟨bw.toNat, by have := f.w1; simp only at this; omega⟩
  obtain ⟨hn, rfl⟩ : ∃ hn : Nat, bh = hn := ⟨bh.toNat, by have := f.h1; simp only at this; omega⟩
  exact under_go W H a n c bi bo bx bY wn hn w w1 w2 h1 h2 f i
theorem under_as (N : Nat) (W H : Int) (a : Option Addr) (n c : Nat) (b : Bd) (w : World) (w1 : 1 ≤ W) (w2 : W ≤ 128) (h1 : 1 ≤ H) (h2 : H ≤ 128) (f : FmOk b) (i : InOk W H b) (E : Hk (b.w.toNat * b.h.toNat = N)) :
    Calls Tryd.prog 77 #[.agg #[.int .i64 W, .int .i64 H, .slice a n c], .agg #[.int .i64 b.i, .int .i64 b.o, .int .i64 b.x, .int .i64 b.y, .int .i64 b.w, .int .i64 b.h]] w fun e w' => ∃ g, e = .returned (.slice (some ⟨g, 0, none⟩) N N) ∧ w.heap.size ≤ g ∧ Nq w' (g + 1) (some ⟨g, 0, none⟩) N (undL W b) ∧ g < w'.heap.size ∧ Below w.heap.size w w' := by
  obtain ⟨rfl⟩ := E; exact under_any W H a n c b w w1 w2 h1 h2 f i
end Go.Proofs.YtjjodfdmbiebnaaDoor
