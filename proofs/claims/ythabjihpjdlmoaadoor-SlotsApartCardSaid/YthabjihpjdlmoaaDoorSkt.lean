import Derived.Deep.QuietTactic
import Derived.BigQuiet
import Derived.Deep.RegionWith
import Derived.Deep.RegionHeld3
import Derived.Deep.DeepCutAuto
import Derived.Deep.DeepFit
import Derived.Outline
import Derived.Test.YthabjihpjdlmoaaDoorSks
import Derived.Test.YthabjihpjdlmoaaDoorSkb
import Derived.Shelf.Abstract
/- Layer 8: the tiles under a building. -/
namespace Go.Proofs.YthabjihpjdlmoaaDoor
open Go.RowKit
set_option linter.unusedVariables false
/-- What under answers: new memory. -/
def UndR (w : World) (W : Int) (b : Bd) (e : Ending) (w' : World) : Prop := ∃ g, e = .returned (.slice (some ⟨g, 0, none⟩) (b.w.toNat * b.h.toNat) (b.w.toNat * b.h.toNat)) ∧ w.heap.size ≤ g ∧ Nq w' (g + 1) (some ⟨g, 0, none⟩) (b.w.toNat * b.h.toNat) (undL W b) ∧ g < w'.heap.size ∧ Below w.heap.size w w'
theorem und_snoc (W : Int) (bi bo bx bY : Int) (wn hn y x : Nat) (hx : x < wn) (hy : y < hn) {P : Int} (hP : W * (bY + y) = P) :
    (undL W ⟨bi, bo, bx, bY, wn, hn⟩).take (y * wn + (x + 1)) = (undL W ⟨bi, bo, bx, bY, wn, hn⟩).take (y * wn + x) ++ [bx + x + P] := by
  have hk : y * wn + x < wn * hn := by
    have := Nat.mul_le_mul_left wn (show y + 1 ≤ hn by omega)
    rw [Nat.mul_add, Nat.mul_one, Nat.mul_comm] at this
    omega
  have hl : y * wn + x < (undL W ⟨bi, bo, bx, bY, wn, hn⟩).length := by rw [undL_len]; simpa using hk
  rw [← Nat.add_assoc, List.take_succ_eq_append_getElem hl]
  congr 2
  have := undL_getD W ⟨bi, bo, bx, bY, wn, hn⟩ (y * wn + x) (by simpa using hk)
  rw [List.getD, List.getElem?_eq_getElem hl] at this
  simp only [Option.getD_some] at this
  rw [this]
  unfold undAt
  simp only [Int.toNat_natCast]
  rw [Nat.mul_comm y wn, Nat.mul_add_mod, Nat.mod_eq_of_lt hx, Nat.mul_add_div (by omega), Nat.div_eq_of_lt hx, Nat.add_zero, hP]
theorem nat_mul {a b N : Nat} (h : (a : Int) * (b : Int) = (N : Int)) : N = a * b := by
  have : ((N : Nat) : Int) = ((a * b : Nat) : Int) := by rw [← h]; simp
  omega
theorem own_lt {w : World} {base : Nat} {e : TypeId} {size n m cap g : Nat} {xs : List Value} (h : w.ownsRow base e size (.slice (some ⟨g, 0, none⟩) m cap) n xs) : g < w.heap.size := by
  rcases h.2 with ⟨h, _⟩ | ⟨g', cap', cur, hv, _, hg, _⟩
  · simp at h
  · simp at hv
    obtain ⟨rfl, _⟩ := hv
    exact (Array.getElem?_eq_some_iff.1 hg).1
theorem one_at (w : World) (v : Value) (T : TypeId) : ∀ j u, [v][j]? = some u → (w.alloc (.cells #[v] T)).cell? ((⟨w.heap.size, 0, none⟩ : Addr).add j) = some u := by
  intro j u hu
  match j, hu with
  | 0, hu => simp at hu; subst hu; simp [Addr.add]
set_option maxRecDepth 100000 in
set_option maxHeartbeats 1600000 in
theorem under_go (W H : Int) (a : Option Addr) (n c : Nat) (bi bo bx bY : Int) (wn hn : Nat) (w : World) (w1 : 1 ≤ W) (w2 : W ≤ 128) (h1 : 1 ≤ H) (h2 : H ≤ 128) (f : FmOk ⟨bi, bo, bx, bY, wn, hn⟩) (i : InOk W H ⟨bi, bo, bx, bY, wn, hn⟩) :
    Calls Tryd.prog 133 #[.agg #[.int .i64 W, .int .i64 H, .slice a n c], .agg #[.int .i64 bi, .int .i64 bo, .int .i64 bx, .int .i64 bY, .int .i64 wn, .int .i64 hn]] w (UndR w W ⟨bi, bo, bx, bY, wn, hn⟩) := by
  have info_i : (Tryd.prog.info? 3).map (fun i => (i.zero, i.size, i.bytes)) = some (some (.int .i64 0), 1, 8) := by kernel_rfl
  obtain ⟨i0, hi, hz0, hz1, hz2⟩ := info_parts info_i
  clear info_i
  have q1 := f.w1; have q2 := f.w2; have q3 := f.h1; have q4 := f.h2
  have q5 := i.x1; have q6 := i.x2; have q7 := i.y1; have q8 := i.y2
  simp only at q1 q2 q3 q4 q5 q6 q7 q8
  clear f i
  have hW0 : Hk (Below w.heap.size w ((w.alloc (.cells #[.int .i64 W, .int .i64 H, .slice a n c] 24)).alloc (.cells #[.int .i64 bi, .int .i64 bo, .int .i64 bx, .int .i64 bY, .int .i64 wn, .int .i64 hn] 121))) := ⟨((Below.refl _ _).alloc (Nat.le_refl _) _).alloc (by simp) _⟩
  obtain ⟨N, hN⟩ : ∃ N : Nat, (wn : Int) * (hn : Int) = (N : Int) := ⟨wn * hn, by simp⟩
  have hN' : Hk (N = wn * hn) := ⟨nat_mul hN⟩
  have N16 : N ≤ 16 := by
    have := Nat.mul_le_mul (show wn ≤ 4 by omega) (show hn ≤ 4 by omega)
    have := hN'.out
    omega
  go_enter Tryd.func133, Tryd.ntmps133
  have hNW : w.heap.size + 2 ≤ ((w.alloc (.cells #[.int .i64 W, .int .i64 H, .slice a n c] 24)).alloc (.cells #[.int .i64 bi, .int .i64 bo, .int .i64 bx, .int .i64 bY, .int .i64 wn, .int .i64 hn] 121)).heap.size := by simp
  go_wp2_with (at_make; go_must (refine wpList_make_own _ rfl _ _ 26 rfl (w.heap.size + 2) 3 i0 (.int .i64 0) 1 Tryd.underlying26 hi hz0 hz1 .i64 .i64 _ N rfl rfl rfl (by rw [hz2]; omega) (by unfold maxLen; omega) (by simp) ?_); intro z1 hown hgrow; have HB : Hk (Below (w.heap.size + 2) ((w.alloc (.cells #[.int .i64 W, .int .i64 H, .slice a n c] 24)).alloc (.cells #[.int .i64 bi, .int .i64 bo, .int .i64 bx, .int .i64 bY, .int .i64 wn, .int .i64 hn] 121)) z1) := ⟨(below_grown hgrow).mono hNW⟩; obtain ⟨hc, hf, hl, hn, hm⟩ := kw_rules HB.out hNW)
  have hz := own_lt hown
  clear hgrow hc hf hl hn hm
  have HG : Hk (w.heap.size + 1 + 1 < z1.heap.size) := ⟨by simpa using hz⟩
  clear hz
  go_loopw [5, 16] (fun s i wr => ∃ y : Nat, i = .int .i64 y ∧ y ≤ hn ∧ s = .slice (some ⟨w.heap.size + 1 + 1, 0, none⟩) (y * wn) N ∧ Hk (wr.ownsRow (w.heap.size + 2) 3 1 (.slice (some ⟨w.heap.size + 1 + 1, 0, none⟩) (y * wn) N) (y * wn) ((undL W ⟨bi, bo, bx, bY, wn, hn⟩).take (y * wn) |>.map (Value.int .i64))) ∧ Hk (Below (w.heap.size + 2) ((w.alloc (.cells #[.int .i64 W, .int .i64 H, .slice a n c] 24)).alloc (.cells #[.int .i64 bi, .int .i64 bo, .int .i64 bx, .int .i64 bY, .int .i64 wn, .int .i64 hn] 121)) wr)) (fun _ i _ => hn - (intOf i).toNat)
  case atStart => exact ⟨0, rfl, Nat.zero_le _, by simp, ⟨by simpa using hown⟩, HB⟩
  case round =>
    clear HB hown
    obtain ⟨y, rfl, hy, rfl, HO, HB⟩ := hrel
    obtain ⟨hc, hf, hl, hn', hm⟩ := kw_rules HB.out hNW
    by_cases hlt : y < hn
    · have y2 : (y : Int) < (hn : Int) := by omega
      obtain ⟨P, hP⟩ : ∃ P, W * (bY + y) = P := ⟨_, rfl⟩
      have P0 : 0 ≤ P := by rw [← hP]; exact Int.mul_nonneg (by omega) (by omega)
      have P1 : P ≤ 16384 := by
        have := Int.mul_le_mul w2 (show bY + y ≤ 128 by omega) (by omega) (by omega)
        omega
      go_wp2_with fail
      obtain ⟨wo, rfl⟩ : ∃ wo : World, wo = wr := ⟨wr, rfl⟩
      clear hc hf hl hn' hm
      go_loopw [5, 21] (fun s i wr => ∃ x : Nat, i = .int .i64 x ∧ x ≤ wn ∧ s = .slice (some ⟨w.heap.size + 1 + 1, 0, none⟩) (y * wn + x) N ∧ Hk (wr.ownsRow (w.heap.size + 2) 3 1 (.slice (some ⟨w.heap.size + 1 + 1, 0, none⟩) (y * wn + x) N) (y * wn + x) ((undL W ⟨bi, bo, bx, bY, wn, hn⟩).take (y * wn + x) |>.map (Value.int .i64))) ∧ Hk (Below (w.heap.size + 2) ((w.alloc (.cells #[.int .i64 W, .int .i64 H, .slice a n c] 24)).alloc (.cells #[.int .i64 bi, .int .i64 bo, .int .i64 bx, .int .i64 bY, .int .i64 wn, .int .i64 hn] 121)) wr)) (fun _ i _ => wn - (intOf i).toNat)
      case atStart => exact ⟨0, rfl, Nat.zero_le _, rfl, HO, HB⟩
      case round =>
        clear HB HO
        obtain ⟨x, rfl, hx, rfl, HO, HB⟩ := hrel
        obtain ⟨hc, hf, hl, hn', hm⟩ := kw_rules HB.out hNW
        by_cases hlx : x < wn
        · have x2 : (x : Int) < (wn : Int) := by omega
          have hkN : y * wn + x + 1 ≤ N := by
            have := hN'.out
            have := Nat.mul_le_mul_left wn (show y + 1 ≤ hn by omega)
            rw [Nat.mul_add, Nat.mul_one, Nat.mul_comm wn y] at this
            omega
          have HS := Hk.mk (und_snoc W bi bo bx bY wn hn y x hlx hlt hP)
          obtain ⟨K, hK⟩ : ∃ K, y * wn + x = K := ⟨_, rfl⟩
          have HK := Hk.mk hK
          rw [hK] at HO hkN
          simp only [hK]
          clear hK
          have hgl := own_lt HO.out
          go_wp2_with (at_builtin; go_must (refine wpList_append_fits _ rfl _ _ 26 rfl (w.heap.size + 2) 3 i0 1 Tryd.underlying26 hi hz1 (w.heap.size + 1 + 1) K N _ rfl (HO.out.alloc _) ⟨wr.heap.size, 0, none⟩ 1 1 [.int .i64 (bx + x + P)] rfl rfl (one_at _ _ _) (by intro u hu; simp at hu; subst hu; rfl) hkN ?_); intro z2 hown2 hgrow2)
          have HB2 := Hk.mk ((HB.out.alloc (kw_size HB.out hNW) (.cells #[.int .i64 (bx + x + P)] 3)).grown hgrow2 (by have := kw_size HB.out hNW; simp; omega) (by intro k h; injection h with h; omega))
          exact ⟨⟨x + 1, by go_num, by omega, by have h9 := HK.out; subst h9; rfl, ⟨by rw [HS.out, List.map_append, ← Nat.add_assoc, HK.out]; exact hown2⟩, HB2⟩, by simp [intOf]; omega⟩
        · have hxw : x = wn := by omega
          subst hxw
          go_wp2
          exact ⟨⟨y + 1, by go_num, by omega, by rw [Nat.add_mul, Nat.one_mul], ⟨by rw [Nat.add_mul, Nat.one_mul]; exact HO.out⟩, HB⟩, by simp [intOf]; omega⟩
    · have hyh : y = hn := by omega
      subst hyh
      have HE : y * wn = N := by rw [hN'.out, Nat.mul_comm]
      rw [HE] at HO
      simp only [HE]
      go_wp2
      go_ret
      exact ⟨w.heap.size + 1 + 1, by rw [hN'.out]; simp, by omega, ⟨by rw [undL_len], fun hn0 => ⟨_, 0, rfl, by omega, fun k hk => by
        have hk' : k < N := by rw [hN'.out]; simpa using hk
        rw [Nat.zero_add, HO.out.cellAt k (by omega)]
        have hl : ((undL W ⟨bi, bo, bx, bY, wn, y⟩).take N).length = N := by rw [List.length_take, undL_len]; simp [hN'.out]
        rw [List.getElem?_map, List.getElem?_take, if_pos hk']
        simp [List.getD, List.getElem?_eq_getElem (show k < (undL W ⟨bi, bo, bx, bY, wn, y⟩).length by rw [undL_len]; simpa using hk)]⟩⟩, own_lt HO.out, hW0.out.trans (HB.out.mono (by omega))⟩
theorem under_any (W H : Int) (a : Option Addr) (n c : Nat) (b : Bd) (w : World) (w1 : 1 ≤ W) (w2 : W ≤ 128) (h1 : 1 ≤ H) (h2 : H ≤ 128) (f : FmOk b) (i : InOk W H b) :
    Calls Tryd.prog 133 #[.agg #[.int .i64 W, .int .i64 H, .slice a n c], .agg #[.int .i64 b.i, .int .i64 b.o, .int .i64 b.x, .int .i64 b.y, .int .i64 b.w, .int .i64 b.h]] w (UndR w W b) := by
  obtain ⟨bi, bo, bx, bY, bw, bh⟩ := b
  obtain ⟨wn, rfl⟩ : ∃ wn : Nat, bw = wn := ⟨bw.toNat, by have := f.w1; simp only at this; omega⟩
  obtain ⟨hn, rfl⟩ : ∃ hn : Nat, bh = hn := ⟨bh.toNat, by have := f.h1; simp only at this; omega⟩
  exact under_go W H a n c bi bo bx bY wn hn w w1 w2 h1 h2 f i
theorem under_as (N : Nat) (W H : Int) (a : Option Addr) (n c : Nat) (b : Bd) (w : World) (w1 : 1 ≤ W) (w2 : W ≤ 128) (h1 : 1 ≤ H) (h2 : H ≤ 128) (f : FmOk b) (i : InOk W H b) (E : Hk (b.w.toNat * b.h.toNat = N)) :
    Calls Tryd.prog 133 #[.agg #[.int .i64 W, .int .i64 H, .slice a n c], .agg #[.int .i64 b.i, .int .i64 b.o, .int .i64 b.x, .int .i64 b.y, .int .i64 b.w, .int .i64 b.h]] w fun e w' => ∃ g, e = .returned (.slice (some ⟨g, 0, none⟩) N N) ∧ w.heap.size ≤ g ∧ Nq w' (g + 1) (some ⟨g, 0, none⟩) N (undL W b) ∧ g < w'.heap.size ∧ Below w.heap.size w w' := by
  obtain ⟨rfl⟩ := E; exact under_any W H a n c b w w1 w2 h1 h2 f i
end Go.Proofs.YthabjihpjdlmoaaDoor
/- The library's IndexFunc and ContainsFunc over numbers: a test that makes memory at most. -/
namespace Go.Proofs.YthabjihpjdlmoaaDoor
open Go.RowKit
set_option linter.unusedVariables false
theorem any_drop {xs : List Int} {p : Int → Bool} {k : Nat} (h : k < xs.length) : (xs.drop k).any p = (p (xs.getD k 0) || (xs.drop (k + 1)).any p) := by
  have e : xs.getD k 0 = xs[k] := by simp [List.getD, List.getElem?_eq_getElem h]
  rw [List.drop_eq_getElem_cons h, List.any_cons, e]
set_option maxRecDepth 100000 in
theorem idxf_as (r : Bool) (F : FuncId) (cb : Array Value) (eg : ∀ args w, (callFunc F args).run Tryd.prog w = .ok (.enter F args) w) (p : Int → Bool) (a : Option Addr) (n c B : Nat) (xs : List Int) (w : World) (h : Nq w B a n xs) (hB : B ≤ w.heap.size) (hn : n ≤ 1099511627776)
    (hp : ∀ X, Below w.heap.size w X → ∀ k, k < n → Calls Tryd.prog F (#[.int .i64 (xs.getD k 0)] ++ cb) X fun e w' => e = .returned (.bool (p (xs.getD k 0))) ∧ Below X.heap.size X w') (E : Hk (xs.any p = r)) :
    Calls Tryd.prog 144 #[.slice a n c, .func (.func F) #[] cb] w fun e w' => (∃ v, e = .returned (.int .i64 v) ∧ decide (0 ≤ v) = r) ∧ Below w.heap.size w w' := by
  have HH := Hk.mk h
  have HP := Hk.mk hp
  clear h hp
  go_enter Tryd.func144, Tryd.ntmps144
  go_wp2_with fail
  go_loopw [8] (fun i wr => ∃ k : Nat, i = .int .i64 k ∧ k ≤ n ∧ Hk ((xs.drop k).any p = r) ∧ Hk (Below w.heap.size w wr)) (fun i _ => n - (intOf i).toNat)
  case atStart => exact ⟨0, rfl, Nat.zero_le _, ⟨by simpa using E.out⟩, ⟨Below.refl _ _⟩⟩
  case round =>
    obtain ⟨k, rfl, hk, HR, HB⟩ := hrel
    obtain ⟨hc, hf, hl, hn', hm⟩ := kw_rules HB.out (Nat.le_refl _)
    by_cases hlt : k < n
    · obtain ⟨b, off, rfl, hb, hcells⟩ := HH.out.rd (by omega)
      have hbw : b < w.heap.size := by omega
      have p0 := hcells k hlt
      have hp := HP.out _ HB.out k hlt
      have hr := HR.out
      rw [any_drop (by rw [HH.out.len]; exact hlt)] at hr
      obtain ⟨x, hx⟩ : ∃ x, xs.getD k 0 = x := ⟨_, rfl⟩
      rw [hx] at p0 hp hr
      have HRx := Hk.mk hr
      have HPx := Hk.mk hp
      clear hcells hx hp hr
      have j1 : (0 : Int) ≤ (k : Int) := by omega
      have j2 : (k : Int) < (n : Int) := by omega
      go_wp2_with fail
      refine HPx.out.mono ?_
      rintro e z ⟨rfl, hbz⟩
      have HB2 := Hk.mk (kw_step HB.out (Nat.le_refl _) hbz)
      clear hbz
      cases hpx : p x
      case true =>
        have HRy : Hk (true = r) := ⟨by rw [← HRx.out, hpx]; rfl⟩
        clear HRx HPx
        go_wp2
        go_ret
        exact ⟨⟨_, rfl, by rw [← HRy.out]; simp⟩, HB2.out⟩
      case false =>
        have HRy : Hk ((xs.drop (k + 1)).any p = r) := ⟨by rw [← HRx.out, hpx]; rfl⟩
        clear HRx HPx
        go_wp2
        exact ⟨⟨k + 1, by go_num, by omega, HRy, HB2⟩, by simp [intOf]; omega⟩
    · have hkn : k = n := by omega
      subst hkn
      have R : Hk (false = r) := ⟨by have := HR.out; rw [List.drop_of_length_le (by rw [HH.out.len]; omega)] at this; exact this⟩
      go_wp2
      go_ret
      exact ⟨⟨_, rfl, by rw [← R.out]; rfl⟩, HB.out⟩
theorem contf_as (r : Bool) (F : FuncId) (cb : Array Value) (eg : ∀ args w, (callFunc F args).run Tryd.prog w = .ok (.enter F args) w) (p : Int → Bool) (a : Option Addr) (n c B : Nat) (xs : List Int) (w : World) (h : Nq w B a n xs) (hB : B ≤ w.heap.size) (hn : n ≤ 1099511627776)
    (hp : ∀ X, Below w.heap.size w X → ∀ k, k < n → Calls Tryd.prog F (#[.int .i64 (xs.getD k 0)] ++ cb) X fun e w' => e = .returned (.bool (p (xs.getD k 0))) ∧ Below X.heap.size X w') (E : Hk (xs.any p = r)) :
    Calls Tryd.prog 141 #[.slice a n c, .func (.func F) #[] cb] w fun e w' => e = .returned (.bool r) ∧ Below w.heap.size w w' := by
  have HP := Hk.mk (idxf_as r F cb eg p a n c B xs w h hB hn hp E)
  clear h hp
  go_enter Tryd.func141, Tryd.ntmps141
  go_wp2_with (go_at_call 144; (with_reducible refine HP.out.mono ?_); rintro e z ⟨⟨v, rfl, hv⟩, hbz⟩; have HB2 := Hk.mk hbz; clear hbz)
  go_ret
  subst hv
  exact ⟨rbo (by simp), HB2.out⟩
end Go.Proofs.YthabjihpjdlmoaaDoor
/- Layer 8: whether the ground under a building is firm. -/
namespace Go.Proofs.YthabjihpjdlmoaaDoor
open Go.RowKit
set_option linter.unusedVariables false
theorem firm1_as (r : Bool) (t : Int) (P : Nat) (a : Option Addr) (n c B : Nat) (xs : List Int) (w : World) (h : By w B a n xs) (hn : n ≤ 20000) (d2 : w.cell? ⟨P, 2, none⟩ = some (.slice a n c)) (t0 : 0 ≤ t) (t1 : t < n) (E : Hk (decide (1 < xs.getD t.toNat 0) = r)) :
    Calls Tryd.prog 142 #[.int .i64 t, .pointer (some ⟨P, 0, none⟩)] w fun e w' => e = .returned (.bool r) ∧ w = w' := by
  obtain ⟨k, rfl⟩ : ∃ k : Nat, t = k := ⟨t.toNat, by omega⟩
  have hk : k < n := by omega
  obtain ⟨b, off, rfl, hbl, hc⟩ := h.at_ (by omega)
  have hcx := hc k hk
  have hx := h.bd hk
  have hE := E.out
  simp only [Int.toNat_natCast] at hE
  obtain ⟨x, e⟩ : ∃ x, xs.getD k 0 = x := ⟨_, rfl⟩
  rw [e] at hcx hx
  simp only [e] at hE
  have HE := Hk.mk hE
  clear hc h e hE
  go_enter Tryd.func142, Tryd.ntmps142
  go_wp2
  go_ret
  exact ⟨rbo HE.out, rfl⟩
theorem firm1_any (t : Int) (P : Nat) (a : Option Addr) (n c B : Nat) (xs : List Int) (w : World) (h : By w B a n xs) (hn : n ≤ 20000) (d2 : w.cell? ⟨P, 2, none⟩ = some (.slice a n c)) (t0 : 0 ≤ t) (t1 : t < n) :
    Calls Tryd.prog 142 #[.int .i64 t, .pointer (some ⟨P, 0, none⟩)] w fun e w' => e = .returned (.bool (decide (1 < xs.getD t.toNat 0))) ∧ w = w' := firm1_as _ t P a n c B xs w h hn d2 t0 t1 ⟨rfl⟩
theorem frB_any (W : Int) (xs : List Int) (b : Bd) : (undL W b).any (fun t => decide (1 < xs.getD t.toNat 0)) = !(frB W xs b) := by
  unfold frB
  rw [List.not_all_eq_any_not]
  congr 1
  funext t
  rw [← decide_not]
  congr 1
  exact propext ⟨by omega, by omega⟩
theorem n16_of {b : Bd} (f : FmOk b) : b.w.toNat * b.h.toNat ≤ 16 := by
  have := Nat.mul_le_mul (show b.w.toNat ≤ 4 by have := f.w2; omega) (show b.h.toNat ≤ 4 by have := f.h2; omega)
  omega
set_option maxRecDepth 100000 in
theorem firm_any (W H : Int) (a : Option Addr) (n c B : Nat) (xs : List Int) (b : Bd) (w : World) (h : By w B a n xs) (hB : B ≤ w.heap.size) (g : GOk W H n xs) (f : FmOk b) (i : InOk W H b) :
    Calls Tryd.prog 132 #[.agg #[.int .i64 W, .int .i64 H, .slice a n c], .agg #[.int .i64 b.i, .int .i64 b.o, .int .i64 b.x, .int .i64 b.y, .int .i64 b.w, .int .i64 b.h]] w fun e w' => e = .returned (.bool (frB W xs b)) ∧ Below w.heap.size w w' := by
  have eg : ∀ args w, (callFunc 142 args).run Tryd.prog w = .ok (.enter 142 args) w := enters_of Tryd.func142 (by kernel_rfl) rfl
  obtain ⟨m1, m2⟩ := mul_bd g.w1 g.w2 g.h1 g.h2
  have hn : n ≤ 16384 := by have := g.nn; omega
  have w1 := g.w1; have w2 := g.w2; have h1 := g.h1; have h2 := g.h2
  have hnn := Hk.mk g.nn
  have FF := Hk.mk f
  have II := Hk.mk i
  have EG := Hk.mk eg
  have n16 := n16_of f
  have HWB : Hk (Below w.heap.size w ((w.alloc (.cells #[.int .i64 W, .int .i64 H, .slice a n c] 24)).alloc (.cells #[.int .i64 b.i, .int .i64 b.o, .int .i64 b.x, .int .i64 b.y, .int .i64 b.w, .int .i64 b.h] 121))) := ⟨((Below.refl _ _).alloc (Nat.le_refl _) _).alloc (by simp) _⟩
  have hNW : w.heap.size + 2 ≤ ((w.alloc (.cells #[.int .i64 W, .int .i64 H, .slice a n c] 24)).alloc (.cells #[.int .i64 b.i, .int .i64 b.o, .int .i64 b.x, .int .i64 b.y, .int .i64 b.w, .int .i64 b.h] 121)).heap.size := by simp
  have HB : Hk (Below (w.heap.size + 2) ((w.alloc (.cells #[.int .i64 W, .int .i64 H, .slice a n c] 24)).alloc (.cells #[.int .i64 b.i, .int .i64 b.o, .int .i64 b.x, .int .i64 b.y, .int .i64 b.w, .int .i64 b.h] 121)) ((w.alloc (.cells #[.int .i64 W, .int .i64 H, .slice a n c] 24)).alloc (.cells #[.int .i64 b.i, .int .i64 b.o, .int .i64 b.x, .int .i64 b.y, .int .i64 b.w, .int .i64 b.h] 121))) := ⟨Below.refl _ _⟩
  have HBY := Hk.mk (fun (X : World) (hX : Below (w.heap.size + 2) ((w.alloc (.cells #[.int .i64 W, .int .i64 H, .slice a n c] 24)).alloc (.cells #[.int .i64 b.i, .int .i64 b.o, .int .i64 b.x, .int .i64 b.y, .int .i64 b.w, .int .i64 b.h] 121)) X) => h.below (HWB.out.trans (hX.mono (by omega))) hB)
  have HD : Hk (∀ X, Below (w.heap.size + 2) ((w.alloc (.cells #[.int .i64 W, .int .i64 H, .slice a n c] 24)).alloc (.cells #[.int .i64 b.i, .int .i64 b.o, .int .i64 b.x, .int .i64 b.y, .int .i64 b.w, .int .i64 b.h] 121)) X → X.cell? ⟨w.heap.size, 2, none⟩ = some (.slice a n c)) := ⟨fun X hX => (hX.cell (p := ⟨w.heap.size, 2, none⟩) (by show w.heap.size < _; omega)).trans (by go_simp)⟩
  clear h g f i eg
  obtain ⟨r, hr⟩ : ∃ r, frB W xs b = r := ⟨_, rfl⟩
  have ER : Hk ((undL W b).any (fun t => decide (1 < xs.getD t.toNat 0)) = !r) := ⟨by rw [frB_any, hr]⟩
  rw [hr]
  clear hr
  go_enter Tryd.func132, Tryd.ntmps132
  go_wp2_with (first | (go_at_call 133; (with_reducible refine (under_any W H a n c b _ w1 w2 h1 h2 FF.out II.out).mono ?_); rintro e z1 ⟨gg, rfl, hg1, hnq, hg2, hb⟩; replace HB := Hk.mk (kw_step HB.out hNW hb); have HNQ := Hk.mk hnq; have HG2 := Hk.mk hg2; obtain ⟨hc, hf, hl, hn', hm⟩ := kw_rules HB.out hNW; clear hb hnq) | (go_at_call 141; (with_reducible refine (contf_as (!r) 142 #[.pointer (some ⟨w.heap.size, 0, none⟩)] EG.out (fun t => decide (1 < xs.getD t.toNat 0)) (some ⟨gg, 0, none⟩) (b.w.toNat * b.h.toNat) (b.w.toNat * b.h.toNat) (gg + 1) (undL W b) _ HNQ.out (Nat.succ_le_of_lt HG2.out) (by omega) ?_ ER).mono ?_); (intro X hX k hk; have hX' := HB.out.trans (hX.mono (kw_size HB.out hNW)); have hu := und_md FF.out II.out hk; rw [undL_getD W b k hk]; exact (firm1_any (undAt W b k) w.heap.size a n c B xs X (HBY.out X hX') (by omega) (HD.out X hX') hu.2.2.1 (by have := hnn.out; omega)).mono (fun e w' h => ⟨h.1, h.2 ▸ Below.refl _ _⟩)); rintro e z2 ⟨rfl, hb⟩; replace HB := Hk.mk (kw_step HB.out hNW hb); clear hb))
  go_ret
  exact ⟨rbo (by simp), HWB.out.trans (HB.out.mono (by omega))⟩
end Go.Proofs.YthabjihpjdlmoaaDoor
/- Layer 8: the reference's firm. -/
namespace Go.Proofs.YthabjihpjdlmoaaDoor
open Go.RowKit
set_option linter.unusedVariables false
theorem frB_iff {W H : Int} {n : Nat} {xs : List Int} {b : Bd} (g : GOk W H n xs) (f : FmOk b) (i : InOk W H b) : frB W xs b = true ↔ ∀ k : Nat, k < n → hsB W b k = true → xs.getD k 0 ≤ 1 := by
  unfold frB
  rw [List.all_eq_true]
  constructor
  · intro h k hk hh
    have := h (k : Int) ((und_mem f i (by omega)).2 hh)
    simpa using this
  · intro h t ht
    obtain ⟨j, hj, rfl⟩ := List.mem_map.1 ht
    have hu := und_md f i (List.mem_range.1 hj)
    have hk : (undAt W b j).toNat < n := by have := g.nn; omega
    have := h _ hk (by rw [Int.toNat_of_nonneg hu.2.2.1]; exact (und_mem f i hu.2.2.1).1 ht)
    simpa using this
set_option maxRecDepth 100000 in
set_option maxHeartbeats 800000 in
theorem rfirm_any (W H : Int) (a : Option Addr) (n c B : Nat) (xs : List Int) (b : Bd) (w : World) (h : By w B a n xs) (hB : B ≤ w.heap.size) (g : GOk W H n xs) (f : FmOk b) (i : InOk W H b) :
    Calls Tryd.prog 87 #[.agg #[.int .i64 W, .int .i64 H, .slice a n c], .agg #[.int .i64 b.i, .int .i64 b.o, .int .i64 b.x, .int .i64 b.y, .int .i64 b.w, .int .i64 b.h]] w fun e w' => e = .returned (.bool (frB W xs b)) ∧ Below w.heap.size w w' := by
  obtain ⟨m1, m2⟩ := mul_bd g.w1 g.w2 g.h1 g.h2
  have hnn := g.nn
  have hn : n ≤ 16384 := by omega
  have w1 := g.w1; have w2 := g.w2; have h1 := g.h1; have h2 := g.h2
  have HI := Hk.mk (frB_iff g f i)
  have HT := Hk.mk g.ts
  have FF := Hk.mk f
  have II := Hk.mk i
  have hHB : Hk (Below w.heap.size w ((w.alloc (.cells #[.int .i64 W, .int .i64 H, .slice a n c] 24)).alloc (.cells #[.int .i64 b.i, .int .i64 b.o, .int .i64 b.x, .int .i64 b.y, .int .i64 b.w, .int .i64 b.h] 121))) := ⟨((Below.refl _ _).alloc (Nat.le_refl _) _).alloc (by simp) _⟩
  have hNW : w.heap.size + 2 ≤ ((w.alloc (.cells #[.int .i64 W, .int .i64 H, .slice a n c] 24)).alloc (.cells #[.int .i64 b.i, .int .i64 b.o, .int .i64 b.x, .int .i64 b.y, .int .i64 b.w, .int .i64 b.h] 121)).heap.size := by simp
  have HB : Hk (Below (w.heap.size + 2) ((w.alloc (.cells #[.int .i64 W, .int .i64 H, .slice a n c] 24)).alloc (.cells #[.int .i64 b.i, .int .i64 b.o, .int .i64 b.x, .int .i64 b.y, .int .i64 b.w, .int .i64 b.h] 121)) ((w.alloc (.cells #[.int .i64 W, .int .i64 H, .slice a n c] 24)).alloc (.cells #[.int .i64 b.i, .int .i64 b.o, .int .i64 b.x, .int .i64 b.y, .int .i64 b.w, .int .i64 b.h] 121))) := ⟨Below.refl _ _⟩
  have HY := Hk.mk h
  clear h g f i
  obtain ⟨r, hr⟩ : ∃ r, frB W xs b = r := ⟨_, rfl⟩
  have HR : Hk (r = true ↔ ∀ k : Nat, k < n → hsB W b k = true → xs.getD k 0 ≤ 1) := ⟨by rw [← hr]; exact HI.out⟩
  rw [hr]
  clear hr
  go_enter Tryd.func87, Tryd.ntmps87
  go_wp2_with fail
  go_loopw [5] (fun i wr => ∃ k : Nat, i = .int .i64 k ∧ k ≤ n ∧ Hk (∀ j : Nat, j < k → hsB W b j = true → xs.getD j 0 ≤ 1) ∧ Hk (Below (w.heap.size + 2) ((w.alloc (.cells #[.int .i64 W, .int .i64 H, .slice a n c] 24)).alloc (.cells #[.int .i64 b.i, .int .i64 b.o, .int .i64 b.x, .int .i64 b.y, .int .i64 b.w, .int .i64 b.h] 121)) wr)) (fun i _ => n - (intOf i).toNat)
  case atStart => exact ⟨0, rfl, Nat.zero_le _, ⟨fun j hj => absurd hj (by omega)⟩, HB⟩
  case round =>
    clear HB
    obtain ⟨k, rfl, hk, HJ, HB⟩ := hrel
    obtain ⟨hc, hf, hl, hn', hm⟩ := kw_rules HB.out hNW
    by_cases hlt : k < n
    · obtain ⟨bb, off, rfl, hbl, hcc⟩ := HY.out.at_ (by omega)
      have hbw : bb < w.heap.size := by omega
      have hbw2 : bb < w.heap.size + 1 := by omega
      have hbw3 : bb < w.heap.size + 2 := by omega
      have hcx := hcc k hlt
      have hx := HY.out.bd hlt
      have hmem := HT.out (xs.getD k 0) (getD_mem (by rw [HY.out.len]; exact hlt))
      obtain ⟨x, hxx⟩ : ∃ x, xs.getD k 0 = x := ⟨_, rfl⟩
      rw [hxx] at hcx hx hmem
      have HX := Hk.mk hxx
      clear hcc hxx
      have t0 : (0 : Int) ≤ (k : Int) := by omega
      have t1 : (k : Int) < W * H := by omega
      cases hq : hsB W b k
      case false =>
        have HJ2 : Hk (∀ j : Nat, j < k + 1 → hsB W b j = true → xs.getD j 0 ≤ 1) := ⟨fun j hj hh => by
          by_cases e : j = k
          · subst e; rw [hq] at hh; cases hh
          · exact HJ.out j (by omega) hh⟩
        have HQ := Hk.mk hq
        clear hq
        go_wp2_with (go_at_call 111; (with_reducible refine (has_as false W H k (some ⟨bb, off, none⟩) n c b _ w1 w2 h1 h2 t0 (by omega) FF.out II.out HQ).mono ?_); rintro e z ⟨rfl, hb⟩; have HB2 := Hk.mk (kw_step HB.out hNW hb); clear hb)
        exact ⟨⟨k + 1, by go_num, by omega, HJ2, HB2⟩, by simp [intOf]; omega⟩
      case true =>
        by_cases hx1 : 1 < x
        · have R : Hk (false = r) := ⟨by
            cases r
            · rfl
            · have := HR.out.1 rfl k hlt hq; rw [HX.out] at this; omega⟩
          have HQ := Hk.mk hq
          have c0 : (x != 0) = true := by simp; omega
          have c1 : (x != 1) = true := by simp; omega
          clear hq
          go_wp2_with (go_at_call 111; (with_reducible refine (has_as true W H k (some ⟨bb, off, none⟩) n c b _ w1 w2 h1 h2 t0 (by omega) FF.out II.out HQ).mono ?_); rintro e z ⟨rfl, hb⟩; have HB2 := Hk.mk (kw_step HB.out hNW hb); clear hc hf hl hn' hm; obtain ⟨hc, hf, hl, hn', hm⟩ := kw_rules HB2.out hNW; clear hb)
          go_ret
          exact ⟨rbo R.out, hHB.out.trans (HB2.out.mono (by omega))⟩
        · have HJ2 : Hk (∀ j : Nat, j < k + 1 → hsB W b j = true → xs.getD j 0 ≤ 1) := ⟨fun j hj hh => by
            by_cases e : j = k
            · subst e; rw [HX.out]; omega
            · exact HJ.out j (by omega) hh⟩
          have HQ := Hk.mk hq
          have c0 : x = 0 ∨ x = 1 := by omega
          clear hq hx1 hmem hx
          rcases c0 with rfl | rfl
          all_goals
            go_wp2_with (go_at_call 111; (with_reducible refine (has_as true W H k (some ⟨bb, off, none⟩) n c b _ w1 w2 h1 h2 t0 (by omega) FF.out II.out HQ).mono ?_); rintro e z ⟨rfl, hb⟩; have HB2 := Hk.mk (kw_step HB.out hNW hb); clear hc hf hl hn' hm; obtain ⟨hc, hf, hl, hn', hm⟩ := kw_rules HB2.out hNW; clear hb)
            exact ⟨⟨k + 1, by go_num, by omega, HJ2, HB2⟩, by simp [intOf]; omega⟩
    · have hkn : k = n := by omega
      subst hkn
      have R : Hk (true = r) := ⟨by symm; rw [HR.out]; exact HJ.out⟩
      go_wp2
      go_ret
      exact ⟨rbo R.out, hHB.out.trans (HB.out.mono (by omega))⟩
theorem rfirm_as (r : Bool) (W H : Int) (a : Option Addr) (n c B : Nat) (xs : List Int) (b : Bd) (w : World) (h : By w B a n xs) (hB : B ≤ w.heap.size) (g : GOk W H n xs) (f : FmOk b) (i : InOk W H b) (E : Hk (frB W xs b = r)) :
    Calls Tryd.prog 87 #[.agg #[.int .i64 W, .int .i64 H, .slice a n c], .agg #[.int .i64 b.i, .int .i64 b.o, .int .i64 b.x, .int .i64 b.y, .int .i64 b.w, .int .i64 b.h]] w fun e w' => e = .returned (.bool r) ∧ Below w.heap.size w w' := by
  obtain ⟨rfl⟩ := E; exact rfirm_any W H a n c B xs b w h hB g f i
theorem firm_as (r : Bool) (W H : Int) (a : Option Addr) (n c B : Nat) (xs : List Int) (b : Bd) (w : World) (h : By w B a n xs) (hB : B ≤ w.heap.size) (g : GOk W H n xs) (f : FmOk b) (i : InOk W H b) (E : Hk (frB W xs b = r)) :
    Calls Tryd.prog 132 #[.agg #[.int .i64 W, .int .i64 H, .slice a n c], .agg #[.int .i64 b.i, .int .i64 b.o, .int .i64 b.x, .int .i64 b.y, .int .i64 b.w, .int .i64 b.h]] w fun e w' => e = .returned (.bool r) ∧ Below w.heap.size w w' := by
  obtain ⟨rfl⟩ := E; exact firm_any W H a n c B xs b w h hB g f i
end Go.Proofs.YthabjihpjdlmoaaDoor
