/- Package codec: eight bytes of a number written; sums that grow with the bytes; what is hashed. -/
import Derived.Test.YtmkehmeoglpkeaaCoa
import Derived.Test.YtmkehmeoglpkeaaMpp
import Derived.Test.YtmkehmeoglpkeaaFnvb
namespace Go.Proofs.Ytmkehmeoglpkeaa
open Go.RowKit
set_option linter.unusedVariables false
theorem byt_one (w : World) (y : Int) (t : TypeId) (fr : Nat × Nat) (hy : Fn.Byt y) : By (w.alloc (.cells #[.int .u8 y] t fr)) (w.heap.size + 1) (some ⟨w.heap.size, 0, none⟩) 1 [y] :=
  By.lit w [y] t fr _ 1 rfl (fun b hb => by simp at hb; subst hb; exact hy) (Nat.lt_succ_self _)
set_option maxRecDepth 100000 in
theorem word_any (s : Int) (W base n : Nat) (v : Value) (xs : List Int) (w : World) (hs : Hk (Fn.U64 s)) (H : WrB w W base v n xs) (hbase : base ≤ w.heap.size) (hn : n ≤ 1099511000000) :
    Calls Try.prog 38 #[.pointer (some ⟨W, 0, none⟩), .int .u64 s] w (WPost W base (n + 8) (xs ++ Mp.eight s) w) := by
  have HW0 := Hk.mk H
  have HB0 := Hk.mk hbase
  clear H hbase
  go_enter Try.func38, Try.ntmps38
  go_wp2
  go_loopw [1, 4] (fun x i wr => ∃ (k : Nat) (v' : Value) (z : Int), x = .int .u64 z ∧ i = .int .i64 k ∧ k ≤ 8 ∧ Hk (s / 256 ^ k = z) ∧ Hk (WrB wr W base v' (n + k) (xs ++ (Mp.eight s).take k)) ∧ Hk (WS W w wr) ∧ Hk (base ≤ wr.heap.size)) (fun _ i _ => 8 - (intOf i).toNat)
  case atStart => exact ⟨0, v, s, rfl, rfl, by omega, ⟨by simp⟩, ⟨by simpa using HW0.out⟩, ⟨WS.refl _ _⟩, HB0⟩
  case round =>
    obtain ⟨k, v', z, rfl, rfl, hk, HZ, HW, HS1, HSZ⟩ := hrel
    by_cases hlt : k < 8
    · have HU : Hk (Fn.U64 z) := ⟨by rw [← HZ.out]; exact Mp.dig_u64 hs.out k⟩
      have hz0 : 0 ≤ z := HU.out.1
      obtain ⟨y, hy⟩ : ∃ y, Mp.dig s k = y := ⟨_, rfl⟩
      have hyz : z % 256 = y := by rw [← hy]; unfold Mp.dig; rw [HZ.out]
      have HYB : Hk (Fn.Byt y) := ⟨by rw [← hy]; exact Mp.dig_byt s k⟩
      have HY := Hk.mk hy
      clear hy
      go_wp2_with (go_at_call 21; (with_reducible refine (coadd_any W base (n + k) v' (xs ++ (Mp.eight s).take k) (some ⟨wr.heap.size, 0, none⟩) 1 1 (wr.heap.size + 1) [y] _ (HW.out.all ((Below.refl _ _).alloc (Nat.le_refl _) _)) ?_ (byt_one _ y _ _ HYB.out) ?_ ?_).mono ?_); (have := HSZ.out; simp; omega); (intro e0; cases e0); (omega); rintro e w2 ⟨v2, rfl, hw2, hs2⟩; have HW2 := Hk.mk hw2; have HS2 := Hk.mk (HS1.out.trans ((WS.of_all ((Below.refl wr.heap.size wr).alloc (Nat.le_refl _) (.cells #[.int .u8 y] 5)) HW.out.wlt).trans hs2)); have HSZ2 := Hk.mk (Nat.le_trans HSZ.out (Nat.le_trans (show wr.heap.size ≤ (wr.alloc (.cells #[.int .u8 y] 5)).heap.size by simp) hs2.size)); clear hw2 hs2)
      go_roundw
      case rel => exact ⟨k + 1, v2, z / 256, by go_num, by go_num, by omega, ⟨by rw [← HZ.out, Mp.dig_next]⟩, ⟨by have h1 := HW2.out; rw [List.append_assoc, ← HY.out, ← Mp.eight_take s hlt] at h1; exact h1⟩, HS2, HSZ2⟩
      case measure => simp [intOf]; omega
    · have hk8 : k = 8 := by omega
      subst hk8
      go_wp2
      go_end0
      have h1 := HW.out
      rw [List.take_of_length_le (by rw [Mp.eight_len]; omega)] at h1
      exact ⟨v', rfl, h1, HS1.out⟩
theorem By.frn {M : Nat → Prop} {w w' : World} {B n : Nat} {a : Option Addr} {xs : List Int} (h : By w B a n xs) (k : Fr M w w') (hB : B ≤ w.heap.size) (hm : 0 < n → ∀ b off, a = some ⟨b, off, none⟩ → b < w.heap.size → ¬ M b) : By w' B a n xs :=
  ⟨h.len, h.byt, fun hn => by
    obtain ⟨b, off, e, hlt, hc⟩ := h.rd hn
    exact ⟨b, off, e, hlt, fun j hj => (k.cell (by omega) (hm hn b off e (by omega))).trans (hc j hj)⟩⟩
/-- What summing leaves: the sum, up to where, begun. -/
def SumR (Q o n : Nat) (r : Int) (w : World) (e : Ending) (w' : World) : Prop :=
  e = .returned (.int .u64 r) ∧ (w'.cell? ⟨Q, o, none⟩ = some (.int .u64 r) ∧ w'.cell? ⟨Q, o + 1, none⟩ = some (.int .i64 n) ∧ w'.cell? ⟨Q, o + 2, none⟩ = some (.bool true)) ∧
    Fr (fun j => j = Q) w w' ∧ (∀ q, q < o ∨ o + 2 < q → w'.cell? ⟨Q, q, none⟩ = w.cell? ⟨Q, q, none⟩) ∧ (∀ q, w'.frozen? ⟨Q, q, none⟩ = w.frozen? ⟨Q, q, none⟩) ∧ w.heap.size = w'.heap.size
theorem sum_still (s : Int) (a : Option Addr) (n c : Nat) (xs : List Int) (r : Int) (w : World) (h : By w w.heap.size a n xs) (hn : n ≤ 1099511627776) (hr : Hk (Fn.sumS s xs = r)) :
    Calls Try.prog 46 #[.int .u64 s, .slice a n c] w fun e w' => e = .returned (.int .u64 r) ∧ w' = w := by
  rw [← hr.out]; exact (sum_any s a n c xs w h hn).mono fun e w' ⟨h1, h2⟩ => ⟨h1, h2.symm⟩
theorem start_is (r : Int) (w : World) (h : Hk (14695981039346656037 = r)) : Calls Try.prog 45 #[] w fun e w' => e = .returned (.int .u64 r) ∧ w = w' := by
  rw [← h.out]; exact start_any w
set_option maxRecDepth 100000 in
theorem summed_new (Q o : Nat) (h0 : Int) (a : Option Addr) (n c B : Nat) (xs : List Int) (w : World) (k0 : w.cell? ⟨Q, o, none⟩ = some (.int .u64 h0)) (k1 : w.cell? ⟨Q, o + 1, none⟩ = some (.int .i64 0)) (k2 : w.cell? ⟨Q, o + 2, none⟩ = some (.bool false))
    (f0 : w.frozen? ⟨Q, o, none⟩ = false) (f1 : w.frozen? ⟨Q, o + 1, none⟩ = false) (f2 : w.frozen? ⟨Q, o + 2, none⟩ = false) (hby : By w B a n xs) (hB : B ≤ w.heap.size) (hBQ : 0 < n → ∀ b off, a = some ⟨b, off, none⟩ → ¬ b = Q) (hnc : n ≤ c) (hcm : c ≤ 9223372036854775807) (hnm : n ≤ 1099511627776) (han : a = none → c = 0) :
    Calls Try.prog 37 #[.pointer (some ⟨Q, o, none⟩), .slice a n c] w (SumR Q o n (Mp.hash xs) w) := by
  obtain ⟨ST, hST⟩ : ∃ ST : Int, 14695981039346656037 = ST := ⟨_, rfl⟩
  have HH : Hk (Fn.sumS ST xs = Mp.hash xs) := ⟨by rw [← hST]; rfl⟩
  have HST := Hk.mk hST
  have HY := Hk.mk hby
  have HBQ := Hk.mk hBQ
  have HAN := Hk.mk han
  generalize Mp.hash xs = r at *
  clear hST hby hBQ han
  cases a with
  | none =>
    obtain rfl : c = 0 := HAN.out rfl
    obtain rfl : n = 0 := by omega
    go_enter Try.func37, Try.ntmps37
    go_wp2_with (go_at_call 45; (with_reducible refine (start_is ST _ HST).mono ?_); rintro e w1 ⟨rfl, rfl⟩)
    have e0 : ((w.setCell ⟨Q, o + 2, none⟩ (.bool true)).setCell ⟨Q, o, none⟩ (.int .u64 ST)).cell? ⟨Q, o, none⟩ = some (.int .u64 ST) := World.cell?_setCell_same' _ _ _ (by go_simp)
    have e1 : ((w.setCell ⟨Q, o + 2, none⟩ (.bool true)).setCell ⟨Q, o, none⟩ (.int .u64 ST)).cell? ⟨Q, o + 1, none⟩ = some (.int .i64 0) := by go_simp
    have e2 : ((w.setCell ⟨Q, o + 2, none⟩ (.bool true)).setCell ⟨Q, o, none⟩ (.int .u64 ST)).cell? ⟨Q, o + 2, none⟩ = some (.bool true) := by go_simp
    have z0 : ((w.setCell ⟨Q, o + 2, none⟩ (.bool true)).setCell ⟨Q, o, none⟩ (.int .u64 ST)).frozen? ⟨Q, o, none⟩ = false := by go_simp
    have z1 : ((w.setCell ⟨Q, o + 2, none⟩ (.bool true)).setCell ⟨Q, o, none⟩ (.int .u64 ST)).frozen? ⟨Q, o + 1, none⟩ = false := by go_simp
    have HF2 : Hk (Fr (fun j => j = Q) w ((w.setCell ⟨Q, o + 2, none⟩ (.bool true)).setCell ⟨Q, o, none⟩ (.int .u64 ST))) := ⟨((Fr.refl (fun j => j = Q) w).setCell (p := ⟨Q, o + 2, none⟩) (fun _ => rfl) _).setCell (p := ⟨Q, o, none⟩) (fun _ => rfl) _⟩
    have HR2 : Hk (∀ q, q < o ∨ o + 2 < q → ((w.setCell ⟨Q, o + 2, none⟩ (.bool true)).setCell ⟨Q, o, none⟩ (.int .u64 ST)).cell? ⟨Q, q, none⟩ = w.cell? ⟨Q, q, none⟩) := ⟨fun q hq => by
      have h1 : ¬ q = o := by omega
      have h2 : ¬ q = o + 2 := by omega
      go_simp⟩
    have HZ2 : Hk (∀ q, ((w.setCell ⟨Q, o + 2, none⟩ (.bool true)).setCell ⟨Q, o, none⟩ (.int .u64 ST)).frozen? ⟨Q, q, none⟩ = w.frozen? ⟨Q, q, none⟩) := ⟨fun q => by go_simp⟩
    have HS2 : Hk (((w.setCell ⟨Q, o + 2, none⟩ (.bool true)).setCell ⟨Q, o, none⟩ (.int .u64 ST)).heap.size = w.heap.size) := ⟨by simp⟩
    have HY2 : Hk (By ((w.setCell ⟨Q, o + 2, none⟩ (.bool true)).setCell ⟨Q, o, none⟩ (.int .u64 ST)) B none 0 xs) := ⟨By.frn HY.out HF2.out hB (fun hn b off e hb => HBQ.out hn b off e)⟩
    clear k0 k1 k2 f0 f1 f2
    generalize ((w.setCell ⟨Q, o + 2, none⟩ (.bool true)).setCell ⟨Q, o, none⟩ (.int .u64 ST)) = W2 at *
    have q0 : ({ W2 with drawn := W2.drawn + 1 } : World).cell? ⟨Q, o, none⟩ = some (.int .u64 ST) := e0
    have q1 : ({ W2 with drawn := W2.drawn + 1 } : World).cell? ⟨Q, o + 1, none⟩ = some (.int .i64 0) := e1
    have hB2 : B ≤ W2.heap.size := by have := HS2.out; omega
    have HY3 : Hk (By ({ W2 with drawn := W2.drawn + 1 } : World) ({ W2 with drawn := W2.drawn + 1 } : World).heap.size none 0 xs) := ⟨(HY2.out.mono hB2).drew⟩
    go_still_tail 12, (by kernel_rfl)
    repeat still_step
    still_call (sum_still ST none 0 0 xs r _ HY3.out hnm HH)
    repeat still_step
    refine wpStill_nil ?_
    change wpList _ _ _ _ _ W2.drew
    clear q0 q1 HY3
    have g0 : W2.drew.cell? ⟨Q, o, none⟩ = some (.int .u64 ST) := e0
    have g1 : W2.drew.cell? ⟨Q, o + 1, none⟩ = some (.int .i64 0) := e1
    have g2 : W2.drew.cell? ⟨Q, o + 2, none⟩ = some (.bool true) := e2
    have y0 : W2.drew.frozen? ⟨Q, o, none⟩ = false := z0
    have y1 : W2.drew.frozen? ⟨Q, o + 1, none⟩ = false := z1
    have HF3 : Hk (Fr (fun j => j = Q) w W2.drew) := ⟨HF2.out.drew⟩
    have HR3 : Hk (∀ q, q < o ∨ o + 2 < q → W2.drew.cell? ⟨Q, q, none⟩ = w.cell? ⟨Q, q, none⟩) := ⟨HR2.out⟩
    have HZ3 : Hk (∀ q, W2.drew.frozen? ⟨Q, q, none⟩ = w.frozen? ⟨Q, q, none⟩) := ⟨HZ2.out⟩
    have HS3 : Hk (W2.drew.heap.size = w.heap.size) := ⟨HS2.out⟩
    clear e0 e1 e2 z0 z1 HF2 HR2 HZ2 HS2 HY2
    generalize W2.drew = W3 at *
    have d0 : (W3.setCell ⟨Q, o, none⟩ (.int .u64 r)).cell? ⟨Q, o, none⟩ = some (.int .u64 r) := World.cell?_setCell_same' _ _ _ (by rw [g0]; rfl)
    go_wp2
    go_ret
    refine ⟨rfl, ⟨?_, ?_, ?_⟩, ?_, ?_, ?_, ?_⟩
    · go_simp
    · exact World.cell?_setCell_same' _ _ _ (by go_simp)
    · go_simp
    · exact (HF3.out.setCell (p := ⟨Q, o, none⟩) (fun _ => rfl) _).setCell (p := ⟨Q, o + 1, none⟩) (fun _ => rfl) _
    · intro q hq
      have h1 : ¬ q = o := by omega
      have h2 : ¬ q = o + 1 := by omega
      have h3 := HR3.out q hq
      go_simp
    · intro q
      have h3 := HZ3.out q
      go_simp
    · have h3 := HS3.out
      simp; omega
  | some ad =>
    obtain ⟨b, off, spot⟩ := ad
    by_cases h0 : n = 0
    · subst h0
      go_enter Try.func37, Try.ntmps37
      go_wp2_with (go_at_call 45; (with_reducible refine (start_is ST _ HST).mono ?_); rintro e w1 ⟨rfl, rfl⟩)
      have e0 : ((w.setCell ⟨Q, o + 2, none⟩ (.bool true)).setCell ⟨Q, o, none⟩ (.int .u64 ST)).cell? ⟨Q, o, none⟩ = some (.int .u64 ST) := World.cell?_setCell_same' _ _ _ (by go_simp)
      have e1 : ((w.setCell ⟨Q, o + 2, none⟩ (.bool true)).setCell ⟨Q, o, none⟩ (.int .u64 ST)).cell? ⟨Q, o + 1, none⟩ = some (.int .i64 0) := by go_simp
      have e2 : ((w.setCell ⟨Q, o + 2, none⟩ (.bool true)).setCell ⟨Q, o, none⟩ (.int .u64 ST)).cell? ⟨Q, o + 2, none⟩ = some (.bool true) := by go_simp
      have z0 : ((w.setCell ⟨Q, o + 2, none⟩ (.bool true)).setCell ⟨Q, o, none⟩ (.int .u64 ST)).frozen? ⟨Q, o, none⟩ = false := by go_simp
      have z1 : ((w.setCell ⟨Q, o + 2, none⟩ (.bool true)).setCell ⟨Q, o, none⟩ (.int .u64 ST)).frozen? ⟨Q, o + 1, none⟩ = false := by go_simp
      have HF2 : Hk (Fr (fun j => j = Q) w ((w.setCell ⟨Q, o + 2, none⟩ (.bool true)).setCell ⟨Q, o, none⟩ (.int .u64 ST))) := ⟨((Fr.refl (fun j => j = Q) w).setCell (p := ⟨Q, o + 2, none⟩) (fun _ => rfl) _).setCell (p := ⟨Q, o, none⟩) (fun _ => rfl) _⟩
      have HR2 : Hk (∀ q, q < o ∨ o + 2 < q → ((w.setCell ⟨Q, o + 2, none⟩ (.bool true)).setCell ⟨Q, o, none⟩ (.int .u64 ST)).cell? ⟨Q, q, none⟩ = w.cell? ⟨Q, q, none⟩) := ⟨fun q hq => by
        have h1 : ¬ q = o := by omega
        have h2 : ¬ q = o + 2 := by omega
        go_simp⟩
      have HZ2 : Hk (∀ q, ((w.setCell ⟨Q, o + 2, none⟩ (.bool true)).setCell ⟨Q, o, none⟩ (.int .u64 ST)).frozen? ⟨Q, q, none⟩ = w.frozen? ⟨Q, q, none⟩) := ⟨fun q => by go_simp⟩
      have HS2 : Hk (((w.setCell ⟨Q, o + 2, none⟩ (.bool true)).setCell ⟨Q, o, none⟩ (.int .u64 ST)).heap.size = w.heap.size) := ⟨by simp⟩
      have HY2 : Hk (By ((w.setCell ⟨Q, o + 2, none⟩ (.bool true)).setCell ⟨Q, o, none⟩ (.int .u64 ST)) B (some ⟨b, off, spot⟩) 0 xs) := ⟨By.frn HY.out HF2.out hB (fun hn b off e hb => HBQ.out hn b off e)⟩
      clear k0 k1 k2 f0 f1 f2
      generalize ((w.setCell ⟨Q, o + 2, none⟩ (.bool true)).setCell ⟨Q, o, none⟩ (.int .u64 ST)) = W2 at *
      have q0 : ({ W2 with drawn := W2.drawn + 1 } : World).cell? ⟨Q, o, none⟩ = some (.int .u64 ST) := e0
      have q1 : ({ W2 with drawn := W2.drawn + 1 } : World).cell? ⟨Q, o + 1, none⟩ = some (.int .i64 0) := e1
      have hB2 : B ≤ W2.heap.size := by have := HS2.out; omega
      have HY3 : Hk (By ({ W2 with drawn := W2.drawn + 1 } : World) ({ W2 with drawn := W2.drawn + 1 } : World).heap.size (some ⟨b, off, spot⟩) 0 xs) := ⟨(HY2.out.mono hB2).drew⟩
      go_still_tail 12, (by kernel_rfl)
      repeat still_step
      still_call (sum_still ST (some ⟨b, off, spot⟩) 0 c xs r _ HY3.out hnm HH)
      repeat still_step
      refine wpStill_nil ?_
      change wpList _ _ _ _ _ W2.drew
      clear q0 q1 HY3
      have g0 : W2.drew.cell? ⟨Q, o, none⟩ = some (.int .u64 ST) := e0
      have g1 : W2.drew.cell? ⟨Q, o + 1, none⟩ = some (.int .i64 0) := e1
      have g2 : W2.drew.cell? ⟨Q, o + 2, none⟩ = some (.bool true) := e2
      have y0 : W2.drew.frozen? ⟨Q, o, none⟩ = false := z0
      have y1 : W2.drew.frozen? ⟨Q, o + 1, none⟩ = false := z1
      have HF3 : Hk (Fr (fun j => j = Q) w W2.drew) := ⟨HF2.out.drew⟩
      have HR3 : Hk (∀ q, q < o ∨ o + 2 < q → W2.drew.cell? ⟨Q, q, none⟩ = w.cell? ⟨Q, q, none⟩) := ⟨HR2.out⟩
      have HZ3 : Hk (∀ q, W2.drew.frozen? ⟨Q, q, none⟩ = w.frozen? ⟨Q, q, none⟩) := ⟨HZ2.out⟩
      have HS3 : Hk (W2.drew.heap.size = w.heap.size) := ⟨HS2.out⟩
      clear e0 e1 e2 z0 z1 HF2 HR2 HZ2 HS2 HY2
      generalize W2.drew = W3 at *
      have d0 : (W3.setCell ⟨Q, o, none⟩ (.int .u64 r)).cell? ⟨Q, o, none⟩ = some (.int .u64 r) := World.cell?_setCell_same' _ _ _ (by rw [g0]; rfl)
      go_wp2
      go_ret
      refine ⟨rfl, ⟨?_, ?_, ?_⟩, ?_, ?_, ?_, ?_⟩
      · go_simp
      · exact World.cell?_setCell_same' _ _ _ (by go_simp)
      · go_simp
      · exact (HF3.out.setCell (p := ⟨Q, o, none⟩) (fun _ => rfl) _).setCell (p := ⟨Q, o + 1, none⟩) (fun _ => rfl) _
      · intro q hq
        have h1 : ¬ q = o := by omega
        have h2 : ¬ q = o + 1 := by omega
        have h3 := HR3.out q hq
        go_simp
      · intro q
        have h3 := HZ3.out q
        go_simp
      · have h3 := HS3.out
        simp; omega
    · obtain rfl : spot = none := by
        obtain ⟨b', off', e1, -⟩ := HY.out.rd (by omega)
        injection e1 with e1
        injection e1
      go_enter Try.func37, Try.ntmps37
      go_wp2_with (go_at_call 45; (with_reducible refine (start_is ST _ HST).mono ?_); rintro e w1 ⟨rfl, rfl⟩)
      have e0 : ((w.setCell ⟨Q, o + 2, none⟩ (.bool true)).setCell ⟨Q, o, none⟩ (.int .u64 ST)).cell? ⟨Q, o, none⟩ = some (.int .u64 ST) := World.cell?_setCell_same' _ _ _ (by go_simp)
      have e1 : ((w.setCell ⟨Q, o + 2, none⟩ (.bool true)).setCell ⟨Q, o, none⟩ (.int .u64 ST)).cell? ⟨Q, o + 1, none⟩ = some (.int .i64 0) := by go_simp
      have e2 : ((w.setCell ⟨Q, o + 2, none⟩ (.bool true)).setCell ⟨Q, o, none⟩ (.int .u64 ST)).cell? ⟨Q, o + 2, none⟩ = some (.bool true) := by go_simp
      have z0 : ((w.setCell ⟨Q, o + 2, none⟩ (.bool true)).setCell ⟨Q, o, none⟩ (.int .u64 ST)).frozen? ⟨Q, o, none⟩ = false := by go_simp
      have z1 : ((w.setCell ⟨Q, o + 2, none⟩ (.bool true)).setCell ⟨Q, o, none⟩ (.int .u64 ST)).frozen? ⟨Q, o + 1, none⟩ = false := by go_simp
      have HF2 : Hk (Fr (fun j => j = Q) w ((w.setCell ⟨Q, o + 2, none⟩ (.bool true)).setCell ⟨Q, o, none⟩ (.int .u64 ST))) := ⟨((Fr.refl (fun j => j = Q) w).setCell (p := ⟨Q, o + 2, none⟩) (fun _ => rfl) _).setCell (p := ⟨Q, o, none⟩) (fun _ => rfl) _⟩
      have HR2 : Hk (∀ q, q < o ∨ o + 2 < q → ((w.setCell ⟨Q, o + 2, none⟩ (.bool true)).setCell ⟨Q, o, none⟩ (.int .u64 ST)).cell? ⟨Q, q, none⟩ = w.cell? ⟨Q, q, none⟩) := ⟨fun q hq => by
        have h1 : ¬ q = o := by omega
        have h2 : ¬ q = o + 2 := by omega
        go_simp⟩
      have HZ2 : Hk (∀ q, ((w.setCell ⟨Q, o + 2, none⟩ (.bool true)).setCell ⟨Q, o, none⟩ (.int .u64 ST)).frozen? ⟨Q, q, none⟩ = w.frozen? ⟨Q, q, none⟩) := ⟨fun q => by go_simp⟩
      have HS2 : Hk (((w.setCell ⟨Q, o + 2, none⟩ (.bool true)).setCell ⟨Q, o, none⟩ (.int .u64 ST)).heap.size = w.heap.size) := ⟨by simp⟩
      have HY2 : Hk (By ((w.setCell ⟨Q, o + 2, none⟩ (.bool true)).setCell ⟨Q, o, none⟩ (.int .u64 ST)) B (some ⟨b, off, none⟩) n xs) := ⟨By.frn HY.out HF2.out hB (fun hn b off e hb => HBQ.out hn b off e)⟩
      clear k0 k1 k2 f0 f1 f2
      generalize ((w.setCell ⟨Q, o + 2, none⟩ (.bool true)).setCell ⟨Q, o, none⟩ (.int .u64 ST)) = W2 at *
      have q0 : ({ W2 with drawn := W2.drawn + 1 } : World).cell? ⟨Q, o, none⟩ = some (.int .u64 ST) := e0
      have q1 : ({ W2 with drawn := W2.drawn + 1 } : World).cell? ⟨Q, o + 1, none⟩ = some (.int .i64 0) := e1
      have hB2 : B ≤ W2.heap.size := by have := HS2.out; omega
      have HY3 : Hk (By ({ W2 with drawn := W2.drawn + 1 } : World) ({ W2 with drawn := W2.drawn + 1 } : World).heap.size (some ⟨b, off, none⟩) n xs) := ⟨(HY2.out.mono hB2).drew⟩
      go_still_tail 12, (by kernel_rfl)
      repeat still_step
      still_call (sum_still ST (some ⟨b, off, none⟩) n c xs r _ HY3.out hnm HH)
      repeat still_step
      refine wpStill_nil ?_
      change wpList _ _ _ _ _ W2.drew
      clear q0 q1 HY3
      have g0 : W2.drew.cell? ⟨Q, o, none⟩ = some (.int .u64 ST) := e0
      have g1 : W2.drew.cell? ⟨Q, o + 1, none⟩ = some (.int .i64 0) := e1
      have g2 : W2.drew.cell? ⟨Q, o + 2, none⟩ = some (.bool true) := e2
      have y0 : W2.drew.frozen? ⟨Q, o, none⟩ = false := z0
      have y1 : W2.drew.frozen? ⟨Q, o + 1, none⟩ = false := z1
      have HF3 : Hk (Fr (fun j => j = Q) w W2.drew) := ⟨HF2.out.drew⟩
      have HR3 : Hk (∀ q, q < o ∨ o + 2 < q → W2.drew.cell? ⟨Q, q, none⟩ = w.cell? ⟨Q, q, none⟩) := ⟨HR2.out⟩
      have HZ3 : Hk (∀ q, W2.drew.frozen? ⟨Q, q, none⟩ = w.frozen? ⟨Q, q, none⟩) := ⟨HZ2.out⟩
      have HS3 : Hk (W2.drew.heap.size = w.heap.size) := ⟨HS2.out⟩
      clear e0 e1 e2 z0 z1 HF2 HR2 HZ2 HS2 HY2
      generalize W2.drew = W3 at *
      have d0 : (W3.setCell ⟨Q, o, none⟩ (.int .u64 r)).cell? ⟨Q, o, none⟩ = some (.int .u64 r) := World.cell?_setCell_same' _ _ _ (by rw [g0]; rfl)
      go_wp2
      go_ret
      refine ⟨rfl, ⟨?_, ?_, ?_⟩, ?_, ?_, ?_, ?_⟩
      · go_simp
      · exact World.cell?_setCell_same' _ _ _ (by go_simp)
      · go_simp
      · exact (HF3.out.setCell (p := ⟨Q, o, none⟩) (fun _ => rfl) _).setCell (p := ⟨Q, o + 1, none⟩) (fun _ => rfl) _
      · intro q hq
        have h1 : ¬ q = o := by omega
        have h2 : ¬ q = o + 1 := by omega
        have h3 := HR3.out q hq
        go_simp
      · intro q
        have h3 := HZ3.out q
        go_simp
      · have h3 := HS3.out
        simp; omega
end Go.Proofs.Ytmkehmeoglpkeaa
