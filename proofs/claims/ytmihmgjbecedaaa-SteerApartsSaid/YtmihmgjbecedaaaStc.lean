/- Layer 19: what draws to others. -/
import Derived.Test.YtmihmgjbecedaaaStb
namespace Go.Proofs.Ytmihmgjbecedaaa
open Go.RowKit
set_option linter.unusedVariables false
set_option maxRecDepth 100000 in
set_option maxHeartbeats 1600000 in
theorem cohere_any (x y z : Int) (a : Option Addr) (n c B : Nat) (f g : Nat → Int) (w : World) (hx : Fx.I64 x) (hy : Fx.I64 y) (hz : Fx.I64 z) (hv : Vs w B a n f g) (hB : B ≤ w.heap.size) (hn : n ≤ 140737488355328) :
    Calls Try.prog 16 #[.agg #[.int .i64 x, .int .i64 y], .slice a n c, .int .i64 z] w fun e w' => e = .returned (.agg #[.int .i64 (Fx.cohX x y n f g z), .int .i64 (Fx.cohY x y n f g z)]) ∧ Below w.heap.size w w' := by
  have HV := Fx.Hd.mk hv
  clear hv
  by_cases h0 : n = 0
  · subst h0
    go_enter Try.func16, Try.ntmps16
    go_wp2
    refine bodyPost_ret (v := .agg #[.int .i64 (Fx.cohX x y 0 f g z), .int .i64 (Fx.cohY x y 0 f g z)]) (by simp [results, Try.results16, go_sem, Fx.cohX, Fx.cohY]) rfl ⟨rfl, ?_⟩
    exact ((Below.refl _ _).alloc (Nat.le_refl _) _).alloc (by simp) _
  · have b0 : ((n : Int) == 0) = false := by simp; omega
    go_enter Try.func16, Try.ntmps16
    have k0 := C3.start w (.int .i64 x) (.int .i64 y) (.int .i64 0) (.int .i64 0) (.int .i64 0) (.int .i64 0) 24 24 24
    have K0 := Fx.Hd.mk k0
    clear k0
    go_wp2
    go_loopw [17] (fun i wr => ∃ k : Nat, k ≤ n ∧ i = .int .i64 k ∧ Fx.Hd (C3 w wr (.int .i64 x) (.int .i64 y) (.int .i64 0) (.int .i64 0) (.int .i64 (Fx.sumF f k)) (.int .i64 (Fx.sumF g k)))) (fun i _ => n - (intOf i).toNat)
    case atStart => exact ⟨0, by omega, rfl, K0⟩
    case round =>
      clear K0
      obtain ⟨k, hk, rfl, HK⟩ := hrel
      by_cases hlt : k < n
      · obtain ⟨b, off, rfl, hbl, hc⟩ := HV.out.rd (by omega)
        obtain ⟨i1, i2⟩ := HV.out.num k hlt
        have hc0 := (HK.out.hB.cell (p := ⟨b, off + k * 2, none⟩) (by simp; omega)).trans (hc k hlt).1
        have hc1 := (HK.out.hB.cell (p := ⟨b, off + k * 2 + 1, none⟩) (by simp; omega)).trans (hc k hlt).2
        clear hc
        have s1 := Fx.sumF_i64 f k
        have s2 := Fx.sumF_i64 g k
        have HK2 := Fx.Hd.mk (HK.out.alloc (.cells #[.int .i64 (f k), .int .i64 (g k)] 24))
        have e0 := (HK2.out).c0; have e1 := (HK2.out).c1; have e2 := (HK2.out).d0; have e3 := (HK2.out).d1; have e4 := (HK2.out).e0; have e5 := (HK2.out).e1; have e6 := (HK2.out).f0; have e7 := (HK2.out).f1; have e8 := (HK2.out).g0; have e9 := (HK2.out).g1; 
        go_wp2_with (first | (go_at_call 27; (with_reducible refine (heldC3 (vadd_any _ _ _ _ _ s1 s2 i1 i2) HK2).mono ?_); clear HK2 e0 e1 e2 e3 e4 e5 e6 e7 e8 e9; rintro e w2 ⟨rfl, HK2, e0, e1, e2, e3, e4, e5, e6, e7, e8, e9⟩))
        have HK3 := Fx.Hd.mk (HK2.out.set (.int .i64 (Fx.addS (Fx.sumF f k) (f k))) (.int .i64 (Fx.addS (Fx.sumF g k) (g k))))
        go_roundw
        case rel => exact ⟨k + 1, by omega, by go_num, HK3⟩
        case measure => simp [intOf]; omega
      · have hkn : k = n := by omega
        subst hkn
        have e0 := (HK.out).c0; have e1 := (HK.out).c1; have e2 := (HK.out).d0; have e3 := (HK.out).d1; have e4 := (HK.out).e0; have e5 := (HK.out).e1; have e6 := (HK.out).f0; have e7 := (HK.out).f1; have e8 := (HK.out).g0; have e9 := (HK.out).g1; 
        have s1 := Fx.sumF_i64 f k
        have s2 := Fx.sumF_i64 g k
        have HK2 := Fx.Hd.mk HK.out.drew
        have W1 : Fx.I64 (IntKind.i64.wrap ((Fx.sumF f k).tdiv k)) := Fx.wrap_i64 _
        have W2 : Fx.I64 (IntKind.i64.wrap ((Fx.sumF g k).tdiv k)) := Fx.wrap_i64 _
        have CX : Fx.Hd (Fx.cohX x y k f g z = Fx.towX x y (IntKind.i64.wrap ((Fx.sumF f k).tdiv k)) (IntKind.i64.wrap ((Fx.sumF g k).tdiv k)) z) := ⟨by unfold Fx.cohX; rw [if_neg h0]⟩
        have CY : Fx.Hd (Fx.cohY x y k f g z = Fx.towY x y (IntKind.i64.wrap ((Fx.sumF f k).tdiv k)) (IntKind.i64.wrap ((Fx.sumF g k).tdiv k)) z) := ⟨by unfold Fx.cohY; rw [if_neg h0]⟩
        clear HK
        go_wp2
        go_region_with (first | (go_at_call 8; (with_reducible refine (heldC3 (toward_any _ _ _ _ _ _ hx hy W1 W2 hz) HK2).mono ?_); clear HK2 e0 e1 e2 e3 e4 e5 e6 e7 e8 e9; rintro e w2 ⟨rfl, HK2, e0, e1, e2, e3, e4, e5, e6, e7, e8, e9⟩))
        all_goals
          go_wp2
          refine bodyPost_ret (v := .agg #[.int .i64 (Fx.towX x y (IntKind.i64.wrap ((Fx.sumF f k).tdiv k)) (IntKind.i64.wrap ((Fx.sumF g k).tdiv k)) z), .int .i64 (Fx.towY x y (IntKind.i64.wrap ((Fx.sumF f k).tdiv k)) (IntKind.i64.wrap ((Fx.sumF g k).tdiv k)) z)]) (by simp [results, Try.results16, go_sem, e2, e3]) rfl ⟨by rw [CX.out, CY.out], ?_⟩
          exact (HK2.out.hB.setCell (by simp) _).setCell (by simp) _
end Go.Proofs.Ytmihmgjbecedaaa
