import Derived.Deep.RegionHeld3
import Derived.Deep.RegionWith
import Derived.Test.YtgmhalcofcokbaaQc
/- The contracts of sums, differences and what is turned round of package vec and of the reference: what each call answers, for all arguments. -/
namespace Go.Proofs.Ytgmhalcofcokbaa
open Go.RowKit
set_option linter.unusedVariables false
set_option maxHeartbeats 800000 in
theorem vadd_any (a b c d : Int) (w : World) (ha : Fx.I64 a) (hb : Fx.I64 b) (hc : Fx.I64 c) (hd : Fx.I64 d) :
    Calls Try.prog 42 #[.agg #[.int .i64 a, .int .i64 b], .agg #[.int .i64 c, .int .i64 d]] w fun e w' => e = .returned (.agg #[.int .i64 (Fx.addS a c), .int .i64 (Fx.addS b d)]) ∧ Below w.heap.size w w' := by
  go_enter Try.func42, Try.ntmps42
  go_wp2
  go_region_held3 (fun w' => w'.cell? ⟨w.heap.size, 0, none⟩ = some (.int .i64 a) ∧ w'.cell? ⟨w.heap.size, 1, none⟩ = some (.int .i64 b) ∧ w'.cell? ⟨w.heap.size + 1, 0, none⟩ = some (.int .i64 c) ∧ w'.cell? ⟨w.heap.size + 1, 1, none⟩ = some (.int .i64 d)) (go_keep)
    (first | (go_at_call 46; refine (add_any _ _ _ (by assumption) (by assumption)).mono ?_; rintro e w' ⟨rfl, rfl⟩))
  go_wp2
  refine bodyPost_ret (v := .agg #[.int .i64 (Fx.addS a c), .int .i64 (Fx.addS b d)]) (by simp [results, Try.results42, go_sem]) rfl ⟨rfl, ?_⟩
  exact ((((Below.refl _ _).alloc (Nat.le_refl _) _).alloc (by simp) _).alloc (by simp; omega) _).drew
set_option maxHeartbeats 800000 in
theorem vsub_any (a b c d : Int) (w : World) (ha : Fx.I64 a) (hb : Fx.I64 b) (hc : Fx.I64 c) (hd : Fx.I64 d) :
    Calls Try.prog 11 #[.agg #[.int .i64 a, .int .i64 b], .agg #[.int .i64 c, .int .i64 d]] w fun e w' => e = .returned (.agg #[.int .i64 (Fx.subS a c), .int .i64 (Fx.subS b d)]) ∧ Below w.heap.size w w' := by
  go_enter Try.func11, Try.ntmps11
  go_wp2
  go_region_held3 (fun w' => w'.cell? ⟨w.heap.size, 0, none⟩ = some (.int .i64 a) ∧ w'.cell? ⟨w.heap.size, 1, none⟩ = some (.int .i64 b) ∧ w'.cell? ⟨w.heap.size + 1, 0, none⟩ = some (.int .i64 c) ∧ w'.cell? ⟨w.heap.size + 1, 1, none⟩ = some (.int .i64 d)) (go_keep)
    (first | (go_at_call 36; refine (sub_any _ _ _ (by assumption) (by assumption)).mono ?_; rintro e w' ⟨rfl, rfl⟩))
  go_wp2
  refine bodyPost_ret (v := .agg #[.int .i64 (Fx.subS a c), .int .i64 (Fx.subS b d)]) (by simp [results, Try.results11, go_sem]) rfl ⟨rfl, ?_⟩
  exact ((((Below.refl _ _).alloc (Nat.le_refl _) _).alloc (by simp) _).alloc (by simp; omega) _).drew
set_option maxHeartbeats 800000 in
theorem rvsub_any (a b c d : Int) (w : World) (ha : Fx.I64 a) (hb : Fx.I64 b) (hc : Fx.I64 c) (hd : Fx.I64 d) :
    Calls Try.prog 27 #[.agg #[.int .i64 a, .int .i64 b], .agg #[.int .i64 c, .int .i64 d]] w fun e w' => e = .returned (.agg #[.int .i64 (Fx.subS a c), .int .i64 (Fx.subS b d)]) ∧ Below w.heap.size w w' := by
  go_enter Try.func27, Try.ntmps27
  go_wp2
  go_region_held3 (fun w' => w'.cell? ⟨w.heap.size, 0, none⟩ = some (.int .i64 a) ∧ w'.cell? ⟨w.heap.size, 1, none⟩ = some (.int .i64 b) ∧ w'.cell? ⟨w.heap.size + 1, 0, none⟩ = some (.int .i64 c) ∧ w'.cell? ⟨w.heap.size + 1, 1, none⟩ = some (.int .i64 d)) (go_keep)
    (first | (go_at_call 41; refine (rsub_any _ _ _ (by assumption) (by assumption)).mono ?_; rintro e w' ⟨rfl, rfl⟩))
  go_wp2
  refine bodyPost_ret (v := .agg #[.int .i64 (Fx.subS a c), .int .i64 (Fx.subS b d)]) (by simp [results, Try.results27, go_sem]) rfl ⟨rfl, ?_⟩
  exact ((((Below.refl _ _).alloc (Nat.le_refl _) _).alloc (by simp) _).alloc (by simp; omega) _).drew
end Go.Proofs.Ytgmhalcofcokbaa
/- The contracts of what is scaled, of package vec and of the reference. -/
namespace Go.Proofs.Ytgmhalcofcokbaa
open Go.RowKit
set_option linter.unusedVariables false
/-- What a call that makes memory leaves as it was: two cells of a box and the two cells of the result behind it. -/
structure Kept (w0 w : World) (x y u v : Value) : Prop where
  c0 : w.cell? ⟨w0.heap.size, 0, none⟩ = some x
  c1 : w.cell? ⟨w0.heap.size, 1, none⟩ = some y
  d0 : w.cell? ⟨w0.heap.size + 1, 0, none⟩ = some u
  d1 : w.cell? ⟨w0.heap.size + 1, 1, none⟩ = some v
  f0 : w.frozen? ⟨w0.heap.size + 1, 0, none⟩ = false
  f1 : w.frozen? ⟨w0.heap.size + 1, 1, none⟩ = false
  hs : w0.heap.size + 1 < w.heap.size
  hB : Below w0.heap.size w0 w
theorem Kept.start (w : World) (x y u v : Value) (t t' : TypeId) : Kept w ((w.alloc (.cells #[x, y] t)).alloc (.cells #[u, v] t')) x y u v :=
  ⟨by go_simp, by go_simp, by go_simp, by go_simp, by go_simp, by go_simp, by simp, ((Below.refl _ _).alloc (Nat.le_refl _) _).alloc (by simp) _⟩
theorem Kept.next {w0 w w' : World} {x y u v : Value} (h : Kept w0 w x y u v) (hb : Below w.heap.size w w') : Kept w0 w' x y u v := by
  have hs := h.hs
  exact ⟨(hb.cell (p := ⟨w0.heap.size, 0, none⟩) (by simp; omega)).trans h.c0, (hb.cell (p := ⟨w0.heap.size, 1, none⟩) (by simp; omega)).trans h.c1,
   (hb.cell (p := ⟨w0.heap.size + 1, 0, none⟩) hs).trans h.d0, (hb.cell (p := ⟨w0.heap.size + 1, 1, none⟩) hs).trans h.d1,
   (hb.frozen (p := ⟨w0.heap.size + 1, 0, none⟩) hs).trans h.f0, (hb.frozen (p := ⟨w0.heap.size + 1, 1, none⟩) hs).trans h.f1, Nat.lt_of_lt_of_le hs hb.size, h.hB.trans (hb.mono h.hB.size)⟩
theorem Kept.drew {w0 w : World} {x y u v : Value} (h : Kept w0 w x y u v) : Kept w0 w.drew x y u v := ⟨h.c0, h.c1, h.d0, h.d1, h.f0, h.f1, h.hs, h.hB.drew⟩
theorem heldV {P : Program} {F : FuncId} {args : Array Value} {w w0 : World} {r : Ending} {x y u v : Value} (h : Calls P F args w fun e w' => e = r ∧ Below w.heap.size w w') (hk : Fx.Hd (Kept w0 w x y u v)) :
    Calls P F args w fun e w' => e = r ∧ Fx.Hd (Kept w0 w' x y u v) ∧ w'.cell? ⟨w0.heap.size, 0, none⟩ = some x ∧ w'.cell? ⟨w0.heap.size, 1, none⟩ = some y ∧ w'.cell? ⟨w0.heap.size + 1, 0, none⟩ = some u ∧ w'.cell? ⟨w0.heap.size + 1, 1, none⟩ = some v ∧
      w'.frozen? ⟨w0.heap.size + 1, 0, none⟩ = false ∧ w'.frozen? ⟨w0.heap.size + 1, 1, none⟩ = false :=
  h.mono fun e w' ⟨h1, h2⟩ => by
    have k := hk.out.next h2
    exact ⟨h1, ⟨k⟩, k.c0, k.c1, k.d0, k.d1, k.f0, k.f1⟩
end Go.Proofs.Ytgmhalcofcokbaa
/- Lengths as roots up to a bound; three, four, five. -/
namespace Go.Proofs.Ytgmhalcofcokbaa.Fx
set_option linter.unusedVariables false
theorem lenS_upto {a b : Int} (ha : I64 a) (hb : I64 b) : IsRootUpto (SQ a b) 9223372036854775807 (lenS a b) := by
  have hs := SQ_bd ha hb
  have hr := rootS_root hs.1
  have hl := lenS_bd ha hb
  unfold lenS at hl ⊢
  split
  · rename_i hc
    refine ⟨by omega, by omega, ?_, .inr rfl⟩
    have := sq_le (a := 9223372036854775807) (b := rootS (SQ a b)) (by omega) (by omega)
    have := hr.lo
    omega
  · rename_i hc
    exact ⟨hr.R0, by omega, hr.lo, .inl hr.hi⟩
theorem len_five : lenS 196608 262144 = 327680 := by
  have h : rootS (SQ 196608 262144) = 327680 := rootS_of ⟨by omega, by decide, by decide⟩
  unfold lenS; rw [h]; rfl
end Go.Proofs.Ytgmhalcofcokbaa.Fx
/- The contracts of the reference's root up to a bound, and of the squares of a way. -/
namespace Go.Proofs.Ytgmhalcofcokbaa
open Go.RowKit
set_option linter.unusedVariables false
set_option maxHeartbeats 400000 in
theorem rroot_upto (h l m S : Int) (w : World) (h0 : 0 ≤ h) (h1 : h ≤ 18446744073709551615) (l0 : 0 ≤ l) (l1 : l ≤ 18446744073709551615) (m0 : 0 ≤ m) (m1 : m ≤ 9223372036854775807) (hS : Fx.IsRootUpto (Fx.dT h l) m S) :
    Calls Try.prog 39 #[.agg #[.int .u64 h, .int .u64 l], .int .u64 m] w fun e w' => e = .returned (.int .u64 S) ∧ Below w.heap.size w w' := by
  have HS := Fx.Hd.mk hS
  have S0 := hS.R0
  have hm := hS.top
  clear hS
  go_enter Try.func39, Try.ntmps39
  go_wp2
  go_loopw [5, 6] (fun x y wr => ∃ A B : Int, x = .int .u64 A ∧ y = .int .u64 B ∧ 0 ≤ A ∧ A ≤ S ∧ S ≤ B ∧ B ≤ m ∧ Fx.Hd (Below w.heap.size w wr) ∧ w.heap.size < wr.heap.size ∧ wr.cell? ⟨w.heap.size, 0, none⟩ = some (.int .u64 h) ∧ wr.cell? ⟨w.heap.size, 1, none⟩ = some (.int .u64 l)) (fun x y _ => (intOf y - intOf x).toNat)
  case atStart => exact ⟨0, m, rfl, rfl, by omega, S0, hm, Int.le_refl _, ⟨(Below.refl _ _).alloc (Nat.le_refl _) _⟩, by simp, by go_simp, by go_simp⟩
  case round =>
    obtain ⟨A, B, rfl, rfl, A0, AS, SB, B1, HB, hsz, hc0, hc1⟩ := hrel
    by_cases hlt : A < B
    · obtain ⟨N, hN⟩ : ∃ N, A + (B - A + 1) / 2 = N := ⟨_, rfl⟩
      have n2 : 0 ≤ N := by omega
      have n3 : N ≤ 18446744073709551615 := by omega
      have nA : A < N := by omega
      have nB : N ≤ B := by omega
      obtain ⟨nh, hnh⟩ : ∃ nh, nh = N * N / 18446744073709551616 := ⟨_, rfl⟩
      obtain ⟨nl, hnl⟩ : ∃ nl, nl = N * N % 18446744073709551616 := ⟨_, rfl⟩
      have E := Fx.Hd.mk (And.intro hnh hnl)
      clear hnh hnl
      have hb0 := (Fx.dT_bd h l (by omega) h1 l0 l1).1
      have hl1 : Fx.dT h l / 18446744073709551616 = h := by unfold Fx.dT; omega
      have hl2 : Fx.dT h l % 18446744073709551616 = l := by unfold Fx.dT; omega
      by_cases hT : Fx.dT h l < N * N
      · have G : Fx.Hd (true = Fx.lessB h l nh nl) := ⟨by have hq := Fx.lessB_pair hb0 (Int.mul_nonneg n2 n2); rw [hl1, hl2] at hq; rw [E.out.1, E.out.2, hq]; simp [hT]⟩
        clear hl1 hl2 hb0
        have I := Fx.upto_lt HS.out n2 hT
        clear hT
        go_wp2
        go_region_with (first | (go_at_call 45; refine (times_full N nh nl _ n2 n3 E).mono ?_; rintro e w2 ⟨rfl, hb2⟩; have c20 := (hb2.cell (p := ⟨w.heap.size, 0, none⟩) hsz).trans hc0; have c21 := (hb2.cell (p := ⟨w.heap.size, 1, none⟩) hsz).trans hc1; have s2 := hb2.size; have B2 := Fx.Hd.mk hb2; clear hb2) | (go_at_call 44; refine (rless_as h l nh nl true _ G).mono ?_; rintro e w3 ⟨rfl, hb3⟩; have s3 := hb3.size; have B3 := Fx.Hd.mk hb3; clear hb3))
        all_goals
          go_wp2
          refine ⟨⟨A, (N - 1), rfl, rfl, by omega, by omega, by omega, by omega, ⟨by first | exact (HB.out.trans (B2.out.mono (Nat.le_of_lt hsz))).trans (B3.out.mono (Nat.le_trans (Nat.le_of_lt hsz) s2)) | exact (HB.out.drew.trans (B2.out.mono (Nat.le_of_lt hsz))).trans (B3.out.mono (Nat.le_trans (Nat.le_of_lt hsz) s2)) | exact (HB.out.trans (B2.out.mono (Nat.le_of_lt hsz))).drew.trans (B3.out.mono (Nat.le_trans (Nat.le_of_lt hsz) s2)) | exact (HB.out.drew.trans (B2.out.mono (Nat.le_of_lt hsz))).drew.trans (B3.out.mono (Nat.le_trans (Nat.le_of_lt hsz) s2))⟩, Nat.lt_of_lt_of_le hsz (Nat.le_trans s2 s3), ?_, ?_⟩, by simp [intOf]; omega⟩
          · exact (B3.out.cell (p := ⟨w.heap.size, 0, none⟩) (Nat.lt_of_lt_of_le hsz s2)).trans c20
          · exact (B3.out.cell (p := ⟨w.heap.size, 1, none⟩) (Nat.lt_of_lt_of_le hsz s2)).trans c21
      · have G : Fx.Hd (false = Fx.lessB h l nh nl) := ⟨by have hq := Fx.lessB_pair hb0 (Int.mul_nonneg n2 n2); rw [hl1, hl2] at hq; rw [E.out.1, E.out.2, hq]; simp [hT]⟩
        clear hl1 hl2 hb0
        have I := Fx.upto_ge HS.out n2 nB B1 hT
        clear hT
        go_wp2
        go_region_with (first | (go_at_call 45; refine (times_full N nh nl _ n2 n3 E).mono ?_; rintro e w2 ⟨rfl, hb2⟩; have c20 := (hb2.cell (p := ⟨w.heap.size, 0, none⟩) hsz).trans hc0; have c21 := (hb2.cell (p := ⟨w.heap.size, 1, none⟩) hsz).trans hc1; have s2 := hb2.size; have B2 := Fx.Hd.mk hb2; clear hb2) | (go_at_call 44; refine (rless_as h l nh nl false _ G).mono ?_; rintro e w3 ⟨rfl, hb3⟩; have s3 := hb3.size; have B3 := Fx.Hd.mk hb3; clear hb3))
        all_goals
          go_wp2
          refine ⟨⟨N, B, rfl, rfl, by omega, by omega, by omega, by omega, ⟨by first | exact (HB.out.trans (B2.out.mono (Nat.le_of_lt hsz))).trans (B3.out.mono (Nat.le_trans (Nat.le_of_lt hsz) s2)) | exact (HB.out.drew.trans (B2.out.mono (Nat.le_of_lt hsz))).trans (B3.out.mono (Nat.le_trans (Nat.le_of_lt hsz) s2)) | exact (HB.out.trans (B2.out.mono (Nat.le_of_lt hsz))).drew.trans (B3.out.mono (Nat.le_trans (Nat.le_of_lt hsz) s2)) | exact (HB.out.drew.trans (B2.out.mono (Nat.le_of_lt hsz))).drew.trans (B3.out.mono (Nat.le_trans (Nat.le_of_lt hsz) s2))⟩, Nat.lt_of_lt_of_le hsz (Nat.le_trans s2 s3), ?_, ?_⟩, by simp [intOf]; omega⟩
          · exact (B3.out.cell (p := ⟨w.heap.size, 0, none⟩) (Nat.lt_of_lt_of_le hsz s2)).trans c20
          · exact (B3.out.cell (p := ⟨w.heap.size, 1, none⟩) (Nat.lt_of_lt_of_le hsz s2)).trans c21
    · have e1 : A = S := by omega
      subst e1
      go_wp2
      go_ret
      exact ⟨rfl, HB.out⟩
theorem rplus_any (a b c d : Int) (w : World) (ha : 0 ≤ a) (hb : 0 ≤ b) (hc : 0 ≤ c) (hd : 0 ≤ d) (hb' : b ≤ 18446744073709551615) (hd' : d ≤ 18446744073709551615) (hs : a + c < 18446744073709551615) :
    Calls Try.prog 52 #[.agg #[.int .u64 a, .int .u64 b], .agg #[.int .u64 c, .int .u64 d]] w fun e w' => e = .returned (.agg #[.int .u64 (a + c + (b + d) / 18446744073709551616), .int .u64 ((b + d) % 18446744073709551616)]) ∧ Below w.heap.size w w' := by
  go_enter Try.func52, Try.ntmps52
  go_wp2
  · rename_i hl
    refine bodyPost_ret (v := .agg #[.int .u64 (a + c + 1), .int .u64 (IntKind.u64.wrap (b + d))]) (by simp [results, Try.results52, go_sem]) rfl ⟨?_, ?_⟩
    · rw [Fx.wrapu] at hl ⊢
      rw [show a + c + (b + d) / 18446744073709551616 = a + c + 1 by omega]
    · exact ((((Below.refl _ _).alloc (Nat.le_refl _) _).alloc (by simp) _).alloc (by simp; omega) _).alloc (by simp; omega) _
  · rename_i hl
    refine bodyPost_ret (v := .agg #[.int .u64 (a + c), .int .u64 (IntKind.u64.wrap (b + d))]) (by simp [results, Try.results52, go_sem]) rfl ⟨?_, ?_⟩
    · rw [Fx.wrapu] at hl ⊢
      rw [show a + c + (b + d) / 18446744073709551616 = a + c by omega]
    · exact ((((Below.refl _ _).alloc (Nat.le_refl _) _).alloc (by simp) _).alloc (by simp; omega) _).alloc (by simp; omega) _
theorem wadd_sq (a b c d x y h l : Int) (w : World) (hx : Fx.Hd (0 ≤ x ∧ x ≤ 85070591730234615847396907784232501249)) (hy : Fx.Hd (0 ≤ y ∧ y ≤ 85070591730234615847396907784232501249))
    (e1 : Fx.Hd (a = x / 18446744073709551616 ∧ b = x % 18446744073709551616)) (e2 : Fx.Hd (c = y / 18446744073709551616 ∧ d = y % 18446744073709551616)) (e : Fx.Hd (h = (x + y) / 18446744073709551616 ∧ l = (x + y) % 18446744073709551616)) :
    Calls Try.prog 49 #[.agg #[.int .u64 a, .int .u64 b], .agg #[.int .u64 c, .int .u64 d]] w fun e w' => e = .returned (.agg #[.int .u64 h, .int .u64 l]) ∧ Below w.heap.size w w' := by
  obtain ⟨⟨rfl, rfl⟩⟩ := e1
  obtain ⟨⟨rfl, rfl⟩⟩ := e2
  obtain ⟨⟨rfl, rfl⟩⟩ := e
  obtain ⟨hx⟩ := hx
  obtain ⟨hy⟩ := hy
  have hp := Fx.SQ_parts x y hx.1 hy.1
  have := wadd_any (x / 18446744073709551616) (x % 18446744073709551616) (y / 18446744073709551616) (y % 18446744073709551616) w (by omega) (by omega) (by omega) (by omega) (by omega) (by omega) (by omega)
  rw [hp.1, hp.2] at this
  exact this
theorem rplus_sq (a b c d x y h l : Int) (w : World) (hx : Fx.Hd (0 ≤ x ∧ x ≤ 85070591730234615847396907784232501249)) (hy : Fx.Hd (0 ≤ y ∧ y ≤ 85070591730234615847396907784232501249))
    (e1 : Fx.Hd (a = x / 18446744073709551616 ∧ b = x % 18446744073709551616)) (e2 : Fx.Hd (c = y / 18446744073709551616 ∧ d = y % 18446744073709551616)) (e : Fx.Hd (h = (x + y) / 18446744073709551616 ∧ l = (x + y) % 18446744073709551616)) :
    Calls Try.prog 52 #[.agg #[.int .u64 a, .int .u64 b], .agg #[.int .u64 c, .int .u64 d]] w fun e w' => e = .returned (.agg #[.int .u64 h, .int .u64 l]) ∧ Below w.heap.size w w' := by
  obtain ⟨⟨rfl, rfl⟩⟩ := e1
  obtain ⟨⟨rfl, rfl⟩⟩ := e2
  obtain ⟨⟨rfl, rfl⟩⟩ := e
  obtain ⟨hx⟩ := hx
  obtain ⟨hy⟩ := hy
  have hp := Fx.SQ_parts x y hx.1 hy.1
  have := rplus_any (x / 18446744073709551616) (x % 18446744073709551616) (y / 18446744073709551616) (y % 18446744073709551616) w (by omega) (by omega) (by omega) (by omega) (by omega) (by omega) (by omega)
  rw [hp.1, hp.2] at this
  exact this
set_option maxHeartbeats 400000 in
theorem square_core (a b xh xl yh yl h l : Int) (w : World) (ha : Fx.I64 a) (hb : Fx.I64 b)
    (e1 : Fx.Hd (xh = Fx.sz a * Fx.sz a / 18446744073709551616 ∧ xl = Fx.sz a * Fx.sz a % 18446744073709551616)) (e2 : Fx.Hd (yh = Fx.sz b * Fx.sz b / 18446744073709551616 ∧ yl = Fx.sz b * Fx.sz b % 18446744073709551616))
    (e : Fx.Hd (h = (Fx.sz a * Fx.sz a + Fx.sz b * Fx.sz b) / 18446744073709551616 ∧ l = (Fx.sz a * Fx.sz a + Fx.sz b * Fx.sz b) % 18446744073709551616)) :
    Calls Try.prog 35 #[.agg #[.int .i64 a, .int .i64 b]] w fun e w' => e = .returned (.agg #[.int .u64 h, .int .u64 l]) ∧ Below w.heap.size w w' := by
  have k0 := Kept.start w (.int .i64 a) (.int .i64 b) (.int .u64 0) (.int .u64 0) 24 65
  have sa := Fx.sz_bd ha
  have sb := Fx.sz_bd hb
  have P1 := Fx.Hd.mk (Fx.prod_bd sa sa)
  have P2 := Fx.Hd.mk (Fx.prod_bd sb sb)
  go_enter Try.func35, Try.ntmps35
  go_wp2
  generalize (w.alloc (.cells #[.int .i64 a, .int .i64 b] 24)).alloc (.cells #[.int .u64 0, .int .u64 0] 65) = W at *
  have c0 := k0.c0
  have c1 := k0.c1
  go_region_held3 (fun w' => w'.cell? ⟨w.heap.size, 0, none⟩ = some (.int .i64 a) ∧ w'.cell? ⟨w.heap.size, 1, none⟩ = some (.int .i64 b)) (first | exact ⟨c0, c1⟩ | go_keep)
    (first | (go_at_call 48; refine (vsize_any _ _ (by assumption)).mono ?_; rintro e w' ⟨rfl, rfl⟩))
  replace k0 := k0.drew
  generalize W.drew = W2 at *
  clear c0 c1
  have e10 := k0.d0
  have e11 := k0.d1
  have e12 := k0.f0
  have e13 := k0.f1
  have e14 := k0.c0
  have e15 := k0.c1
  have K := Fx.Hd.mk k0
  clear k0
  go_wp2_with (first | (go_at_call 38; (first | (with_reducible refine (heldV (wmul_as (Fx.sz a) (Fx.sz a) xh xl _ sa sa e1) K).mono ?_) | (with_reducible refine (heldV (wmul_as (Fx.sz b) (Fx.sz b) yh yl _ sb sb e2) K).mono ?_)); clear K e10 e11 e12 e13 e14 e15; rintro e w2 ⟨rfl, K, e14, e15, e10, e11, e12, e13⟩) | (go_at_call 49; (with_reducible refine (heldV (wadd_sq xh xl yh yl _ _ h l _ P1 P2 e1 e2 e) K).mono ?_); clear K e10 e11 e12 e13 e14 e15; rintro e w2 ⟨rfl, K, e14, e15, e10, e11, e12, e13⟩))
  refine bodyPost_ret (v := .agg #[.int .u64 h, .int .u64 l]) (by simp [results, Try.results35, go_sem, e10, e11]) rfl ⟨rfl, ?_⟩
  exact (K.out.hB.setCell (by simp) _).setCell (by simp) _
set_option maxHeartbeats 400000 in
theorem squares_core (a b xh xl yh yl h l : Int) (w : World) (ha : Fx.I64 a) (hb : Fx.I64 b)
    (e1 : Fx.Hd (xh = Fx.sz a * Fx.sz a / 18446744073709551616 ∧ xl = Fx.sz a * Fx.sz a % 18446744073709551616)) (e2 : Fx.Hd (yh = Fx.sz b * Fx.sz b / 18446744073709551616 ∧ yl = Fx.sz b * Fx.sz b % 18446744073709551616))
    (e : Fx.Hd (h = (Fx.sz a * Fx.sz a + Fx.sz b * Fx.sz b) / 18446744073709551616 ∧ l = (Fx.sz a * Fx.sz a + Fx.sz b * Fx.sz b) % 18446744073709551616)) :
    Calls Try.prog 40 #[.agg #[.int .i64 a, .int .i64 b]] w fun e w' => e = .returned (.agg #[.int .u64 h, .int .u64 l]) ∧ Below w.heap.size w w' := by
  have k0 := Kept.start w (.int .i64 a) (.int .i64 b) (.int .u64 0) (.int .u64 0) 24 71
  have sa := Fx.sz_bd ha
  have sb := Fx.sz_bd hb
  have P1 := Fx.Hd.mk (Fx.prod_bd sa sa)
  have P2 := Fx.Hd.mk (Fx.prod_bd sb sb)
  go_enter Try.func40, Try.ntmps40
  go_wp2
  generalize (w.alloc (.cells #[.int .i64 a, .int .i64 b] 24)).alloc (.cells #[.int .u64 0, .int .u64 0] 71) = W at *
  have c0 := k0.c0
  have c1 := k0.c1
  go_region_held3 (fun w' => w'.cell? ⟨w.heap.size, 0, none⟩ = some (.int .i64 a) ∧ w'.cell? ⟨w.heap.size, 1, none⟩ = some (.int .i64 b)) (first | exact ⟨c0, c1⟩ | go_keep)
    (first | (go_at_call 43; refine (of_any _ _ (by assumption)).mono ?_; rintro e w' ⟨rfl, rfl⟩) | (go_at_call 51; refine (rsize_of _ _ (by assumption)).mono ?_; rintro e w' ⟨rfl, rfl⟩))
  replace k0 := k0.drew
  generalize W.drew = W2 at *
  clear c0 c1
  have e10 := k0.d0
  have e11 := k0.d1
  have e12 := k0.f0
  have e13 := k0.f1
  have e14 := k0.c0
  have e15 := k0.c1
  have K := Fx.Hd.mk k0
  clear k0
  go_wp2_with (first | (go_at_call 45; (first | (with_reducible refine (heldV (times_as (Fx.sz a) (Fx.sz a) xh xl _ sa sa e1) K).mono ?_) | (with_reducible refine (heldV (times_as (Fx.sz b) (Fx.sz b) yh yl _ sb sb e2) K).mono ?_)); clear K e10 e11 e12 e13 e14 e15; rintro e w2 ⟨rfl, K, e14, e15, e10, e11, e12, e13⟩) | (go_at_call 52; (with_reducible refine (heldV (rplus_sq xh xl yh yl _ _ h l _ P1 P2 e1 e2 e) K).mono ?_); clear K e10 e11 e12 e13 e14 e15; rintro e w2 ⟨rfl, K, e14, e15, e10, e11, e12, e13⟩))
  refine bodyPost_ret (v := .agg #[.int .u64 h, .int .u64 l]) (by simp [results, Try.results40, go_sem, e10, e11]) rfl ⟨rfl, ?_⟩
  exact (K.out.hB.setCell (by simp) _).setCell (by simp) _
end Go.Proofs.Ytgmhalcofcokbaa
/- The contracts of lengths of package vec and of the reference. -/
namespace Go.Proofs.Ytgmhalcofcokbaa
open Go.RowKit
set_option linter.unusedVariables false
theorem square_any (a b h l : Int) (w : World) (ha : Fx.I64 a) (hb : Fx.I64 b) (e : Fx.Hd (h = Fx.SQ a b / 18446744073709551616 ∧ l = Fx.SQ a b % 18446744073709551616)) :
    Calls Try.prog 35 #[.agg #[.int .i64 a, .int .i64 b]] w fun e w' => e = .returned (.agg #[.int .u64 h, .int .u64 l]) ∧ Below w.heap.size w w' :=
  square_core a b _ _ _ _ h l w ha hb ⟨rfl, rfl⟩ ⟨rfl, rfl⟩ e
theorem squares_any (a b h l : Int) (w : World) (ha : Fx.I64 a) (hb : Fx.I64 b) (e : Fx.Hd (h = Fx.SQ a b / 18446744073709551616 ∧ l = Fx.SQ a b % 18446744073709551616)) :
    Calls Try.prog 40 #[.agg #[.int .i64 a, .int .i64 b]] w fun e w' => e = .returned (.agg #[.int .u64 h, .int .u64 l]) ∧ Below w.heap.size w w' :=
  squares_core a b _ _ _ _ h l w ha hb ⟨rfl, rfl⟩ ⟨rfl, rfl⟩ e
theorem rroot_uas (h l p S : Int) (w : World) (p0 : Fx.Hd (0 ≤ p ∧ p < 340282366920938463463374607431768211456)) (e : Fx.Hd (h = p / 18446744073709551616 ∧ l = p % 18446744073709551616)) (hS : Fx.Hd (Fx.IsRootUpto p 9223372036854775807 S)) :
    Calls Try.prog 39 #[.agg #[.int .u64 h, .int .u64 l], .int .u64 9223372036854775807] w fun e w' => e = .returned (.int .u64 S) ∧ Below w.heap.size w w' := by
  obtain ⟨⟨rfl, rfl⟩⟩ := e
  have := p0.out
  exact rroot_upto _ _ _ S w (by omega) (by omega) (by omega) (by omega) (by omega) (by omega) (by rw [Fx.dT_div]; exact hS.out)
set_option maxHeartbeats 400000 in
theorem len_any (a b : Int) (w : World) (ha : Fx.I64 a) (hb : Fx.I64 b) :
    Calls Try.prog 8 #[.agg #[.int .i64 a, .int .i64 b]] w fun e w' => e = .returned (.int .i64 (Fx.lenS a b)) ∧ Below w.heap.size w w' := by
  have hs := Fx.SQ_bd ha hb
  have P : Fx.Hd (0 ≤ Fx.SQ a b ∧ Fx.SQ a b < 340282366920938463463374607431768211456) := ⟨by omega⟩
  obtain ⟨h, hh⟩ : ∃ h, h = Fx.SQ a b / 18446744073709551616 := ⟨_, rfl⟩
  obtain ⟨l, hl⟩ : ∃ l, l = Fx.SQ a b % 18446744073709551616 := ⟨_, rfl⟩
  have E := Fx.Hd.mk (And.intro hh hl)
  clear hh hl
  have HB : Fx.Hd (Below w.heap.size w (w.alloc (.cells #[.int .i64 a, .int .i64 b] 24))) := ⟨(Below.refl _ _).alloc (Nat.le_refl _) _⟩
  have hR := Fx.Hd.mk (Fx.rootS_root hs.1)
  have hr := Fx.rootS_bd ha hb
  obtain ⟨S, es⟩ : ∃ S, S = Fx.rootS (Fx.SQ a b) := ⟨_, rfl⟩
  have ED : Fx.Hd (Fx.lenS a b = if 9223372036854775807 < S then 9223372036854775807 else S) := ⟨by rw [es]; rfl⟩
  rw [← es] at hR hr
  clear es hs
  by_cases hm : 9223372036854775807 < S
  all_goals
    go_enter Try.func8, Try.ntmps8
    go_wp2_with (first | (go_at_call 35; (with_reducible refine (up (square_any a b h l _ ha hb E) HB).mono ?_); clear HB; rintro e w' ⟨rfl, HB⟩) | (go_at_call 34; (with_reducible refine (up (root_as h l (Fx.SQ a b) S _ P E hR) HB).mono ?_); clear HB; rintro e w' ⟨rfl, HB⟩))
    go_ret
    refine ⟨?_, HB.out⟩
    rw [ED.out]
    first | (rw [if_pos (by omega)]; done) | (rw [if_pos (by omega)]; rfl) | (rw [if_neg (by omega)]; done) | (rw [if_neg (by omega)]; rfl)

set_option maxHeartbeats 400000 in
theorem rlen_any (a b : Int) (w : World) (ha : Fx.I64 a) (hb : Fx.I64 b) :
    Calls Try.prog 26 #[.agg #[.int .i64 a, .int .i64 b]] w fun e w' => e = .returned (.int .i64 (Fx.lenS a b)) ∧ Below w.heap.size w w' := by
  have hs := Fx.SQ_bd ha hb
  have P : Fx.Hd (0 ≤ Fx.SQ a b ∧ Fx.SQ a b < 340282366920938463463374607431768211456) := ⟨by omega⟩
  obtain ⟨h, hh⟩ : ∃ h, h = Fx.SQ a b / 18446744073709551616 := ⟨_, rfl⟩
  obtain ⟨l, hl⟩ : ∃ l, l = Fx.SQ a b % 18446744073709551616 := ⟨_, rfl⟩
  have E := Fx.Hd.mk (And.intro hh hl)
  clear hh hl
  have HB : Fx.Hd (Below w.heap.size w (w.alloc (.cells #[.int .i64 a, .int .i64 b] 24))) := ⟨(Below.refl _ _).alloc (Nat.le_refl _) _⟩
  have hR := Fx.Hd.mk (Fx.lenS_upto ha hb)
  have hr := Fx.lenS_bd ha hb
  clear hs
  go_enter Try.func26, Try.ntmps26
  go_wp2_with (first | (go_at_call 40; (with_reducible refine (up (squares_any a b h l _ ha hb E) HB).mono ?_); clear HB; rintro e w' ⟨rfl, HB⟩) | (go_at_call 39; (with_reducible refine (up (rroot_uas h l (Fx.SQ a b) (Fx.lenS a b) _ P E hR) HB).mono ?_); clear HB; rintro e w' ⟨rfl, HB⟩))
  go_ret
  exact ⟨rfl, HB.out⟩

theorem wakes2_any (w : World) :
    Calls Try.prog 9 #[] w fun e w' => e = .returned (.bool true) ∧ Below w.heap.size w w' := by
  have h1 := len_any 196608 262144 w (by unfold Fx.I64; omega) (by unfold Fx.I64; omega)
  rw [Fx.len_five] at h1
  have H1 := Fx.Hd.mk h1
  clear h1
  go_enter Try.func9, Try.ntmps9
  go_wp2_with (go_at_call 8; (with_reducible refine H1.out.mono ?_); rintro e w1 ⟨rfl, hb1⟩; have B1 := Fx.Hd.mk hb1; clear hb1)
  go_ret
  exact ⟨rfl, B1.out⟩
end Go.Proofs.Ytgmhalcofcokbaa
/- The argument of the statements of layer 2: what is known of a list of two ways and a number each. -/
namespace Go.Proofs.Ytgmhalcofcokbaa
open Go.ChangeShapes Go.WideShapes Go.ChangeAt Go.RowKit Go.Deep
set_option linter.unusedVariables false

/-- A list of two ways and a number each: every element lies in memory, each number fits its kind. -/
def Asks2 (w : World) (a : Option Addr) (len cap : Nat) : Prop :=
  len ≤ cap ∧ cap ≤ 9223372036854775807 ∧ ∀ i, i < len → ∃ (b off : Nat) (x y u v k : Int), a = some ⟨b, off, none⟩ ∧ b < w.heap.size ∧ Fx.I64 x ∧ Fx.I64 y ∧ Fx.I64 u ∧ Fx.I64 v ∧ Fx.I64 k ∧
    w.cell? ⟨b, off + i * 5, none⟩ = some (.int .i64 x) ∧ w.cell? ⟨b, off + i * 5 + 1, none⟩ = some (.int .i64 y) ∧ w.cell? ⟨b, off + i * 5 + 2, none⟩ = some (.int .i64 u) ∧
    w.cell? ⟨b, off + i * 5 + 3, none⟩ = some (.int .i64 v) ∧ w.cell? ⟨b, off + i * 5 + 4, none⟩ = some (.int .i64 k)

theorem vec_of {H : Type} {enc : TypeId × Value → H} {w : World} {base : Nat} {spare : Nat → Bool} {held : Bool} {fuel : Nat} {x : DataW H × List MemPlace} {c0 c1 : Value}
    (hf : DataW.trod enc Try.prog w base spare held fuel 24 [c0, c1] = some x) : ∃ x y : Int, c0 = .int .i64 x ∧ c1 = .int .i64 y ∧ Fx.I64 x ∧ Fx.I64 y := by
  have h2 : Try.prog.cellsOf 2 = 1 := by kernel_rfl
  obtain ⟨ys, n', _, _, _, hyl, hg⟩ := DataW.trod_struct Try.underlying24 hf
  match ys, hyl with
  | [y0, y1], _ =>
    have g0 := hg 0 _ rfl
    have g1 := hg 1 _ rfl
    simp [h2] at g0 g1
    obtain ⟨x0, e0, _, w0⟩ := DataW.trod_int Try.underlying2 g0
    obtain ⟨x1, e1, _, w1⟩ := DataW.trod_int Try.underlying2 g1
    simp at e0 e1
    exact ⟨x0, x1, e0, e1, i64_of_wf w0, i64_of_wf w1⟩

set_option maxRecDepth 100000 in
theorem asks2_of {H : Type} {enc : TypeId × Value → H} {w : World} {base : Nat} {held : Bool} {fuel : Nat} {x : DataW H × List MemPlace} {a : Option Addr} {len cap : Nat}
    (hf : DataW.trod enc Try.prog w base (fun _ => true) held fuel 22 [.slice a len cap] = some x) : Asks2 w a len cap := by
  rcases open_slice Try.underlying22 hf with ⟨hcs, _⟩ | ⟨a', l, c, m, n, D, Pl, hcs, _, hl, hm, hmm, _, hi⟩
  · simp at hcs
    obtain ⟨rfl, rfl, rfl⟩ := hcs
    exact ⟨Nat.le_refl _, by omega, fun i h => absurd h (by omega)⟩
  · simp at hcs
    obtain ⟨rfl, rfl, rfl⟩ := hcs
    refine ⟨hl, by unfold maxLen at hm; omega, fun i hlt => ?_⟩
    have hC : Try.prog.cellsOf 26 = 5 := by kernel_rfl
    have h1 : Try.prog.cellsOf 2 = 1 := by kernel_rfl
    have h2 : Try.prog.cellsOf 24 = 2 := by kernel_rfl
    obtain ⟨cs', hc, ht⟩ := hi i (by rw [hmm]; simp; omega)
    rw [hC] at hc
    obtain ⟨ys, n', _, _, _, hyl, hg⟩ := DataW.trod_struct Try.underlying26 ht
    obtain ⟨_, hcl, hat⟩ := World.cells?_some hc
    match cs', hcl with
    | [c0, c1, c2, c3, c4], _ =>
      match ys, hyl with
      | [y0, y1, y2], _ =>
        have g0 := hg 0 _ rfl
        have g1 := hg 1 _ rfl
        have g2 := hg 2 _ rfl
        simp [h1, h2] at g0 g1 g2
        obtain ⟨x0, x1, rfl, rfl, w0, w1⟩ := vec_of g0
        obtain ⟨x2, x3, rfl, rfl, w2, w3⟩ := vec_of g1
        obtain ⟨x4, e4, _, w4⟩ := DataW.trod_int Try.underlying2 g2
        simp at e4
        subst e4
        have k0 := hat 0 (by omega)
        have k1 := hat 1 (by omega)
        have k2 := hat 2 (by omega)
        have k3 := hat 3 (by omega)
        have k4 := hat 4 (by omega)
        obtain ⟨b, off, spot⟩ := a'
        have hs : spot = none := by
          obtain ⟨cs2, hc2, _⟩ := hi 0 (by rw [hmm]; simp; omega)
          rw [hC] at hc2
          obtain ⟨_, hcl2, hat2⟩ := World.cells?_some hc2
          have h0 := hat2 0 (by omega)
          rw [List.getElem?_eq_getElem (by omega)] at h0
          simpa [Addr.add] using World.cell?_spot h0
        subst hs
        simp only [addr_plus, Nat.add_zero] at k0 k1 k2 k3 k4
        exact ⟨b, off, x0, x1, x2, x3, x4, rfl, World.block_lt_of_cell? _ _ k0, w0, w1, w2, w3, i64_of_wf w4, k0, k1, k2, k3, k4⟩
end Go.Proofs.Ytgmhalcofcokbaa
