/- The contract of what is made shorter of package vec. -/
import Derived.Test.YtgmhalcofcokbaaVeci
import Derived.StillTailTactics
namespace Go.Proofs.Ytgmhalcofcokbaa
open Go.RowKit
set_option linter.unusedVariables false
set_option maxHeartbeats 1600000 in
theorem clamp_in_any (a b k m cx cy : Int) (w : World) (ha : Fx.I64 a) (hb : Fx.I64 b) (hk : Fx.I64 k) (hm : k < 0 ∧ m = 0 ∨ 0 ≤ k ∧ m = k) (hle : Fx.lenS a b ≤ m) (EX : Fx.Hd (cx = Fx.cnt a)) (EY : Fx.Hd (cy = Fx.cnt b)) :
    Calls Try.prog 7 #[.agg #[.int .i64 a, .int .i64 b], .int .i64 k] w fun e w' => e = .returned (.agg #[.int .i64 cx, .int .i64 cy]) ∧ Below w.heap.size w w' := by
  have k0 := Kept.start w (.int .i64 a) (.int .i64 b) (.int .i64 0) (.int .i64 0) 24 24
  rcases hm with ⟨hk0, rfl⟩ | ⟨hk0, rfl⟩
  · go_enter Try.func7, Try.ntmps7
    go_wp2_with fail
    generalize (w.alloc (.cells #[.int .i64 a, .int .i64 b] 24)).alloc (.cells #[.int .i64 0, .int .i64 0] 24) = W at *
    have e0 := k0.c0
    have e1 := k0.c1
    have e2 := k0.d0
    have e3 := k0.d1
    have e4 := k0.f0
    have e5 := k0.f1
    have K := Fx.Hd.mk k0
    clear k0
    go_wp2_with (first | (go_at_call 8; (with_reducible refine (heldV (len_any a b _ ha hb) K).mono ?_); clear K e0 e1 e2 e3 e4 e5; rintro e w2 ⟨rfl, K, e0, e1, e2, e3, e4, e5⟩))
    go_region_with (first | (go_at_call 32; (first | (with_reducible refine (vcounted_any a _ ha).mono ?_) | (with_reducible refine (vcounted_any b _ hb).mono ?_)); rintro e w' ⟨rfl, rfl⟩))
    all_goals
      go_wp2
      obtain ⟨rfl⟩ := EX
      obtain ⟨rfl⟩ := EY
      refine bodyPost_ret (v := .agg #[.int .i64 (Fx.cnt a), .int .i64 (Fx.cnt b)]) (by simp [results, Try.results7, go_sem, e2, e3]) rfl ⟨rfl, ?_⟩
      try (with_reducible refine Below.drew ?_)
      refine Below.setCell (p := ⟨w.heap.size + 1, 1, none⟩) (Below.setCell (p := ⟨w.heap.size + 1, 0, none⟩) ?_ (Nat.le_succ w.heap.size) _) (Nat.le_succ w.heap.size) _
      first | exact K.out.hB | exact K.out.hB.drew
  · go_enter Try.func7, Try.ntmps7
    go_wp2_with fail
    generalize (w.alloc (.cells #[.int .i64 a, .int .i64 b] 24)).alloc (.cells #[.int .i64 0, .int .i64 0] 24) = W at *
    have e0 := k0.c0
    have e1 := k0.c1
    have e2 := k0.d0
    have e3 := k0.d1
    have e4 := k0.f0
    have e5 := k0.f1
    have K := Fx.Hd.mk k0
    clear k0
    go_wp2_with (first | (go_at_call 8; (with_reducible refine (heldV (len_any a b _ ha hb) K).mono ?_); clear K e0 e1 e2 e3 e4 e5; rintro e w2 ⟨rfl, K, e0, e1, e2, e3, e4, e5⟩))
    go_region_with (first | (go_at_call 32; (first | (with_reducible refine (vcounted_any a _ ha).mono ?_) | (with_reducible refine (vcounted_any b _ hb).mono ?_)); rintro e w' ⟨rfl, rfl⟩))
    all_goals
      go_wp2
      obtain ⟨rfl⟩ := EX
      obtain ⟨rfl⟩ := EY
      refine bodyPost_ret (v := .agg #[.int .i64 (Fx.cnt a), .int .i64 (Fx.cnt b)]) (by simp [results, Try.results7, go_sem, e2, e3]) rfl ⟨rfl, ?_⟩
      try (with_reducible refine Below.drew ?_)
      refine Below.setCell (p := ⟨w.heap.size + 1, 1, none⟩) (Below.setCell (p := ⟨w.heap.size + 1, 0, none⟩) ?_ (Nat.le_succ w.heap.size) _) (Nat.le_succ w.heap.size) _
      first | exact K.out.hB | exact K.out.hB.drew
set_option maxHeartbeats 1600000 in
theorem clamp_out_any (a b k m cx cy : Int) (w : World) (ha : Fx.I64 a) (hb : Fx.I64 b) (hk : Fx.I64 k) (hm : k < 0 ∧ m = 0 ∨ 0 ≤ k ∧ m = k) (hle : m < Fx.lenS a b) (EX : Fx.Hd (cx = Fx.partS a m (Fx.lenS a b))) (EY : Fx.Hd (cy = Fx.partS b m (Fx.lenS a b))) :
    Calls Try.prog 7 #[.agg #[.int .i64 a, .int .i64 b], .int .i64 k] w fun e w' => e = .returned (.agg #[.int .i64 cx, .int .i64 cy]) ∧ Below w.heap.size w w' := by
  have k0 := Kept.start w (.int .i64 a) (.int .i64 b) (.int .i64 0) (.int .i64 0) 24 24
  have hl := (Fx.lenS_bd ha hb).2
  rcases hm with ⟨hk0, rfl⟩ | ⟨hk0, rfl⟩
  · go_enter Try.func7, Try.ntmps7
    go_wp2_with fail
    generalize (w.alloc (.cells #[.int .i64 a, .int .i64 b] 24)).alloc (.cells #[.int .i64 0, .int .i64 0] 24) = W at *
    have e0 := k0.c0
    have e1 := k0.c1
    have e2 := k0.d0
    have e3 := k0.d1
    have e4 := k0.f0
    have e5 := k0.f1
    have K := Fx.Hd.mk k0
    clear k0
    go_wp2_with (first | (go_at_call 8; (with_reducible refine (heldV (len_any a b _ ha hb) K).mono ?_); clear K e0 e1 e2 e3 e4 e5; rintro e w2 ⟨rfl, K, e0, e1, e2, e3, e4, e5⟩))
    replace K := Fx.Hd.mk K.out.drew
    go_region_with (first | (go_at_call 33; (first | (with_reducible refine (heldV (part_any a 0 (Fx.lenS a b) _ ha (by omega) hle hl) K).mono ?_) | (with_reducible refine (heldV (part_any b 0 (Fx.lenS a b) _ hb (by omega) hle hl) K).mono ?_)); clear K e0 e1 e2 e3 e4 e5; rintro e w2 ⟨rfl, K, e0, e1, e2, e3, e4, e5⟩))
    all_goals
      go_wp2
      obtain ⟨rfl⟩ := EX
      obtain ⟨rfl⟩ := EY
      refine bodyPost_ret (v := .agg #[.int .i64 (Fx.partS a 0 (Fx.lenS a b)), .int .i64 (Fx.partS b 0 (Fx.lenS a b))]) (by simp [results, Try.results7, go_sem, e2, e3]) rfl ⟨rfl, ?_⟩
      try (with_reducible refine Below.drew ?_)
      refine Below.setCell (p := ⟨w.heap.size + 1, 1, none⟩) (Below.setCell (p := ⟨w.heap.size + 1, 0, none⟩) ?_ (Nat.le_succ w.heap.size) _) (Nat.le_succ w.heap.size) _
      first | exact K.out.hB | exact K.out.hB.drew
  · go_enter Try.func7, Try.ntmps7
    go_wp2_with fail
    generalize (w.alloc (.cells #[.int .i64 a, .int .i64 b] 24)).alloc (.cells #[.int .i64 0, .int .i64 0] 24) = W at *
    have e0 := k0.c0
    have e1 := k0.c1
    have e2 := k0.d0
    have e3 := k0.d1
    have e4 := k0.f0
    have e5 := k0.f1
    have K := Fx.Hd.mk k0
    clear k0
    go_wp2_with (first | (go_at_call 8; (with_reducible refine (heldV (len_any a b _ ha hb) K).mono ?_); clear K e0 e1 e2 e3 e4 e5; rintro e w2 ⟨rfl, K, e0, e1, e2, e3, e4, e5⟩))
    replace K := Fx.Hd.mk K.out.drew
    go_region_with (first | (go_at_call 33; (first | (with_reducible refine (heldV (part_any a m (Fx.lenS a b) _ ha (by omega) hle hl) K).mono ?_) | (with_reducible refine (heldV (part_any b m (Fx.lenS a b) _ hb (by omega) hle hl) K).mono ?_)); clear K e0 e1 e2 e3 e4 e5; rintro e w2 ⟨rfl, K, e0, e1, e2, e3, e4, e5⟩))
    all_goals
      go_wp2
      obtain ⟨rfl⟩ := EX
      obtain ⟨rfl⟩ := EY
      refine bodyPost_ret (v := .agg #[.int .i64 (Fx.partS a m (Fx.lenS a b)), .int .i64 (Fx.partS b m (Fx.lenS a b))]) (by simp [results, Try.results7, go_sem, e2, e3]) rfl ⟨rfl, ?_⟩
      try (with_reducible refine Below.drew ?_)
      refine Below.setCell (p := ⟨w.heap.size + 1, 1, none⟩) (Below.setCell (p := ⟨w.heap.size + 1, 0, none⟩) ?_ (Nat.le_succ w.heap.size) _) (Nat.le_succ w.heap.size) _
      first | exact K.out.hB | exact K.out.hB.drew
end Go.Proofs.Ytgmhalcofcokbaa
