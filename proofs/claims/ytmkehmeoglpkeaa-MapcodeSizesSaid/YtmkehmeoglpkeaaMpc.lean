/- Layer 7: a map's bytes by the reference. -/
import Derived.Test.YtmkehmeoglpkeaaMpb
namespace Go.Proofs.Ytmkehmeoglpkeaa
open Go.RowKit
set_option linter.unusedVariables false
set_option maxRecDepth 100000 in
theorem reight_any (s : Int) (w : World) (hs : Hk (Fn.U64 s)) :
    Calls Try.prog 26 #[.int .u64 s] w fun e w' => ∃ v, e = .returned v ∧ OwnB w' w.heap.size v 8 (Mp.eight s) ∧ Below w.heap.size w w' := by
  have hs0 : 0 ≤ s := hs.out.1
  go_enter Try.func26, Try.ntmps26
  go_wp2
  go_loopw [3, 4] (fun v i wr => ∃ (k : Nat), i = .int .i64 k ∧ k ≤ 8 ∧ Hk (OwnB wr w.heap.size v k ((Mp.eight s).take k)) ∧ Hk (Below w.heap.size w wr)) (fun _ i _ => 8 - (intOf i).toNat)
  case atStart => exact ⟨0, rfl, by omega, ⟨by simpa using OwnB.nil _ _⟩, ⟨Below.refl _ _⟩⟩
  case round =>
    obtain ⟨k, rfl, hk, HO, HB⟩ := hrel
    by_cases hlt : k < 8
    · obtain ⟨y, hy⟩ : ∃ y, Mp.dig s k = y := ⟨_, rfl⟩
      have hyz : s / 2 ^ (8 * k) % 256 = y := by rw [← hy]; unfold Mp.dig; rw [Int.pow_mul]; rfl
      have HYB : Hk (Fn.Byt y) := ⟨by rw [← hy]; exact Mp.dig_byt s k⟩
      have HY := Hk.mk hy
      have hsz := HB.out.size
      clear hy
      go_wp2_with (at_builtin; refine wpList_append_by _ rfl _ _ rfl w.heap.size _ k ((Mp.eight s).take k) rfl (HO.out.below ((Below.refl _ _).alloc (Nat.le_refl _) _)) (wr.heap.size + 1) (some ⟨wr.heap.size, 0, none⟩) 1 1 [y] rfl (byt_one wr y _ _ HYB.out) (fun e0 => by cases e0) (by omega) (by simp; omega) ?_; intro v' w1 hown' hgrow; have HO1 := Hk.mk hown'; have HB1 := Hk.mk ((HB.out.alloc hsz (.cells #[.int .u8 y] 5)).grown hgrow (by simp; omega) (fun g hg => (HO.out.lt g hg).1)); clear hown' hgrow)
      go_roundw
      case rel => exact ⟨k + 1, by go_num, by omega, ⟨by have h1 := HO1.out; rw [← HY.out, ← Mp.eight_take s hlt] at h1; exact h1⟩, HB1⟩
      case measure => simp [intOf]; omega
    · have hk8 : k = 8 := by omega
      subst hk8
      go_wp2
      go_ret
      exact ⟨_, rfl, by have h1 := HO.out; rwa [List.take_of_length_le (by rw [Mp.eight_len]; omega)] at h1, HB.out⟩
theorem rhash_any (a : Option Addr) (n c : Nat) (xs : List Int) (w : World) (h : By w w.heap.size a n xs) (hn : n ≤ 1099511627776) :
    Calls Try.prog 27 #[.int .u64 14695981039346656037, .slice a n c] w fun e w' => e = .returned (.int .u64 (Mp.hash xs)) ∧ w = w' := rsum_any 14695981039346656037 a n c xs w h hn
theorem ownB_lit (w : World) (xs : List Int) (n base : Nat) (hb : base ≤ w.heap.size) (hn : xs.length = n) (hm : n ≤ 64) (hx : ∀ b ∈ xs, Fn.Byt b) : OwnB (w.alloc (.cells (xs.map (Value.int .u8)).toArray 5)) base (.slice (some ⟨w.heap.size, 0, none⟩) n n) n xs := by
  refine ⟨hn, hx, ?_⟩
  have h1 := World.ownsRow_lit (e := 5) (size := 1) w (xs.map (Value.int .u8)).toArray n hb (by unfold maxLen; omega) (by simp [hn])
  simpa using h1
set_option maxRecDepth 100000 in
set_option maxHeartbeats 1600000 in
theorem rbytes_map (W H : Int) (a : Option Addr) (n c : Nat) (xs : List Int) (w : World) (h : By w w.heap.size a n xs) (han : a = none → c = 0) (G : Hk (GOk W H n xs)) :
    Calls Try.prog 13 #[.agg #[.int .i64 W, .int .i64 H, .slice a n c]] w fun e w' => ∃ v, e = .returned v ∧ OwnB w' w.heap.size v (Mp.mapL W H xs).length (Mp.mapL W H xs) ∧ Below w.heap.size w w' := by
  obtain ⟨w1', w2', h1', h2', nn⟩ : 1 ≤ W ∧ W ≤ 128 ∧ 1 ≤ H ∧ H ≤ 128 ∧ (n : Int) = W * H := ⟨G.out.w1, G.out.w2, G.out.h1, G.out.h2, G.out.nn⟩
  obtain ⟨m1, m2⟩ := mul_bd w1' w2' h1' h2'
  have hn : n ≤ 16384 := by omega
  have HAN := Hk.mk han
  have HL1 := Hk.mk (Wr.numL_nine (n := W.toNat) (by omega))
  have HL2 := Hk.mk (Wr.numL_nine (n := H.toNat) (by omega))
  have HLX := Hk.mk h.len
  have HML := Hk.mk (mapB_len W H xs)
  have HLB : Hk ((Mp.mapB W H xs).length ≤ 20000) := ⟨by rw [HML.out]; have := HL1.out; have := HL2.out; have := HLX.out; omega⟩
  have HBW : Hk (Below w.heap.size w (w.alloc (.cells #[.int .i64 W, .int .i64 H, .slice a n c] 26))) := ⟨(Below.refl _ _).alloc (Nat.le_refl _) _⟩
  have HYX := Hk.mk h
  have HGX : Hk (∀ X, Below (w.heap.size + 1) (w.alloc (.cells #[.int .i64 W, .int .i64 H, .slice a n c] 26)) X → X.cell? ⟨w.heap.size, 0, none⟩ = some (.int .i64 W) ∧ X.cell? ⟨w.heap.size, 1, none⟩ = some (.int .i64 H) ∧ X.cell? ⟨w.heap.size, 2, none⟩ = some (.slice a n c)) :=
    ⟨fun X hX => ⟨(hX.cell (p := ⟨w.heap.size, 0, none⟩) (by simp)).trans (by go_simp), (hX.cell (p := ⟨w.heap.size, 1, none⟩) (by simp)).trans (by go_simp), (hX.cell (p := ⟨w.heap.size, 2, none⟩) (by simp)).trans (by go_simp)⟩⟩
  have HOL : Hk (OwnB ((w.alloc (.cells #[.int .i64 W, .int .i64 H, .slice a n c] 26)).alloc (.cells #[.int .u8 84, .int .u8 71] 5)) (w.heap.size + 1) (.slice (some ⟨w.heap.size + 1, 0, none⟩) 2 2) 2 [84, 71]) := ⟨by simpa using ownB_lit (w.alloc (.cells #[.int .i64 W, .int .i64 H, .slice a n c] 26)) [84, 71] 2 (w.heap.size + 1) (by simp) rfl (by omega) (fun b hb => by simp at hb; rcases hb with rfl | rfl; exact b84; exact b71)⟩
  have HBL : Hk (Below (w.heap.size + 1) (w.alloc (.cells #[.int .i64 W, .int .i64 H, .slice a n c] 26)) ((w.alloc (.cells #[.int .i64 W, .int .i64 H, .slice a n c] 26)).alloc (.cells #[.int .u8 84, .int .u8 71] 5))) := ⟨(Below.refl _ _).alloc (by simp) _⟩
  obtain ⟨g0, -, -⟩ := HGX.out _ HBL.out
  clear h han m1 m2 nn
  go_enter Try.func13, Try.ntmps13
  go_wp2_with (first | (go_at_call 25; (with_reducible refine (rnum_at W W.toNat _ ⟨by omega⟩ ⟨by omega⟩).mono ?_); rintro e w1 ⟨v1, rfl, ho1, hb1⟩; obtain ⟨a1, c1, rfl, hc1, hby1, -⟩ := ho1.by_; have HN1 := Hk.mk ho1.anm; have HY1 := Hk.mk hby1; have HO1 := Hk.mk (HOL.out.below hb1); have HB1 := Hk.mk (HBL.out.trans (hb1.mono (by simp))); clear ho1 hb1 hby1 g0) | (at_builtin; refine wpList_append_by _ rfl (.tmp 4) (.tmp 7) rfl (w.heap.size + 1) (.slice (some ⟨w.heap.size + 1, 0, none⟩) 2 2) 2 [84, 71] rfl HO1.out _ a1 (Wr.numL W.toNat).length c1 (Wr.numL W.toNat) rfl HY1.out HN1.out ?_ ?_ ?_; (have := HL1.out; omega); (have := HB1.out.size; simpa using this); intro v2 w2 hown2 hgrow2; have HO2 := Hk.mk hown2; have HB2 := Hk.mk (HB1.out.grown hgrow2 (by have := HB1.out.size; simpa using this) (fun g hg => (HO1.out.lt g hg).1)); clear hown2 hgrow2; obtain ⟨-, g1, -⟩ := HGX.out _ HB2.out) | (go_at_call 25; (with_reducible refine (rnum_at H H.toNat _ ⟨by omega⟩ ⟨by omega⟩).mono ?_); rintro e w3 ⟨v3, rfl, ho3, hb3⟩; obtain ⟨a3, c3, rfl, hc3, hby3, -⟩ := ho3.by_; have HN3 := Hk.mk ho3.anm; have HY3 := Hk.mk hby3; have HO3 := Hk.mk (HO2.out.below hb3); have HB3 := Hk.mk (HB2.out.trans (hb3.mono (by have := HB2.out.size; simpa using this))); clear ho3 hb3 hby3 g1) | (at_builtin; refine wpList_append_by _ rfl (.tmp 9) (.tmp 12) rfl (w.heap.size + 1) v2 (2 + (Wr.numL W.toNat).length) ([84, 71] ++ Wr.numL W.toNat) rfl HO3.out _ a3 (Wr.numL H.toNat).length c3 (Wr.numL H.toNat) rfl HY3.out HN3.out ?_ ?_ ?_; (have := HL1.out; have := HL2.out; omega); (have := HB3.out.size; simpa using this); intro v4 w4 hown4 hgrow4; have HO4 := Hk.mk hown4; have HB4 := Hk.mk (HB3.out.grown hgrow4 (by have := HB3.out.size; simpa using this) (fun g hg => (HO3.out.lt g hg).1)); clear hown4 hgrow4; obtain ⟨-, -, g2⟩ := HGX.out _ HB4.out; have HYT : Hk (By w4 w.heap.size a n xs) := ⟨HYX.out.below (HBW.out.trans (HB4.out.mono (by omega))) (Nat.le_refl _)⟩) | (at_builtin; refine wpList_append_by _ rfl (.tmp 14) (.tmp 16) rfl (w.heap.size + 1) v4 (2 + (Wr.numL W.toNat).length + (Wr.numL H.toNat).length) ([84, 71] ++ Wr.numL W.toNat ++ Wr.numL H.toNat) rfl HO4.out w.heap.size a n c xs rfl HYT.out HAN.out ?_ ?_ ?_; (have := HL1.out; have := HL2.out; omega); (have := HB4.out.size; simpa using this); intro v5 w5 hown5 hgrow5; have HO5 : Hk (OwnB w5 (w.heap.size + 1) v5 (Mp.mapB W H xs).length (Mp.mapB W H xs)) := ⟨by rw [HML.out, HLX.out]; exact hown5⟩; have HB5 := Hk.mk (HB4.out.grown hgrow5 (by have := HB4.out.size; simpa using this) (fun g hg => (HO4.out.lt g hg).1)); clear hown5 hgrow5 g2; obtain ⟨a5, c5, rfl, hc5, hby5, -⟩ := HO5.out.by_; have HY5 := Hk.mk hby5; clear hby5) | (go_at_call 27; (with_reducible refine (rhash_any a5 (Mp.mapB W H xs).length c5 (Mp.mapB W H xs) _ HY5.out ?_).mono ?_); (have := HLB.out; omega); rintro e w' ⟨rfl, rfl⟩) | (go_at_call 26; (with_reducible refine (reight_any (Mp.hash (Mp.mapB W H xs)) _ ⟨Mp.hash_u64 _⟩).mono ?_); rintro e w6 ⟨v6, rfl, ho6, hb6⟩; obtain ⟨a6, c6, rfl, hc6, hby6, -⟩ := ho6.by_; have HN6 := Hk.mk ho6.anm; have HY6 := Hk.mk hby6; have HO6 := Hk.mk (HO5.out.below hb6); have HB6 := Hk.mk (HB5.out.trans (hb6.mono (by have := HB5.out.size; simpa using this))); clear ho6 hb6 hby6) | (at_builtin; refine wpList_append_by _ rfl (.tmp 18) (.tmp 21) rfl (w.heap.size + 1) (.slice a5 (Mp.mapB W H xs).length c5) (Mp.mapB W H xs).length (Mp.mapB W H xs) rfl HO6.out _ a6 8 c6 (Mp.eight (Mp.hash (Mp.mapB W H xs))) rfl HY6.out HN6.out ?_ ?_ ?_; (have := HLB.out; omega); (have := HB6.out.size; simpa using this); intro v7 w7 hown7 hgrow7; have HO7 := Hk.mk hown7; have HB7 := Hk.mk (HB6.out.grown hgrow7 (by have := HB6.out.size; simpa using this) (fun g hg => (HO6.out.lt g hg).1)); clear hown7 hgrow7))
  go_ret
  have e1 : (Mp.mapL W H xs).length = (Mp.mapB W H xs).length + 8 := by unfold Mp.mapL; rw [List.length_append, Mp.eight_len]
  exact ⟨v7, rfl, by rw [e1]; exact HO7.out.weak (by omega), HBW.out.trans (HB7.out.mono (by omega))⟩
end Go.Proofs.Ytmkehmeoglpkeaa
