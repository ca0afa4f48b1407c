import Derived.Deep.QuietTactic
import Derived.BigQuiet
import Derived.Deep.RegionWith
import Derived.Deep.RegionHeld3
import Derived.Deep.DeepCutAuto
import Derived.Deep.DeepFit
import Derived.Outline
import Derived.Test.YtcgilmjhbdehpaaZbk
/- Package portal: the portals along a border. -/
namespace Go.Proofs.Ytcgilmjhbdehpaa
open Go.ChangeShapes Go.WideShapes Go.ChangeAt Go.RowKit Go.Deep
set_option linter.unusedVariables false
set_option linter.unusedSimpArgs false
theorem c3_one (p : Int × Int × Int) : ∀ u ∈ c3 p, u.oneCell' = true := fun u hu => by
  simp [c3] at hu
  rcases hu with rfl | rfl | rfl <;> rfl
theorem own_formP {w : World} {S n : Nat} {v : Value} {xs : List Value} (h : w.ownsRow S 41 3 v n xs) : ∃ a c, v = .slice a n c := by
  rcases h.2 with ⟨e, h0⟩ | ⟨g', cap, cur, e, hg, _⟩
  · exact ⟨none, 0, by rw [e, h0]⟩
  · exact ⟨_, _, e⟩
theorem own_leP {w : World} {S S' n : Nat} {v : Value} {xs : List Value} (h : w.ownsRow S 41 3 v n xs) (hS : S' ≤ S) : w.ownsRow S' 41 3 v n xs := by
  refine ⟨h.1, ?_⟩
  rcases h.2 with e | ⟨g', cap, cur, e, hg, hr⟩
  · exact Or.inl e
  · exact Or.inr ⟨g', cap, cur, e, by omega, hr⟩
theorem wr_small {x : Int} (h : -1000000 ≤ x) (h' : x ≤ 1000000) : IntKind.i64.wrap x = x := wr_in' ⟨by omega, by omega⟩
theorem wr_nat {k : Nat} (h : k ≤ 1000000) : IntKind.i64.wrap (k : Int) = (k : Int) := wr_in' ⟨by omega, by omega⟩
theorem w64_nat {k : Nat} (h : k ≤ 1000000) : wrap64 (k : Int) = (k : Int) := by unfold wrap64; omega
theorem mul_le128 {i n : Nat} {al : Int} (h : i ≤ n) (hn : n ≤ 128) (a0 : 0 ≤ al) (a1 : al ≤ 128) : 0 ≤ (i : Int) * al ∧ (i : Int) * al ≤ 16384 := by
  refine ⟨Int.mul_nonneg (by omega) a0, ?_⟩
  have := Int.mul_le_mul (show (i : Int) ≤ 128 by omega) a1 a0 (by omega)
  omega
set_option maxRecDepth 1000000 in
set_option maxHeartbeats 6400000 in
theorem portals_any (f al ac : Int) (n fb fo nn fc : Nat) (fr : Nat → Bool) (pr : Nat → Bool) (w : World) (hn : n ≤ 128) (f0 : 0 ≤ f) (f1 : f ≤ 16384) (a0 : 0 ≤ al) (a1 : al ≤ 128) (c0 : 1 ≤ ac) (c1 : ac ≤ 128) (hT : ∀ i : Nat, i < n → f + (i : Int) * al + ac < (nn : Int)) (hnn : nn ≤ 16384) (hfl : fb < w.heap.size) (hF : ∀ k, k < nn → w.cell? ⟨fb, fo + k, none⟩ = some (.bool (fr k))) (hpn : ∀ i, n ≤ i → pr i = false) (hp : ∀ i : Nat, i < n → pr i = (fr (f + (i : Int) * al).toNat && fr (f + (i : Int) * al + ac).toNat)) :
    Calls Try.prog 29 #[.agg #[.int .i64 f, .int .i64 al, .int .i64 ac, .int .i64 (n : Nat)], .slice (some ⟨fb, fo, none⟩) nn fc] w fun e w' => ∃ v, e = .returned v ∧ World.ownsRow w' w.heap.size 41 3 v (((rnS pr (n + 1)).1.map (ptOf (fun k : Nat => f + (k : Int) * al) ac))).length (fl3 (((rnS pr (n + 1)).1.map (ptOf (fun k : Nat => f + (k : Int) * al) ac)))) ∧ Below w.heap.size w w' := by
  obtain ⟨ii, hii, hiz0, hiz1, hiz2⟩ := info_parts info_pt
  have HWB : Hk (Below w.heap.size w (w.alloc (.cells #[.int .i64 f, .int .i64 al, .int .i64 ac, .int .i64 (n : Nat)] 62))) := ⟨(Below.refl _ _).alloc (Nat.le_refl _) _⟩
  have hNW : (w.heap.size + 1) ≤ (w.alloc (.cells #[.int .i64 f, .int .i64 al, .int .i64 ac, .int .i64 (n : Nat)] 62)).heap.size := by simp
  have HB : Hk (Below (w.heap.size + 1) (w.alloc (.cells #[.int .i64 f, .int .i64 al, .int .i64 ac, .int .i64 (n : Nat)] 62)) (w.alloc (.cells #[.int .i64 f, .int .i64 al, .int .i64 ac, .int .i64 (n : Nat)] 62))) := ⟨Below.refl _ _⟩
  have HTR : Hk (∀ X, Below (w.heap.size + 1) (w.alloc (.cells #[.int .i64 f, .int .i64 al, .int .i64 ac, .int .i64 (n : Nat)] 62)) X → Below w.heap.size w X) := ⟨fun X hX => HWB.out.trans (hX.mono (by omega))⟩
  have HFF := Hk.mk hF
  have HTT := Hk.mk hT
  have HPN := Hk.mk hpn
  have HPP := Hk.mk hp
  have hfl1 : fb < w.heap.size + 1 := by omega
  have HO : Hk (World.ownsRow (w.alloc (.cells #[.int .i64 f, .int .i64 al, .int .i64 ac, .int .i64 (n : Nat)] 62)) (w.heap.size + 1) 41 3 (.slice none 0 0) (((rnS pr (0)).1.map (ptOf (fun k : Nat => f + (k : Int) * al) ac))).length (fl3 (((rnS pr (0)).1.map (ptOf (fun k : Nat => f + (k : Int) * al) ac))))) := ⟨World.ownsRow_nil _ _ _ _⟩
  have w129 : IntKind.i64.wrap ((n : Int) + 1) = (n : Int) + 1 := by rw [IntKind.wrap_i64]; omega
  clear hF hT hpn hp
  obtain ⟨hc, hf, hl, hn', hm⟩ := kw_rules HB.out hNW
  go_enter Try.func29, Try.ntmps29
  go_wp2_with fail
  clear w129
  obtain ⟨wo, hwo⟩ : ∃ wo : World, wo = (w.alloc (.cells #[.int .i64 f, .int .i64 al, .int .i64 ac, .int .i64 (n : Nat)] 62)) := ⟨_, rfl⟩
  go_loopw [5, 6, 13] (fun l ww jj wr => ∃ (i : Nat) (sa : Option Addr) (sc : Nat), l = .slice sa (((rnS pr (i)).1.map (ptOf (fun k : Nat => f + (k : Int) * al) ac))).length sc ∧ jj = .int .i64 i ∧ i ≤ n + 1 ∧ ww = .int .i64 ((rnS pr i).2 : Nat) ∧ Hk (World.ownsRow wr (w.heap.size + 1) 41 3 (.slice sa (((rnS pr (i)).1.map (ptOf (fun k : Nat => f + (k : Int) * al) ac))).length sc) (((rnS pr (i)).1.map (ptOf (fun k : Nat => f + (k : Int) * al) ac))).length (fl3 (((rnS pr (i)).1.map (ptOf (fun k : Nat => f + (k : Int) * al) ac))))) ∧ Hk (Below (w.heap.size + 1) (w.alloc (.cells #[.int .i64 f, .int .i64 al, .int .i64 ac, .int .i64 (n : Nat)] 62)) wr)) (fun _ _ jj _ => n + 1 - (intOf jj).toNat)
  case atStart => exact ⟨0, none, 0, rfl, rfl, by omega, rfl, HO, HB⟩
  case round =>
    clear HO HB hwo wo
    obtain ⟨i, sa, sc, rfl, rfl, hi, rfl, HO, HB⟩ := hrel
    clear hc hf hl hn' hm
    obtain ⟨hc, hf, hl, hn', hm⟩ := kw_rules HB.out hNW
    by_cases hil : i < n + 1
    · have i0 : (0 : Int) ≤ (i : Int) := by omega
      have i1 : (i : Int) < (n : Int) + 1 := by omega
      have hri := runI pr i
      have hll := rnS_len pr i
      obtain ⟨wd, hwd⟩ : ∃ wd, (rnS pr i).2 = wd := ⟨_, rfl⟩
      obtain ⟨L, hL⟩ : ∃ L, ((rnS pr (i)).1.map (ptOf (fun k : Nat => f + (k : Int) * al) ac)) = L := ⟨_, rfl⟩
      have hLl : L.length ≤ 129 := by rw [← hL]; simp; omega
      rw [hwd] at hri ⊢
      rw [hL] at HO ⊢
      have HRI := Hk.mk hri
      have HWD := Hk.mk hwd
      have HLE := Hk.mk hL
      clear hri hwd hL hll
      as_aux_lemma =>
        go_upto_region 6 with fail
        go_cut [8] (fun x wx => x = .bool (pr i) ∧ Hk (World.ownsRow wx (w.heap.size + 1) 41 3 (.slice sa L.length sc) (L).length (fl3 (L))) ∧ Hk (Below (w.heap.size + 1) (w.alloc (.cells #[.int .i64 f, .int .i64 al, .int .i64 ac, .int .i64 (n : Nat)] 62)) wx))
        case first =>
          by_cases hin : i < n
          · have d0 : decide ((i : Int) < (n : Int)) = true := by simp; omega
            obtain ⟨m0, m1⟩ := mul_le128 (Nat.le_of_lt hin) hn a0 a1
            have hTi := HTT.out i hin
            have hpi := HPP.out i hin
            obtain ⟨tN, htN⟩ : ∃ tN : Nat, (tN : Int) = f + (i : Int) * al := ⟨(f + (i : Int) * al).toNat, by omega⟩
            obtain ⟨uN, huN⟩ : ∃ uN : Nat, (uN : Int) = f + (i : Int) * al + ac := ⟨(f + (i : Int) * al + ac).toNat, by omega⟩
            rw [← huN, ← htN, Int.toNat_natCast, Int.toNat_natCast] at hpi
            rw [← huN] at hTi
            have HTI : Hk (f + (i : Int) * al = (tN : Int)) := ⟨htN.symm⟩
            have hTb : Hk (-1000000 ≤ (i : Int) * al ∧ (i : Int) * al ≤ 1000000 ∧ -1000000 ≤ (tN : Int) ∧ (tN : Int) ≤ 1000000) := ⟨by omega⟩
            have hut : (uN : Int) = (tN : Int) + ac := by omega
            have g1 : IntKind.i64.wrap ((tN : Int) + ac) = (uN : Int) := by rw [← hut]; exact wr_in' (by omega)
            have t0 : (0 : Int) ≤ (tN : Int) := by omega
            have t1 : (tN : Int) < (nn : Int) := by omega
            have u0 : (0 : Int) ≤ (uN : Int) := by omega
            have u1 : (uN : Int) < (nn : Int) := by omega
            have cT := HFF.out tN (by omega)
            have cU := HFF.out uN (by omega)
            clear m0 m1 hTi htN huN hut
            cases hft : fr tN
            · rw [hft] at cT hpi
              rw [Bool.false_and] at hpi
              clear hft cU
              as_aux_lemma =>
                refine wp_region_held_drew (S := (fun X => (∀ b o, b < (w.heap.size + 1) → X.cell? ⟨b, o, none⟩ = ((w.alloc (.cells #[.int .i64 f, .int .i64 al, .int .i64 ac, .int .i64 (n : Nat)] 62))).cell? ⟨b, o, none⟩) ∧ Below (w.heap.size + 1) (w.alloc (.cells #[.int .i64 f, .int .i64 al, .int .i64 ac, .int .i64 (n : Nat)] 62)) X)) (by kernel_rfl) ?_ (fun hHeld => ?_)
                · exact kw_S (kw_drew HB.out)
                refine wpAnyH_take (i := 0) (v := ?_) rfl (by kernel_rfl) (by kernel_rfl) (by kernel_rfl) (fun _ _ _ h => h) (Or.inl ⟨by rfl, fun wX hSw => ?_⟩) (by assumption) ?_
                rotate_left
                · (try dsimp only at hSw); go_simp; try with_reducible rfl
                (try simp only [Act.put, List.getElem_toArray, List.getElem_cons_succ, List.getElem_cons_zero, List.setIfInBounds_toArray, List.set_cons_zero, List.set_cons_succ])
                refine wpAnyH_take (i := 1) (v := ?_) rfl (by kernel_rfl) (by kernel_rfl) (by kernel_rfl) (fun _ _ _ h => h) (Or.inl ⟨by rfl, fun wX hSw => ?_⟩) (by assumption) ?_
                rotate_left
                · (try dsimp only at hSw); go_simp; try with_reducible rfl
                (try simp only [Act.put, List.getElem_toArray, List.getElem_cons_succ, List.getElem_cons_zero, List.setIfInBounds_toArray, List.set_cons_zero, List.set_cons_succ])
                refine wpAnyH_take (i := 2) (v := ?_) rfl (by kernel_rfl) (by kernel_rfl) (by kernel_rfl) (fun _ _ _ h => h) (Or.inl ⟨by rfl, fun wX hSw => ?_⟩) (by assumption) ?_
                rotate_left
                · (try dsimp only at hSw); go_simp; try with_reducible rfl
                (try simp only [Act.put, List.getElem_toArray, List.getElem_cons_succ, List.getElem_cons_zero, List.setIfInBounds_toArray, List.set_cons_zero, List.set_cons_succ])
                refine wpAnyH_take (i := 3) (v := ?_) rfl (by kernel_rfl) (by kernel_rfl) (by kernel_rfl) (fun _ _ _ h => h) (Or.inl ⟨by rfl, fun wX hSw => ?_⟩) (by assumption) ?_
                rotate_left
                · (try dsimp only at hSw); go_simp; try with_reducible rfl
                (try simp only [Act.put, List.getElem_toArray, List.getElem_cons_succ, List.getElem_cons_zero, List.setIfInBounds_toArray, List.set_cons_zero, List.set_cons_succ])
                refine wpAnyH_take (i := 4) (v := ?_) rfl (by kernel_rfl) (by kernel_rfl) (by kernel_rfl) (fun _ _ _ h => h) (Or.inl ⟨by rfl, fun wX hSw => ?_⟩) (by assumption) ?_
                rotate_left
                · (try dsimp only at hSw); go_simp; try with_reducible rfl
                (try simp only [Act.put, List.getElem_toArray, List.getElem_cons_succ, List.getElem_cons_zero, List.setIfInBounds_toArray, List.set_cons_zero, List.set_cons_succ])
                refine wpAnyH_take (i := 5) (v := ?_) rfl (by kernel_rfl) (by kernel_rfl) (by kernel_rfl) (fun _ _ _ h => h) (Or.inl ⟨by rfl, fun wX hSw => ?_⟩) (by assumption) ?_
                rotate_left
                · (try dsimp only at hSw); go_simp; try with_reducible rfl
                (try simp only [Act.put, List.getElem_toArray, List.getElem_cons_succ, List.getElem_cons_zero, List.setIfInBounds_toArray, List.set_cons_zero, List.set_cons_succ])
                refine wpAnyH_take (i := 6) (v := ?_) rfl (by kernel_rfl) (by kernel_rfl) (by kernel_rfl) (fun _ _ _ h => h) (Or.inl ⟨by rfl, fun wX hSw => ?_⟩) (by assumption) ?_
                rotate_left
                · (try dsimp only at hSw); go_simp; try with_reducible rfl
                (try simp only [Act.put, List.getElem_toArray, List.getElem_cons_succ, List.getElem_cons_zero, List.setIfInBounds_toArray, List.set_cons_zero, List.set_cons_succ])
                refine wpAnyH_take (i := 7) (v := ?_) rfl (by kernel_rfl) (by kernel_rfl) (by kernel_rfl) (fun _ _ _ h => h) (Or.inl ⟨by rfl, fun wX hSw => ?_⟩) (by assumption) ?_
                rotate_left
                · (try dsimp only at hSw); go_simp; try with_reducible rfl
                (try simp only [Act.put, List.getElem_toArray, List.getElem_cons_succ, List.getElem_cons_zero, List.setIfInBounds_toArray, List.set_cons_zero, List.set_cons_succ])
                refine wpAnyH_ready (rs := [8]) (by kernel_rfl) (by simp) ?_
                refine AllReadyH.cons rfl (fun K hK => ?_) (AllReadyH.nil)
                go_simp
                ((go_at_call 46; (with_reducible refine (tile11_as f al ac (n : Nat) (i : Nat) (tN : Int) _ HTI hTb).mono ?_); rintro e z ⟨rfl, hb⟩; have HO2 : Hk (World.ownsRow z (w.heap.size + 1) 41 3 (.slice sa L.length sc) (L).length (fl3 (L))) := ⟨by first | exact ownp_later HO.out hb | exact ownp_later (ownp_drew HO.out) hb⟩; have hB2 : Hk (Below (w.heap.size + 1) (w.alloc (.cells #[.int .i64 f, .int .i64 al, .int .i64 ac, .int .i64 (n : Nat)] 62)) z) := ⟨by first | exact kw_step HB.out hNW hb | exact kw_step HB.out.drew hNW hb⟩; clear hb; replace HO := HO2; replace HB := hB2; clear hB2 HO2; clear hc hf hl hn' hm; obtain ⟨hc, hf, hl, hn', hm⟩ := kw_rules HB.out hNW))
                refine hK.out _ _ ?_ (fun hHeld => ?_)
                · exact kw_S HB.out
                clear hK K
                (try simp only [Act.put, List.getElem_toArray, List.getElem_cons_succ, List.getElem_cons_zero, List.setIfInBounds_toArray, List.set_cons_zero, List.set_cons_succ])
                refine wpAnyH_take (i := 9) (v := ?_) rfl (by kernel_rfl) (by kernel_rfl) (by kernel_rfl) (fun _ _ _ h => h) (Or.inl ⟨by rfl, fun wX hSw => ?_⟩) (by assumption) ?_
                rotate_left
                · (try dsimp only at hSw); go_simp; try with_reducible rfl
                (try simp only [Act.put, List.getElem_toArray, List.getElem_cons_succ, List.getElem_cons_zero, List.setIfInBounds_toArray, List.set_cons_zero, List.set_cons_succ])
                refine wpAnyH_take (i := 10) (v := ?_) rfl (by kernel_rfl) (by kernel_rfl) (by kernel_rfl) (fun _ _ _ h => h) (Or.inl ⟨by rfl, fun wX hSw => ?_⟩) (by assumption) ?_
                rotate_left
                · (try dsimp only at hSw); go_simp; try with_reducible rfl
                (try simp only [Act.put, List.getElem_toArray, List.getElem_cons_succ, List.getElem_cons_zero, List.setIfInBounds_toArray, List.set_cons_zero, List.set_cons_succ])
                refine wpAnyH_take (i := 11) (v := ?_) rfl (by kernel_rfl) (by kernel_rfl) (by kernel_rfl) (fun _ _ _ h => h) (Or.inl ⟨by rfl, fun wX hSw => ?_⟩) (by assumption) ?_
                rotate_left
                · (try dsimp only at hSw); go_simp; try with_reducible rfl
                (try simp only [Act.put, List.getElem_toArray, List.getElem_cons_succ, List.getElem_cons_zero, List.setIfInBounds_toArray, List.set_cons_zero, List.set_cons_succ])
                refine wpAnyH_take (i := 12) (v := ?_) rfl (by kernel_rfl) (by kernel_rfl) (by kernel_rfl) (fun _ _ _ h => h) (Or.inl ⟨by rfl, fun wX hSw => ?_⟩) (by assumption) ?_
                rotate_left
                · (try dsimp only at hSw); go_simp; try with_reducible rfl
                (try simp only [Act.put, List.getElem_toArray, List.getElem_cons_succ, List.getElem_cons_zero, List.setIfInBounds_toArray, List.set_cons_zero, List.set_cons_succ])
                refine wpAnyH_take (i := 13) (v := undef) rfl (by kernel_rfl) (by kernel_rfl) (by kernel_rfl) (fun _ _ _ h => h) (Or.inr ⟨by rfl, rfl⟩) (by assumption) ?_
                (try simp only [Act.put, List.getElem_toArray, List.getElem_cons_succ, List.getElem_cons_zero, List.setIfInBounds_toArray, List.set_cons_zero, List.set_cons_succ])
                refine wpAnyH_take (i := 14) (v := undef) rfl (by kernel_rfl) (by kernel_rfl) (by kernel_rfl) (fun _ _ _ h => h) (Or.inr ⟨by rfl, rfl⟩) (by assumption) ?_
                (try simp only [Act.put, List.getElem_toArray, List.getElem_cons_succ, List.getElem_cons_zero, List.setIfInBounds_toArray, List.set_cons_zero, List.set_cons_succ])
                refine wpAnyH_take (i := 15) (v := undef) rfl (by kernel_rfl) (by kernel_rfl) (by kernel_rfl) (fun _ _ _ h => h) (Or.inr ⟨by rfl, rfl⟩) (by assumption) ?_
                (try simp only [Act.put, List.getElem_toArray, List.getElem_cons_succ, List.getElem_cons_zero, List.setIfInBounds_toArray, List.set_cons_zero, List.set_cons_succ])
                refine wpAnyH_take (i := 16) (v := undef) rfl (by kernel_rfl) (by kernel_rfl) (by kernel_rfl) (fun _ _ _ h => h) (Or.inr ⟨by rfl, rfl⟩) (by assumption) ?_
                (try simp only [Act.put, List.getElem_toArray, List.getElem_cons_succ, List.getElem_cons_zero, List.setIfInBounds_toArray, List.set_cons_zero, List.set_cons_succ])
                refine wpAnyH_take (i := 17) (v := undef) rfl (by kernel_rfl) (by kernel_rfl) (by kernel_rfl) (fun _ _ _ h => h) (Or.inr ⟨by rfl, rfl⟩) (by assumption) ?_
                (try simp only [Act.put, List.getElem_toArray, List.getElem_cons_succ, List.getElem_cons_zero, List.setIfInBounds_toArray, List.set_cons_zero, List.set_cons_succ])
                refine wpAnyH_take (i := 18) (v := undef) rfl (by kernel_rfl) (by kernel_rfl) (by kernel_rfl) (fun _ _ _ h => h) (Or.inr ⟨by rfl, rfl⟩) (by assumption) ?_
                (try simp only [Act.put, List.getElem_toArray, List.getElem_cons_succ, List.getElem_cons_zero, List.setIfInBounds_toArray, List.set_cons_zero, List.set_cons_succ])
                refine wpAnyH_take (i := 19) (v := undef) rfl (by kernel_rfl) (by kernel_rfl) (by kernel_rfl) (fun _ _ _ h => h) (Or.inr ⟨by rfl, rfl⟩) (by assumption) ?_
                (try simp only [Act.put, List.getElem_toArray, List.getElem_cons_succ, List.getElem_cons_zero, List.setIfInBounds_toArray, List.set_cons_zero, List.set_cons_succ])
                refine wpAnyH_take (i := 20) (v := undef) rfl (by kernel_rfl) (by kernel_rfl) (by kernel_rfl) (fun _ _ _ h => h) (Or.inr ⟨by rfl, rfl⟩) (by assumption) ?_
                (try simp only [Act.put, List.getElem_toArray, List.getElem_cons_succ, List.getElem_cons_zero, List.setIfInBounds_toArray, List.set_cons_zero, List.set_cons_succ])
                refine wpAnyH_take (i := 21) (v := undef) rfl (by kernel_rfl) (by kernel_rfl) (by kernel_rfl) (fun _ _ _ h => h) (Or.inr ⟨by rfl, rfl⟩) (by assumption) ?_
                (try simp only [Act.put, List.getElem_toArray, List.getElem_cons_succ, List.getElem_cons_zero, List.setIfInBounds_toArray, List.set_cons_zero, List.set_cons_succ])
                refine wpAnyH_take (i := 22) (v := ?_) rfl (by kernel_rfl) (by kernel_rfl) (by kernel_rfl) (fun _ _ _ h => h) (Or.inl ⟨by rfl, fun wX hSw => ?_⟩) (by assumption) ?_
                rotate_left
                · (try dsimp only at hSw); go_simp; try with_reducible rfl
                (try simp only [Act.put, List.getElem_toArray, List.getElem_cons_succ, List.getElem_cons_zero, List.setIfInBounds_toArray, List.set_cons_zero, List.set_cons_succ])
                refine wpAnyH_take (i := 23) (v := ?_) rfl (by kernel_rfl) (by kernel_rfl) (by kernel_rfl) (fun _ _ _ h => h) (Or.inl ⟨by rfl, fun wX hSw => ?_⟩) (by assumption) ?_
                rotate_left
                · (try dsimp only at hSw); go_simp; try with_reducible rfl
                (try simp only [Act.put, List.getElem_toArray, List.getElem_cons_succ, List.getElem_cons_zero, List.setIfInBounds_toArray, List.set_cons_zero, List.set_cons_succ])
                refine wpAnyH_done (by kernel_rfl) ?_ _
                go_wp2_with fail
                go_meet
                case rel => exact ⟨(by rw [hpi]), HO, HB⟩
            · cases hfu : fr uN
              · rw [hft] at cT hpi
                rw [hfu] at cU hpi
                rw [Bool.and_false] at hpi
                clear hft hfu
                as_aux_lemma =>
                  refine wp_region_held_drew (S := (fun X => (∀ b o, b < (w.heap.size + 1) → X.cell? ⟨b, o, none⟩ = ((w.alloc (.cells #[.int .i64 f, .int .i64 al, .int .i64 ac, .int .i64 (n : Nat)] 62))).cell? ⟨b, o, none⟩) ∧ Below (w.heap.size + 1) (w.alloc (.cells #[.int .i64 f, .int .i64 al, .int .i64 ac, .int .i64 (n : Nat)] 62)) X)) (by kernel_rfl) ?_ (fun hHeld => ?_)
                  · exact kw_S (kw_drew HB.out)
                  refine wpAnyH_take (i := 0) (v := ?_) rfl (by kernel_rfl) (by kernel_rfl) (by kernel_rfl) (fun _ _ _ h => h) (Or.inl ⟨by rfl, fun wX hSw => ?_⟩) (by assumption) ?_
                  rotate_left
                  · (try dsimp only at hSw); go_simp; try with_reducible rfl
                  (try simp only [Act.put, List.getElem_toArray, List.getElem_cons_succ, List.getElem_cons_zero, List.setIfInBounds_toArray, List.set_cons_zero, List.set_cons_succ])
                  refine wpAnyH_take (i := 1) (v := ?_) rfl (by kernel_rfl) (by kernel_rfl) (by kernel_rfl) (fun _ _ _ h => h) (Or.inl ⟨by rfl, fun wX hSw => ?_⟩) (by assumption) ?_
                  rotate_left
                  · (try dsimp only at hSw); go_simp; try with_reducible rfl
                  (try simp only [Act.put, List.getElem_toArray, List.getElem_cons_succ, List.getElem_cons_zero, List.setIfInBounds_toArray, List.set_cons_zero, List.set_cons_succ])
                  refine wpAnyH_take (i := 2) (v := ?_) rfl (by kernel_rfl) (by kernel_rfl) (by kernel_rfl) (fun _ _ _ h => h) (Or.inl ⟨by rfl, fun wX hSw => ?_⟩) (by assumption) ?_
                  rotate_left
                  · (try dsimp only at hSw); go_simp; try with_reducible rfl
                  (try simp only [Act.put, List.getElem_toArray, List.getElem_cons_succ, List.getElem_cons_zero, List.setIfInBounds_toArray, List.set_cons_zero, List.set_cons_succ])
                  refine wpAnyH_take (i := 3) (v := ?_) rfl (by kernel_rfl) (by kernel_rfl) (by kernel_rfl) (fun _ _ _ h => h) (Or.inl ⟨by rfl, fun wX hSw => ?_⟩) (by assumption) ?_
                  rotate_left
                  · (try dsimp only at hSw); go_simp; try with_reducible rfl
                  (try simp only [Act.put, List.getElem_toArray, List.getElem_cons_succ, List.getElem_cons_zero, List.setIfInBounds_toArray, List.set_cons_zero, List.set_cons_succ])
                  refine wpAnyH_take (i := 4) (v := ?_) rfl (by kernel_rfl) (by kernel_rfl) (by kernel_rfl) (fun _ _ _ h => h) (Or.inl ⟨by rfl, fun wX hSw => ?_⟩) (by assumption) ?_
                  rotate_left
                  · (try dsimp only at hSw); go_simp; try with_reducible rfl
                  (try simp only [Act.put, List.getElem_toArray, List.getElem_cons_succ, List.getElem_cons_zero, List.setIfInBounds_toArray, List.set_cons_zero, List.set_cons_succ])
                  refine wpAnyH_take (i := 5) (v := ?_) rfl (by kernel_rfl) (by kernel_rfl) (by kernel_rfl) (fun _ _ _ h => h) (Or.inl ⟨by rfl, fun wX hSw => ?_⟩) (by assumption) ?_
                  rotate_left
                  · (try dsimp only at hSw); go_simp; try with_reducible rfl
                  (try simp only [Act.put, List.getElem_toArray, List.getElem_cons_succ, List.getElem_cons_zero, List.setIfInBounds_toArray, List.set_cons_zero, List.set_cons_succ])
                  refine wpAnyH_take (i := 6) (v := ?_) rfl (by kernel_rfl) (by kernel_rfl) (by kernel_rfl) (fun _ _ _ h => h) (Or.inl ⟨by rfl, fun wX hSw => ?_⟩) (by assumption) ?_
                  rotate_left
                  · (try dsimp only at hSw); go_simp; try with_reducible rfl
                  (try simp only [Act.put, List.getElem_toArray, List.getElem_cons_succ, List.getElem_cons_zero, List.setIfInBounds_toArray, List.set_cons_zero, List.set_cons_succ])
                  refine wpAnyH_take (i := 7) (v := ?_) rfl (by kernel_rfl) (by kernel_rfl) (by kernel_rfl) (fun _ _ _ h => h) (Or.inl ⟨by rfl, fun wX hSw => ?_⟩) (by assumption) ?_
                  rotate_left
                  · (try dsimp only at hSw); go_simp; try with_reducible rfl
                  (try simp only [Act.put, List.getElem_toArray, List.getElem_cons_succ, List.getElem_cons_zero, List.setIfInBounds_toArray, List.set_cons_zero, List.set_cons_succ])
                  refine wpAnyH_ready (rs := [8]) (by kernel_rfl) (by simp) ?_
                  refine AllReadyH.cons rfl (fun K hK => ?_) (AllReadyH.nil)
                  go_simp
                  ((go_at_call 46; (with_reducible refine (tile11_as f al ac (n : Nat) (i : Nat) (tN : Int) _ HTI hTb).mono ?_); rintro e z ⟨rfl, hb⟩; have HO2 : Hk (World.ownsRow z (w.heap.size + 1) 41 3 (.slice sa L.length sc) (L).length (fl3 (L))) := ⟨by first | exact ownp_later HO.out hb | exact ownp_later (ownp_drew HO.out) hb⟩; have hB2 : Hk (Below (w.heap.size + 1) (w.alloc (.cells #[.int .i64 f, .int .i64 al, .int .i64 ac, .int .i64 (n : Nat)] 62)) z) := ⟨by first | exact kw_step HB.out hNW hb | exact kw_step HB.out.drew hNW hb⟩; clear hb; replace HO := HO2; replace HB := hB2; clear hB2 HO2; clear hc hf hl hn' hm; obtain ⟨hc, hf, hl, hn', hm⟩ := kw_rules HB.out hNW))
                  refine hK.out _ _ ?_ (fun hHeld => ?_)
                  · exact kw_S HB.out
                  clear hK K
                  (try simp only [Act.put, List.getElem_toArray, List.getElem_cons_succ, List.getElem_cons_zero, List.setIfInBounds_toArray, List.set_cons_zero, List.set_cons_succ])
                  refine wpAnyH_take (i := 9) (v := ?_) rfl (by kernel_rfl) (by kernel_rfl) (by kernel_rfl) (fun _ _ _ h => h) (Or.inl ⟨by rfl, fun wX hSw => ?_⟩) (by assumption) ?_
                  rotate_left
                  · (try dsimp only at hSw); go_simp; try with_reducible rfl
                  (try simp only [Act.put, List.getElem_toArray, List.getElem_cons_succ, List.getElem_cons_zero, List.setIfInBounds_toArray, List.set_cons_zero, List.set_cons_succ])
                  refine wpAnyH_take (i := 10) (v := ?_) rfl (by kernel_rfl) (by kernel_rfl) (by kernel_rfl) (fun _ _ _ h => h) (Or.inl ⟨by rfl, fun wX hSw => ?_⟩) (by assumption) ?_
                  rotate_left
                  · (try dsimp only at hSw); go_simp; try with_reducible rfl
                  (try simp only [Act.put, List.getElem_toArray, List.getElem_cons_succ, List.getElem_cons_zero, List.setIfInBounds_toArray, List.set_cons_zero, List.set_cons_succ])
                  refine wpAnyH_take (i := 11) (v := ?_) rfl (by kernel_rfl) (by kernel_rfl) (by kernel_rfl) (fun _ _ _ h => h) (Or.inl ⟨by rfl, fun wX hSw => ?_⟩) (by assumption) ?_
                  rotate_left
                  · (try dsimp only at hSw); go_simp; try with_reducible rfl
                  (try simp only [Act.put, List.getElem_toArray, List.getElem_cons_succ, List.getElem_cons_zero, List.setIfInBounds_toArray, List.set_cons_zero, List.set_cons_succ])
                  refine wpAnyH_take (i := 12) (v := ?_) rfl (by kernel_rfl) (by kernel_rfl) (by kernel_rfl) (fun _ _ _ h => h) (Or.inl ⟨by rfl, fun wX hSw => ?_⟩) (by assumption) ?_
                  rotate_left
                  · (try dsimp only at hSw); go_simp; try with_reducible rfl
                  (try simp only [Act.put, List.getElem_toArray, List.getElem_cons_succ, List.getElem_cons_zero, List.setIfInBounds_toArray, List.set_cons_zero, List.set_cons_succ])
                  refine wpAnyH_take (i := 13) (v := ?_) rfl (by kernel_rfl) (by kernel_rfl) (by kernel_rfl) (fun _ _ _ h => h) (Or.inl ⟨by rfl, fun wX hSw => ?_⟩) (by assumption) ?_
                  rotate_left
                  · (try dsimp only at hSw); go_simp; try with_reducible rfl
                  (try simp only [Act.put, List.getElem_toArray, List.getElem_cons_succ, List.getElem_cons_zero, List.setIfInBounds_toArray, List.set_cons_zero, List.set_cons_succ])
                  refine wpAnyH_take (i := 14) (v := ?_) rfl (by kernel_rfl) (by kernel_rfl) (by kernel_rfl) (fun _ _ _ h => h) (Or.inl ⟨by rfl, fun wX hSw => ?_⟩) (by assumption) ?_
                  rotate_left
                  · (try dsimp only at hSw); go_simp; try with_reducible rfl
                  (try simp only [Act.put, List.getElem_toArray, List.getElem_cons_succ, List.getElem_cons_zero, List.setIfInBounds_toArray, List.set_cons_zero, List.set_cons_succ])
                  refine wpAnyH_take (i := 15) (v := ?_) rfl (by kernel_rfl) (by kernel_rfl) (by kernel_rfl) (fun _ _ _ h => h) (Or.inl ⟨by rfl, fun wX hSw => ?_⟩) (by assumption) ?_
                  rotate_left
                  · (try dsimp only at hSw); go_simp; try with_reducible rfl
                  (try simp only [Act.put, List.getElem_toArray, List.getElem_cons_succ, List.getElem_cons_zero, List.setIfInBounds_toArray, List.set_cons_zero, List.set_cons_succ])
                  refine wpAnyH_take (i := 17) (v := ?_) rfl (by kernel_rfl) (by kernel_rfl) (by kernel_rfl) (fun _ _ _ h => h) (Or.inl ⟨by rfl, fun wX hSw => ?_⟩) (by assumption) ?_
                  rotate_left
                  · (try dsimp only at hSw); go_simp; try with_reducible rfl
                  (try simp only [Act.put, List.getElem_toArray, List.getElem_cons_succ, List.getElem_cons_zero, List.setIfInBounds_toArray, List.set_cons_zero, List.set_cons_succ])
                  refine wpAnyH_take (i := 18) (v := ?_) rfl (by kernel_rfl) (by kernel_rfl) (by kernel_rfl) (fun _ _ _ h => h) (Or.inl ⟨by rfl, fun wX hSw => ?_⟩) (by assumption) ?_
                  rotate_left
                  · (try dsimp only at hSw); go_simp; try with_reducible rfl
                  (try simp only [Act.put, List.getElem_toArray, List.getElem_cons_succ, List.getElem_cons_zero, List.setIfInBounds_toArray, List.set_cons_zero, List.set_cons_succ])
                  refine wpAnyH_ready (rs := [16]) (by kernel_rfl) (by simp) ?_
                  refine AllReadyH.cons rfl (fun K hK => ?_) (AllReadyH.nil)
                  go_simp
                  ((go_at_call 46; (with_reducible refine (tile11_as f al ac (n : Nat) (i : Nat) (tN : Int) _ HTI hTb).mono ?_); rintro e z ⟨rfl, hb⟩; have HO2 : Hk (World.ownsRow z (w.heap.size + 1) 41 3 (.slice sa L.length sc) (L).length (fl3 (L))) := ⟨by first | exact ownp_later HO.out hb | exact ownp_later (ownp_drew HO.out) hb⟩; have hB2 : Hk (Below (w.heap.size + 1) (w.alloc (.cells #[.int .i64 f, .int .i64 al, .int .i64 ac, .int .i64 (n : Nat)] 62)) z) := ⟨by first | exact kw_step HB.out hNW hb | exact kw_step HB.out.drew hNW hb⟩; clear hb; replace HO := HO2; replace HB := hB2; clear hB2 HO2; clear hc hf hl hn' hm; obtain ⟨hc, hf, hl, hn', hm⟩ := kw_rules HB.out hNW))
                  refine hK.out _ _ ?_ (fun hHeld => ?_)
                  · exact kw_S HB.out
                  clear hK K
                  (try simp only [Act.put, List.getElem_toArray, List.getElem_cons_succ, List.getElem_cons_zero, List.setIfInBounds_toArray, List.set_cons_zero, List.set_cons_succ])
                  refine wpAnyH_take (i := 19) (v := ?_) rfl (by kernel_rfl) (by kernel_rfl) (by kernel_rfl) (fun _ _ _ h => h) (Or.inl ⟨by rfl, fun wX hSw => ?_⟩) (by assumption) ?_
                  rotate_left
                  · (try dsimp only at hSw); go_simp; try with_reducible rfl
                  (try simp only [Act.put, List.getElem_toArray, List.getElem_cons_succ, List.getElem_cons_zero, List.setIfInBounds_toArray, List.set_cons_zero, List.set_cons_succ])
                  refine wpAnyH_take (i := 20) (v := ?_) rfl (by kernel_rfl) (by kernel_rfl) (by kernel_rfl) (fun _ _ _ h => h) (Or.inl ⟨by rfl, fun wX hSw => ?_⟩) (by assumption) ?_
                  rotate_left
                  · (try dsimp only at hSw); go_simp; try with_reducible rfl
                  (try simp only [Act.put, List.getElem_toArray, List.getElem_cons_succ, List.getElem_cons_zero, List.setIfInBounds_toArray, List.set_cons_zero, List.set_cons_succ])
                  refine wpAnyH_take (i := 21) (v := ?_) rfl (by kernel_rfl) (by kernel_rfl) (by kernel_rfl) (fun _ _ _ h => h) (Or.inl ⟨by rfl, fun wX hSw => ?_⟩) (by assumption) ?_
                  rotate_left
                  · (try dsimp only at hSw); go_simp; try with_reducible rfl
                  (try simp only [Act.put, List.getElem_toArray, List.getElem_cons_succ, List.getElem_cons_zero, List.setIfInBounds_toArray, List.set_cons_zero, List.set_cons_succ])
                  refine wpAnyH_take (i := 22) (v := ?_) rfl (by kernel_rfl) (by kernel_rfl) (by kernel_rfl) (fun _ _ _ h => h) (Or.inl ⟨by rfl, fun wX hSw => ?_⟩) (by assumption) ?_
                  rotate_left
                  · (try dsimp only at hSw); go_simp; try with_reducible rfl
                  (try simp only [Act.put, List.getElem_toArray, List.getElem_cons_succ, List.getElem_cons_zero, List.setIfInBounds_toArray, List.set_cons_zero, List.set_cons_succ])
                  refine wpAnyH_take (i := 23) (v := ?_) rfl (by kernel_rfl) (by kernel_rfl) (by kernel_rfl) (fun _ _ _ h => h) (Or.inl ⟨by rfl, fun wX hSw => ?_⟩) (by assumption) ?_
                  rotate_left
                  · (try dsimp only at hSw); go_simp; try with_reducible rfl
                  (try simp only [Act.put, List.getElem_toArray, List.getElem_cons_succ, List.getElem_cons_zero, List.setIfInBounds_toArray, List.set_cons_zero, List.set_cons_succ])
                  refine wpAnyH_done (by kernel_rfl) ?_ _
                  go_wp2_with fail
                  go_meet
                  case rel => exact ⟨(by rw [hpi]), HO, HB⟩
              · rw [hft] at cT hpi
                rw [hfu] at cU hpi
                rw [Bool.and_true] at hpi
                clear hft hfu
                as_aux_lemma =>
                  refine wp_region_held_drew (S := (fun X => (∀ b o, b < (w.heap.size + 1) → X.cell? ⟨b, o, none⟩ = ((w.alloc (.cells #[.int .i64 f, .int .i64 al, .int .i64 ac, .int .i64 (n : Nat)] 62))).cell? ⟨b, o, none⟩) ∧ Below (w.heap.size + 1) (w.alloc (.cells #[.int .i64 f, .int .i64 al, .int .i64 ac, .int .i64 (n : Nat)] 62)) X)) (by kernel_rfl) ?_ (fun hHeld => ?_)
                  · exact kw_S (kw_drew HB.out)
                  refine wpAnyH_take (i := 0) (v := ?_) rfl (by kernel_rfl) (by kernel_rfl) (by kernel_rfl) (fun _ _ _ h => h) (Or.inl ⟨by rfl, fun wX hSw => ?_⟩) (by assumption) ?_
                  rotate_left
                  · (try dsimp only at hSw); go_simp; try with_reducible rfl
                  (try simp only [Act.put, List.getElem_toArray, List.getElem_cons_succ, List.getElem_cons_zero, List.setIfInBounds_toArray, List.set_cons_zero, List.set_cons_succ])
                  refine wpAnyH_take (i := 1) (v := ?_) rfl (by kernel_rfl) (by kernel_rfl) (by kernel_rfl) (fun _ _ _ h => h) (Or.inl ⟨by rfl, fun wX hSw => ?_⟩) (by assumption) ?_
                  rotate_left
                  · (try dsimp only at hSw); go_simp; try with_reducible rfl
                  (try simp only [Act.put, List.getElem_toArray, List.getElem_cons_succ, List.getElem_cons_zero, List.setIfInBounds_toArray, List.set_cons_zero, List.set_cons_succ])
                  refine wpAnyH_take (i := 2) (v := ?_) rfl (by kernel_rfl) (by kernel_rfl) (by kernel_rfl) (fun _ _ _ h => h) (Or.inl ⟨by rfl, fun wX hSw => ?_⟩) (by assumption) ?_
                  rotate_left
                  · (try dsimp only at hSw); go_simp; try with_reducible rfl
                  (try simp only [Act.put, List.getElem_toArray, List.getElem_cons_succ, List.getElem_cons_zero, List.setIfInBounds_toArray, List.set_cons_zero, List.set_cons_succ])
                  refine wpAnyH_take (i := 3) (v := ?_) rfl (by kernel_rfl) (by kernel_rfl) (by kernel_rfl) (fun _ _ _ h => h) (Or.inl ⟨by rfl, fun wX hSw => ?_⟩) (by assumption) ?_
                  rotate_left
                  · (try dsimp only at hSw); go_simp; try with_reducible rfl
                  (try simp only [Act.put, List.getElem_toArray, List.getElem_cons_succ, List.getElem_cons_zero, List.setIfInBounds_toArray, List.set_cons_zero, List.set_cons_succ])
                  refine wpAnyH_take (i := 4) (v := ?_) rfl (by kernel_rfl) (by kernel_rfl) (by kernel_rfl) (fun _ _ _ h => h) (Or.inl ⟨by rfl, fun wX hSw => ?_⟩) (by assumption) ?_
                  rotate_left
                  · (try dsimp only at hSw); go_simp; try with_reducible rfl
                  (try simp only [Act.put, List.getElem_toArray, List.getElem_cons_succ, List.getElem_cons_zero, List.setIfInBounds_toArray, List.set_cons_zero, List.set_cons_succ])
                  refine wpAnyH_take (i := 5) (v := ?_) rfl (by kernel_rfl) (by kernel_rfl) (by kernel_rfl) (fun _ _ _ h => h) (Or.inl ⟨by rfl, fun wX hSw => ?_⟩) (by assumption) ?_
                  rotate_left
                  · (try dsimp only at hSw); go_simp; try with_reducible rfl
                  (try simp only [Act.put, List.getElem_toArray, List.getElem_cons_succ, List.getElem_cons_zero, List.setIfInBounds_toArray, List.set_cons_zero, List.set_cons_succ])
                  refine wpAnyH_take (i := 6) (v := ?_) rfl (by kernel_rfl) (by kernel_rfl) (by kernel_rfl) (fun _ _ _ h => h) (Or.inl ⟨by rfl, fun wX hSw => ?_⟩) (by assumption) ?_
                  rotate_left
                  · (try dsimp only at hSw); go_simp; try with_reducible rfl
                  (try simp only [Act.put, List.getElem_toArray, List.getElem_cons_succ, List.getElem_cons_zero, List.setIfInBounds_toArray, List.set_cons_zero, List.set_cons_succ])
                  refine wpAnyH_take (i := 7) (v := ?_) rfl (by kernel_rfl) (by kernel_rfl) (by kernel_rfl) (fun _ _ _ h => h) (Or.inl ⟨by rfl, fun wX hSw => ?_⟩) (by assumption) ?_
                  rotate_left
                  · (try dsimp only at hSw); go_simp; try with_reducible rfl
                  (try simp only [Act.put, List.getElem_toArray, List.getElem_cons_succ, List.getElem_cons_zero, List.setIfInBounds_toArray, List.set_cons_zero, List.set_cons_succ])
                  refine wpAnyH_ready (rs := [8]) (by kernel_rfl) (by simp) ?_
                  refine AllReadyH.cons rfl (fun K hK => ?_) (AllReadyH.nil)
                  go_simp
                  ((go_at_call 46; (with_reducible refine (tile11_as f al ac (n : Nat) (i : Nat) (tN : Int) _ HTI hTb).mono ?_); rintro e z ⟨rfl, hb⟩; have HO2 : Hk (World.ownsRow z (w.heap.size + 1) 41 3 (.slice sa L.length sc) (L).length (fl3 (L))) := ⟨by first | exact ownp_later HO.out hb | exact ownp_later (ownp_drew HO.out) hb⟩; have hB2 : Hk (Below (w.heap.size + 1) (w.alloc (.cells #[.int .i64 f, .int .i64 al, .int .i64 ac, .int .i64 (n : Nat)] 62)) z) := ⟨by first | exact kw_step HB.out hNW hb | exact kw_step HB.out.drew hNW hb⟩; clear hb; replace HO := HO2; replace HB := hB2; clear hB2 HO2; clear hc hf hl hn' hm; obtain ⟨hc, hf, hl, hn', hm⟩ := kw_rules HB.out hNW))
                  refine hK.out _ _ ?_ (fun hHeld => ?_)
                  · exact kw_S HB.out
                  clear hK K
                  (try simp only [Act.put, List.getElem_toArray, List.getElem_cons_succ, List.getElem_cons_zero, List.setIfInBounds_toArray, List.set_cons_zero, List.set_cons_succ])
                  refine wpAnyH_take (i := 9) (v := ?_) rfl (by kernel_rfl) (by kernel_rfl) (by kernel_rfl) (fun _ _ _ h => h) (Or.inl ⟨by rfl, fun wX hSw => ?_⟩) (by assumption) ?_
                  rotate_left
                  · (try dsimp only at hSw); go_simp; try with_reducible rfl
                  (try simp only [Act.put, List.getElem_toArray, List.getElem_cons_succ, List.getElem_cons_zero, List.setIfInBounds_toArray, List.set_cons_zero, List.set_cons_succ])
                  refine wpAnyH_take (i := 10) (v := ?_) rfl (by kernel_rfl) (by kernel_rfl) (by kernel_rfl) (fun _ _ _ h => h) (Or.inl ⟨by rfl, fun wX hSw => ?_⟩) (by assumption) ?_
                  rotate_left
                  · (try dsimp only at hSw); go_simp; try with_reducible rfl
                  (try simp only [Act.put, List.getElem_toArray, List.getElem_cons_succ, List.getElem_cons_zero, List.setIfInBounds_toArray, List.set_cons_zero, List.set_cons_succ])
                  refine wpAnyH_take (i := 11) (v := ?_) rfl (by kernel_rfl) (by kernel_rfl) (by kernel_rfl) (fun _ _ _ h => h) (Or.inl ⟨by rfl, fun wX hSw => ?_⟩) (by assumption) ?_
                  rotate_left
                  · (try dsimp only at hSw); go_simp; try with_reducible rfl
                  (try simp only [Act.put, List.getElem_toArray, List.getElem_cons_succ, List.getElem_cons_zero, List.setIfInBounds_toArray, List.set_cons_zero, List.set_cons_succ])
                  refine wpAnyH_take (i := 12) (v := ?_) rfl (by kernel_rfl) (by kernel_rfl) (by kernel_rfl) (fun _ _ _ h => h) (Or.inl ⟨by rfl, fun wX hSw => ?_⟩) (by assumption) ?_
                  rotate_left
                  · (try dsimp only at hSw); go_simp; try with_reducible rfl
                  (try simp only [Act.put, List.getElem_toArray, List.getElem_cons_succ, List.getElem_cons_zero, List.setIfInBounds_toArray, List.set_cons_zero, List.set_cons_succ])
                  refine wpAnyH_take (i := 13) (v := ?_) rfl (by kernel_rfl) (by kernel_rfl) (by kernel_rfl) (fun _ _ _ h => h) (Or.inl ⟨by rfl, fun wX hSw => ?_⟩) (by assumption) ?_
                  rotate_left
                  · (try dsimp only at hSw); go_simp; try with_reducible rfl
                  (try simp only [Act.put, List.getElem_toArray, List.getElem_cons_succ, List.getElem_cons_zero, List.setIfInBounds_toArray, List.set_cons_zero, List.set_cons_succ])
                  refine wpAnyH_take (i := 14) (v := ?_) rfl (by kernel_rfl) (by kernel_rfl) (by kernel_rfl) (fun _ _ _ h => h) (Or.inl ⟨by rfl, fun wX hSw => ?_⟩) (by assumption) ?_
                  rotate_left
                  · (try dsimp only at hSw); go_simp; try with_reducible rfl
                  (try simp only [Act.put, List.getElem_toArray, List.getElem_cons_succ, List.getElem_cons_zero, List.setIfInBounds_toArray, List.set_cons_zero, List.set_cons_succ])
                  refine wpAnyH_take (i := 15) (v := ?_) rfl (by kernel_rfl) (by kernel_rfl) (by kernel_rfl) (fun _ _ _ h => h) (Or.inl ⟨by rfl, fun wX hSw => ?_⟩) (by assumption) ?_
                  rotate_left
                  · (try dsimp only at hSw); go_simp; try with_reducible rfl
                  (try simp only [Act.put, List.getElem_toArray, List.getElem_cons_succ, List.getElem_cons_zero, List.setIfInBounds_toArray, List.set_cons_zero, List.set_cons_succ])
                  refine wpAnyH_take (i := 17) (v := ?_) rfl (by kernel_rfl) (by kernel_rfl) (by kernel_rfl) (fun _ _ _ h => h) (Or.inl ⟨by rfl, fun wX hSw => ?_⟩) (by assumption) ?_
                  rotate_left
                  · (try dsimp only at hSw); go_simp; try with_reducible rfl
                  (try simp only [Act.put, List.getElem_toArray, List.getElem_cons_succ, List.getElem_cons_zero, List.setIfInBounds_toArray, List.set_cons_zero, List.set_cons_succ])
                  refine wpAnyH_take (i := 18) (v := ?_) rfl (by kernel_rfl) (by kernel_rfl) (by kernel_rfl) (fun _ _ _ h => h) (Or.inl ⟨by rfl, fun wX hSw => ?_⟩) (by assumption) ?_
                  rotate_left
                  · (try dsimp only at hSw); go_simp; try with_reducible rfl
                  (try simp only [Act.put, List.getElem_toArray, List.getElem_cons_succ, List.getElem_cons_zero, List.setIfInBounds_toArray, List.set_cons_zero, List.set_cons_succ])
                  refine wpAnyH_ready (rs := [16]) (by kernel_rfl) (by simp) ?_
                  refine AllReadyH.cons rfl (fun K hK => ?_) (AllReadyH.nil)
                  go_simp
                  ((go_at_call 46; (with_reducible refine (tile11_as f al ac (n : Nat) (i : Nat) (tN : Int) _ HTI hTb).mono ?_); rintro e z ⟨rfl, hb⟩; have HO2 : Hk (World.ownsRow z (w.heap.size + 1) 41 3 (.slice sa L.length sc) (L).length (fl3 (L))) := ⟨by first | exact ownp_later HO.out hb | exact ownp_later (ownp_drew HO.out) hb⟩; have hB2 : Hk (Below (w.heap.size + 1) (w.alloc (.cells #[.int .i64 f, .int .i64 al, .int .i64 ac, .int .i64 (n : Nat)] 62)) z) := ⟨by first | exact kw_step HB.out hNW hb | exact kw_step HB.out.drew hNW hb⟩; clear hb; replace HO := HO2; replace HB := hB2; clear hB2 HO2; clear hc hf hl hn' hm; obtain ⟨hc, hf, hl, hn', hm⟩ := kw_rules HB.out hNW))
                  refine hK.out _ _ ?_ (fun hHeld => ?_)
                  · exact kw_S HB.out
                  clear hK K
                  (try simp only [Act.put, List.getElem_toArray, List.getElem_cons_succ, List.getElem_cons_zero, List.setIfInBounds_toArray, List.set_cons_zero, List.set_cons_succ])
                  refine wpAnyH_take (i := 19) (v := ?_) rfl (by kernel_rfl) (by kernel_rfl) (by kernel_rfl) (fun _ _ _ h => h) (Or.inl ⟨by rfl, fun wX hSw => ?_⟩) (by assumption) ?_
                  rotate_left
                  · (try dsimp only at hSw); go_simp; try with_reducible rfl
                  (try simp only [Act.put, List.getElem_toArray, List.getElem_cons_succ, List.getElem_cons_zero, List.setIfInBounds_toArray, List.set_cons_zero, List.set_cons_succ])
                  refine wpAnyH_take (i := 20) (v := ?_) rfl (by kernel_rfl) (by kernel_rfl) (by kernel_rfl) (fun _ _ _ h => h) (Or.inl ⟨by rfl, fun wX hSw => ?_⟩) (by assumption) ?_
                  rotate_left
                  · (try dsimp only at hSw); go_simp; try with_reducible rfl
                  (try simp only [Act.put, List.getElem_toArray, List.getElem_cons_succ, List.getElem_cons_zero, List.setIfInBounds_toArray, List.set_cons_zero, List.set_cons_succ])
                  refine wpAnyH_take (i := 21) (v := ?_) rfl (by kernel_rfl) (by kernel_rfl) (by kernel_rfl) (fun _ _ _ h => h) (Or.inl ⟨by rfl, fun wX hSw => ?_⟩) (by assumption) ?_
                  rotate_left
                  · (try dsimp only at hSw); go_simp; try with_reducible rfl
                  (try simp only [Act.put, List.getElem_toArray, List.getElem_cons_succ, List.getElem_cons_zero, List.setIfInBounds_toArray, List.set_cons_zero, List.set_cons_succ])
                  refine wpAnyH_take (i := 22) (v := ?_) rfl (by kernel_rfl) (by kernel_rfl) (by kernel_rfl) (fun _ _ _ h => h) (Or.inl ⟨by rfl, fun wX hSw => ?_⟩) (by assumption) ?_
                  rotate_left
                  · (try dsimp only at hSw); go_simp; try with_reducible rfl
                  (try simp only [Act.put, List.getElem_toArray, List.getElem_cons_succ, List.getElem_cons_zero, List.setIfInBounds_toArray, List.set_cons_zero, List.set_cons_succ])
                  refine wpAnyH_take (i := 23) (v := ?_) rfl (by kernel_rfl) (by kernel_rfl) (by kernel_rfl) (fun _ _ _ h => h) (Or.inl ⟨by rfl, fun wX hSw => ?_⟩) (by assumption) ?_
                  rotate_left
                  · (try dsimp only at hSw); go_simp; try with_reducible rfl
                  (try simp only [Act.put, List.getElem_toArray, List.getElem_cons_succ, List.getElem_cons_zero, List.setIfInBounds_toArray, List.set_cons_zero, List.set_cons_succ])
                  refine wpAnyH_done (by kernel_rfl) ?_ _
                  go_wp2_with fail
                  go_meet
                  case rel => exact ⟨(by rw [hpi]), HO, HB⟩
          · have d0 : decide ((i : Int) < (n : Int)) = false := by simp; omega
            have d0n : decide (i < n) = false := by simp; omega
            have hpi := HPN.out i (by omega)
            as_aux_lemma =>
              go_quiet (fail)
              replace HO : Hk (World.ownsRow (wr.drewN nq) (w.heap.size + 1) 41 3 (.slice sa L.length sc) (L).length (fl3 (L))) := ⟨HO.out⟩
              replace HB := Hk.mk (below_drewN HB.out nq)
              go_wp2_with fail
              go_meet
              case rel => exact ⟨(by rw [hpi]), HO, HB⟩
        case rest =>
        obtain ⟨rfl, HO, HB⟩ := hcut
        clear hc hf hl hn' hm
        obtain ⟨hc, hf, hl, hn', hm⟩ := kw_rules HB.out hNW
        obtain ⟨pi, hpi⟩ : ∃ b, pr i = b := ⟨_, rfl⟩
        obtain ⟨bC, hbC⟩ : ∃ b, rnC pr i wd = b := ⟨_, rfl⟩
        have hCC : decide (0 < wd ∧ (pi = false ∨ i % 8 = 0)) = bC := by rw [← hbC, ← hpi]; rfl
        have HPI := Hk.mk hpi
        have HBC := Hk.mk hbC
        have HCC := Hk.mk hCC
        rw [hpi]
        clear hpi hbC hCC
        have r8 : (i : Int).tmod 8 = (i : Int) % 8 := Int.tmod_eq_emod_of_nonneg i0
        go_upto_region 7 with fail
        go_cut [49] (fun x wx => x = .bool bC ∧ Hk (World.ownsRow wx (w.heap.size + 1) 41 3 (.slice sa L.length sc) (L).length (fl3 (L))) ∧ Hk (Below (w.heap.size + 1) (w.alloc (.cells #[.int .i64 f, .int .i64 al, .int .i64 ac, .int .i64 (n : Nat)] 62)) wx))
        case first =>
          by_cases q0 : 0 < wd
          · have d0 : decide ((0 : Int) < (wd : Int)) = true := by simp; omega
            have d0i : (0 : Int) < (wd : Int) := by omega
            cases pi
            · have hb1 : bC = true := by rw [← HCC.out]; exact decide_eq_true ⟨q0, Or.inl rfl⟩
              subst hb1
              as_aux_lemma =>
                go_wp2_with fail
                go_meet
                case rel => exact ⟨rfl, HO, HB⟩
            · by_cases q8 : i % 8 = 0
              · have hb1 : bC = true := by rw [← HCC.out]; exact decide_eq_true ⟨q0, Or.inr q8⟩
                have q8i : (i : Int) % 8 = 0 := by omega
                subst hb1
                as_aux_lemma =>
                  go_wp2_with fail
                  go_meet
                  case rel => exact ⟨(by first | rfl | simp [q8i]), HO, HB⟩
              · have hb1 : bC = false := by rw [← HCC.out]; exact decide_eq_false (fun h => by rcases h.2 with h | h; cases h; exact q8 h)
                have q8i : ¬ (i : Int) % 8 = 0 := by omega
                subst hb1
                as_aux_lemma =>
                  go_wp2_with fail
                  go_meet
                  case rel => exact ⟨(by first | rfl | simp [q8i]), HO, HB⟩
          · have hb1 : bC = false := by rw [← HCC.out]; exact decide_eq_false (fun h => q0 h.1)
            have d0 : decide ((0 : Int) < (wd : Int)) = false := by simp; omega
            have d0n : ¬ 0 < wd := q0
            subst hb1
            as_aux_lemma =>
              go_wp2_with fail
              go_meet
              case rel => exact ⟨rfl, HO, HB⟩
        case rest =>
        obtain ⟨rfl, HO, HB⟩ := hcut
        clear hc hf hl hn' hm
        obtain ⟨hc, hf, hl, hn', hm⟩ := kw_rules HB.out hNW
        obtain ⟨L2, hL2⟩ : ∃ L2, ((rnS pr (i + 1)).1.map (ptOf (fun k : Nat => f + (k : Int) * al) ac)) = L2 := ⟨_, rfl⟩
        have hLL : L2 = if bC = true then L ++ [ptOf (fun k : Nat => f + (k : Int) * al) ac (i - wd, wd)] else L := by
          rw [← hL2, ← HLE.out]
          show (if rnC pr i (rnS pr i).2 = true then _ else _ : List (Nat × Nat)).map _ = _
          rw [HWD.out, HBC.out]
          cases bC
          · rw [if_neg (by decide), if_neg (by decide)]
          · rw [if_pos rfl, if_pos rfl, List.map_append]; rfl
        have hWW : (rnS pr (i + 1)).2 = (if bC = true then 0 else wd) + (if pi = true then 1 else 0) := by
          show (if rnC pr i (rnS pr i).2 = true then 0 else (rnS pr i).2) + (if pr i = true then 1 else 0) = _
          rw [HWD.out, HBC.out, HPI.out]
        have HL2 := Hk.mk hL2
        have HLL := Hk.mk hLL
        have HWW := Hk.mk hWW
        have hri := HRI.out
        have hwi : wd ≤ i := hri.le
        have HCW : Hk (bC = true → 0 < wd ∧ i ≤ n) := ⟨fun h => by rw [← HCC.out] at h; have := of_decide_eq_true h; exact ⟨this.1, by omega⟩⟩
        clear hL2 hLL hWW hri HCC HBC HRI
        go_upto_if 49 with fail
        go_cut [5, 6] (fun l x wx => ∃ (sa : Option Addr) (sc : Nat), l = .slice sa L2.length sc ∧ x = .int .i64 ((if bC = true then 0 else wd : Nat) : Nat) ∧ Hk (World.ownsRow wx (w.heap.size + 1) 41 3 (.slice sa L2.length sc) (L2).length (fl3 (L2))) ∧ Hk (Below (w.heap.size + 1) (w.alloc (.cells #[.int .i64 f, .int .i64 al, .int .i64 ac, .int .i64 (n : Nat)] 62)) wx))
        case first =>
          cases bC
          · have hL : L2 = L := by rw [HLL.out, if_neg (by decide)]
            subst hL
            as_aux_lemma =>
              go_wp2_with fail
              go_meet
              case rel => exact ⟨sa, sc, rfl, rfl, HO, HB⟩
          · obtain ⟨hw0, hin⟩ := HCW.out rfl
            have hwb : wd ≤ 129 := by omega
            obtain ⟨iw, hiw⟩ : ∃ iw : Nat, iw = i - wd := ⟨_, rfl⟩
            obtain ⟨hh, hhh⟩ : ∃ hh : Nat, hh = (wd - 1) / 2 := ⟨_, rfl⟩
            obtain ⟨kN, hkN⟩ : ∃ kN : Nat, kN = iw + hh := ⟨_, rfl⟩
            have hkn : kN < n := by omega
            obtain ⟨TI, hTI⟩ : ∃ TI : Int, f + (kN : Int) * al = TI := ⟨_, rfl⟩
            have hL : L2 = L ++ [(TI, TI + ac, (wd : Int))] := by
              rw [HLL.out, if_pos rfl]
              unfold ptOf
              simp only
              rw [← hiw, ← hhh, ← hkN, hTI]
            have HL := Hk.mk hL
            obtain ⟨m0, m1⟩ := mul_le128 (Nat.le_of_lt hkn) hn a0 a1
            have hTi := HTT.out kN hkn
            have HTI := Hk.mk hTI
            have hTb : Hk (-1000000 ≤ (kN : Int) * al ∧ (kN : Int) * al ≤ 1000000 ∧ -1000000 ≤ TI ∧ TI ≤ 1000000) := ⟨by omega⟩
            have b1 : hh ≤ 1000000 ∧ iw ≤ 1000000 ∧ kN ≤ 1000000 ∧ iw + wd = i := by omega
            have b2 : -1000000 ≤ TI + ac ∧ TI + ac ≤ 1000000 := by omega
            have s3 : ((wd : Int) - 1).tdiv 2 = (hh : Int) := by rw [Int.tdiv_eq_ediv_of_nonneg (by omega)]; omega
            have s2 : IntKind.i64.wrap ((wd : Int) - 1) = (wd : Int) - 1 := wr_small (by omega) (by omega)
            have s1 : IntKind.i64.wrap ((i : Int) - (wd : Int)) = (iw : Int) := by rw [show (i : Int) - (wd : Int) = (iw : Int) by omega]; exact wr_nat b1.2.1
            have s4 : IntKind.i64.wrap ((iw : Int) + (hh : Int)) = (kN : Int) := by rw [show (iw : Int) + (hh : Int) = (kN : Int) by omega]; exact wr_nat b1.2.2.1
            have s5 : IntKind.i64.wrap (TI + ac) = TI + ac := wr_small b2.1 b2.2
            have s3v : IntKind.i64.wrap (hh : Int) = (hh : Int) := wr_nat b1.1
            have s3w : wrap64 (hh : Int) = (hh : Int) := w64_nat b1.1
            clear b1 b2 hiw hhh hkN hTI hL m0 m1 hTi HLL
            as_aux_lemma =>
              go_upto_region 9 with (go_at_call 46; (with_reducible refine (tile11_as f al ac (n : Nat) (kN : Nat) TI _ HTI hTb).mono ?_); rintro e z ⟨rfl, hb⟩; have HO2 : Hk (World.ownsRow z (w.heap.size + 1) 41 3 (.slice sa L.length sc) (L).length (fl3 (L))) := ⟨by first | exact ownp_later HO.out hb | exact ownp_later (ownp_drew HO.out) hb⟩; have hB2 : Hk (Below (w.heap.size + 1) (w.alloc (.cells #[.int .i64 f, .int .i64 al, .int .i64 ac, .int .i64 (n : Nat)] 62)) z) := ⟨by first | exact kw_step HB.out hNW hb | exact kw_step HB.out.drew hNW hb⟩; clear hb; replace HO := HO2; replace HB := hB2; clear hB2 HO2; clear hc hf hl hn' hm; obtain ⟨hc, hf, hl, hn', hm⟩ := kw_rules HB.out hNW)
              have hbase : w.heap.size + 1 ≤ (z.alloc (.cells #[.int .i64 TI, .int .i64 (TI + ac), .int .i64 (wd : Nat)] 41)).heap.size := by have := kw_size HB.out hNW; simp; omega
              go_wp2_with (at_builtin; go_must (refine wpList_append_own_at _ rfl _ _ 27 rfl (w.heap.size + 1) 41 ii (.agg #[.int .i64 0, .int .i64 0, .int .i64 0]) 3 24 Try.underlying27 hii hiz0 hiz1 hiz2 rfl (by decide) _ _ _ rfl (HO.out.alloc _) ⟨(z).heap.size, 0, none⟩ 1 1 (c3 (TI, TI + ac, (wd : Nat))) rfl rfl (three_at z (TI, TI + ac, (wd : Nat)) _) (c3_one _) (by unfold maxLen; omega) (by omega) hbase ?_); intro v8 z8 hown hgrow hnil hat; have HO8 := Hk.mk hown; have HB8 := Hk.mk ((HB.out.alloc (kw_size HB.out hNW) (.cells #[.int .i64 TI, .int .i64 (TI + ac), .int .i64 (wd : Nat)] 41)).grown hgrow (by have := kw_size HB.out hNW; simp; omega) (fun j hj => (HO.out.lt j hj).1)); clear hown hgrow hnil hat)
              go_meet
              case rel =>
                obtain ⟨sa2, sc2, rfl⟩ := own_formP HO8.out
                exact ⟨sa2, sc2, by rw [HL.out]; simp, rfl, ⟨by have := HO8.out; rw [HL.out, fl3_app]; simpa [fl3] using this⟩, HB8⟩
        case rest =>
        clear HO
        obtain ⟨sa, sc, rfl, rfl, HO, HB⟩ := hcut
        clear HCW HLL
        clear hc hf hl hn' hm
        obtain ⟨hc, hf, hl, hn', hm⟩ := kw_rules HB.out hNW
        go_upto_if 69 with fail
        obtain ⟨wq, hwq⟩ : ∃ wq : Nat, (if bC = true then 0 else wd : Nat) = wq := ⟨_, rfl⟩
        rw [hwq] at HWW ⊢
        have hwq2 : wq ≤ 129 := by rw [← hwq]; split <;> omega
        clear hwq
        cases pi
        · have hww : ((rnS pr (i + 1)).2 : Int) = (wq : Int) := by rw [HWW.out]; simp
          have HWE := Hk.mk hww
          clear hww
          as_aux_lemma =>
            go_wp2_with fail
            refine ⟨⟨i + 1, sa, sc, by rw [HL2.out], by go_num, by omega, by rw [HWE.out], by rw [HL2.out]; exact HO, HB⟩, by simp [intOf]; omega⟩
        · have hww : ((rnS pr (i + 1)).2 : Int) = (wq : Int) + 1 := by rw [HWW.out]; simp
          have HWE := Hk.mk hww
          clear hww
          have g3 : IntKind.i64.wrap ((wq : Int) + 1) = (wq : Int) + 1 := wr_in' (by omega)
          as_aux_lemma =>
            go_wp2_with fail
            refine ⟨⟨i + 1, sa, sc, by rw [HL2.out], by go_num, by omega, by rw [HWE.out], by rw [HL2.out]; exact HO, HB⟩, by simp [intOf]; omega⟩
    · obtain rfl : i = n + 1 := by omega
      as_aux_lemma =>
        go_wp2_with fail
        go_ret
        exact ⟨_, rfl, own_leP HO.out (Nat.le_succ _), HTR.out _ HB.out⟩
end Go.Proofs.Ytcgilmjhbdehpaa
