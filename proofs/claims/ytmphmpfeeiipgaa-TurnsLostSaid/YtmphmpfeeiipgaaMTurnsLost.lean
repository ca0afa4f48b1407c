import Derived.Deep.QuietTactic
import Derived.BigQuiet
import Derived.Deep.RegionWith
import Derived.Deep.RegionHeld3
import Derived.Deep.DeepCutAuto
import Derived.Deep.DeepFit
import Derived.Outline
import Derived.ProofKit
import Derived.OpenShut
import Derived.ChangeSame
import Derived.Test.YtmphmpfeeiipgaaZtah
/- For every argument, TurnsLost answers true and leaves its argument as it was: what was put in is taken out again, each once; a second one is refused. No condition. -/
namespace Go.Proofs.Ytmphmpfeeiipgaa
open Go.ChangeShapes Go.WideShapes Go.ChangeAt Go.RowKit Go.Deep
set_option linter.unusedVariables false
set_option linter.unusedSimpArgs false
theorem put_dup {x : In} {l : List In} (hs : sortedN l) (hx : x ∈ l) : putN x l = none := by
  cases e : putN x l with
  | none => rfl
  | some m =>
    obtain ⟨h1, h2⟩ := put_some hs e
    have hc : (x :: l).Pairwise cmpN := (h2.pairwise_iff (R := cmpN) (fun {a b} h => cmpN_symm h)).1 (h1.imp fun h => Or.inl h)
    rcases (List.pairwise_cons.1 hc).1 x hx with k | k <;> rw [ltB_irr] at k <;> cases k
theorem filt_two {α : Type} (p : α → Bool) : ∀ l : List α, (l.filter p).length + (l.filter fun x => !p x).length = l.length
  | [] => rfl
  | a :: l => by
    have := filt_two p l
    cases h : p a
    · rw [List.filter_cons_of_neg (by simp [h]), List.filter_cons_of_pos (by simp [h])]; simp; omega
    · rw [List.filter_cons_of_pos h, List.filter_cons_of_neg (by simp [h])]; simp; omega
/-- Inputs that may stand side by side. -/
def Tl (F : List In) : Prop := (∀ x, x ∈ F → okN x = true) ∧ sortedN F
theorem Tl.ord {F : List In} (h : Tl F) : ordN none F = true := ordN_of h.1 h.2 (fun a e => by cases e)
theorem tl_put {x : In} {F m : List In} (h : Tl F) (hx : okN x = true) (e : putN x F = some m) : Tl m ∧ x ∈ m := by
  obtain ⟨h1, h2⟩ := put_some h.2 e
  refine ⟨⟨fun y hy => ?_, h1⟩, h2.mem_iff.2 List.mem_cons_self⟩
  rcases List.mem_cons.1 (h2.mem_iff.1 hy) with k | k
  · rw [k]; exact hx
  · exact h.1 y k
theorem tl_filter {F : List In} (p : In → Bool) (h : Tl F) : Tl (F.filter p) := ⟨fun x hx => h.1 x (List.mem_filter.1 hx).1, h.2.sublist List.filter_sublist⟩
theorem ab_getI2 {M : List Iv} {F : List In} {j : Nat} (h : abI M = F) (hj : j < M.length) : (M.getD j default).ab ∈ F := by
  rw [← h]
  exact List.mem_map.2 ⟨_, getD_memI hj, rfl⟩
set_option maxRecDepth 1000000 in
set_option maxHeartbeats 6400000 in
theorem turnsLost_go (la : Option Addr) (ln lc : Nat) (l : List Iv) (ma : Option Addr) (mn mc : Nat) (m : List Iv) (ta : Option Addr) (tn tc : Nat) (ts : List Int) (w : World) (hl : ln ≤ 17592186044416 ∧ InD w w.heap.size la ln l ∧ BdI l) (hm : mn ≤ 17592186044416 ∧ InD w w.heap.size ma mn m ∧ BdI m) (ht : tn ≤ 17592186044416 ∧ Nq w w.heap.size ta tn ts) :
    Calls Try.prog 8 #[.agg #[.slice la ln lc, .slice ma mn mc, .slice ta tn tc]] w fun e w' => e = .returned (.bool true) ∧ Below w.heap.size w w' := by
  have HWB : Hk (Below w.heap.size w (w.alloc (.cells #[.slice la ln lc, .slice ma mn mc, .slice ta tn tc] 25))) := ⟨(Below.refl _ _).alloc (Nat.le_refl _) _⟩
  have hNW : (w.heap.size + 1) ≤ (w.alloc (.cells #[.slice la ln lc, .slice ma mn mc, .slice ta tn tc] 25)).heap.size := by simp
  have HB : Hk (Below (w.heap.size + 1) (w.alloc (.cells #[.slice la ln lc, .slice ma mn mc, .slice ta tn tc] 25)) (w.alloc (.cells #[.slice la ln lc, .slice ma mn mc, .slice ta tn tc] 25))) := ⟨Below.refl _ _⟩
  have HTR : Hk (∀ X, Below (w.heap.size + 1) (w.alloc (.cells #[.slice la ln lc, .slice ma mn mc, .slice ta tn tc] 25)) X → Below w.heap.size w X) := ⟨fun X hX => HWB.out.trans (hX.mono (by omega))⟩
  have P0 : Hk ((w.alloc (.cells #[.slice la ln lc, .slice ma mn mc, .slice ta tn tc] 25)).cell? ⟨w.heap.size, 0, none⟩ = some (.slice la ln lc)) := ⟨(Bk.new w #[.slice la ln lc, .slice ma mn mc, .slice ta tn tc] 25).c 0⟩
  have P1 : Hk ((w.alloc (.cells #[.slice la ln lc, .slice ma mn mc, .slice ta tn tc] 25)).cell? ⟨w.heap.size, 1, none⟩ = some (.slice ma mn mc)) := ⟨(Bk.new w #[.slice la ln lc, .slice ma mn mc, .slice ta tn tc] 25).c 1⟩
  have P2 : Hk ((w.alloc (.cells #[.slice la ln lc, .slice ma mn mc, .slice ta tn tc] 25)).cell? ⟨w.heap.size, 2, none⟩ = some (.slice ta tn tc)) := ⟨(Bk.new w #[.slice la ln lc, .slice ma mn mc, .slice ta tn tc] 25).c 2⟩
  have HHL : Hk (ln ≤ 17592186044416 ∧ InD (w.alloc (.cells #[.slice la ln lc, .slice ma mn mc, .slice ta tn tc] 25)) (w.alloc (.cells #[.slice la ln lc, .slice ma mn mc, .slice ta tn tc] 25)).heap.size la ln l ∧ BdI l) := ⟨hl.1, hl.2.1.later HWB.out, hl.2.2⟩
  have HHM : Hk (mn ≤ 17592186044416 ∧ InD (w.alloc (.cells #[.slice la ln lc, .slice ma mn mc, .slice ta tn tc] 25)) (w.alloc (.cells #[.slice la ln lc, .slice ma mn mc, .slice ta tn tc] 25)).heap.size ma mn m ∧ BdI m) := ⟨hm.1, hm.2.1.later HWB.out, hm.2.2⟩
  have HL := Hk.mk hl
  have HM := Hk.mk hm
  have HT := Hk.mk ht
  clear hl hm ht
  go_enter Try.func8, Try.ntmps8
  go_upto_if 16 with (go_at_call 10; (with_reducible refine (heavy27_any la ln lc l ma mn mc m ta tn tc _ HHL.out HHM.out).mono ?_); rintro e z ⟨hvy, rfl, hb, HV⟩; (first | (have hB2 := Hk.mk (kw_step HB.out hNW hb); clear hb; replace HB := hB2; clear hB2) | (have hB2 := Hk.mk (kw_step HB.out.drew hNW hb); clear hb; replace HB := hB2; clear hB2)))
  cases hvy
  · obtain ⟨-, hsm, -, -, hm8⟩ := HV.out rfl
    have HSM := Hk.mk hsm
    have HLN := Hk.mk HM.out.2.1.q.len
    have hmn : mn ≤ 800 := by rw [← HLN.out]; exact hm8
    have HMA := Hk.mk HM.out.2.1
    have HVF0 : Hk (∀ X, Below (w.heap.size + 1) (w.alloc (.cells #[.slice la ln lc, .slice ma mn mc, .slice ta tn tc] 25)) X → X.cell? ⟨w.heap.size, 1, none⟩ = some (.slice ma mn mc) ∧ w.heap.size < X.heap.size) := ⟨fun X hX => by
      have h0 := (hX.cell (p := ⟨w.heap.size, 1, none⟩) (Nat.lt_succ_self _)).trans P1.out
      exact ⟨h0, World.block_lt_of_cell? _ _ h0⟩⟩
    clear HV hsm hm8 HHL HHM HL HM HT P0 P1 P2
    go_wp2
    go_loopw [3, 4, 5] (fun lv cv i wr => ∃ (k n sc : Nat) (sa : Option Addr) (L : List Iv), lv = .slice sa n sc ∧ cv = .int .i64 n ∧ i = .int .i64 k ∧ k ≤ mn ∧ Hk (k ≤ 20) ∧ Hk (OwN wr (w.heap.size + 1) (.slice sa n sc) n L) ∧ Hk (Tl (abI L) ∧ ∀ x, x ∈ abI L → ∃ j, j < k ∧ x.t = (m.getD j default).t) ∧ Hk (SmI L ∧ n ≤ k) ∧ Hk (Below (w.heap.size + 1) (w.alloc (.cells #[.slice la ln lc, .slice ma mn mc, .slice ta tn tc] 25)) wr)) (fun _ _ i _ => mn - (intOf i).toNat)
    case atStart => exact ⟨0, 0, 0, none, [], rfl, rfl, rfl, Nat.zero_le _, ⟨by omega⟩, ⟨OwN.nil _ _⟩, ⟨⟨fun x hx => (by cases hx), List.Pairwise.nil⟩, fun x hx => (by cases hx)⟩, ⟨SmI.nil, Nat.le_refl _⟩, HB⟩
    case round =>
      clear HB
      obtain ⟨k, n, sc, sa, L, rfl, rfl, rfl, hk, HKL, HO, HTL, HSL, HB⟩ := hrel
      obtain ⟨x1, xl⟩ := HVF0.out _ HB.out
      go_upto_region 6 with fail
      obtain ⟨bb, hbb⟩ : ∃ b : Bool, decide (k < mn ∧ k < 20) = b := ⟨_, rfl⟩
      have HBB := Hk.mk hbb
      clear hbb
      go_cut [25] (fun x wx => x = .bool bb ∧ wr = wx)
      case first =>
        by_cases c1 : k < mn
        · have d1 : decide (k < mn) = true := by simpa using c1
          by_cases c2 : k < 20
          · have d2 : decide ((k : Int) < 20) = true := by rw [decide_eq_true_iff]; omega
            obtain rfl : bb = true := by rw [← HBB.out]; exact decide_eq_true ⟨c1, c2⟩
            clear c1 c2
            go_wp2_with fail
            go_meet
            case rel => exact ⟨rfl, rfl⟩
          · have d2 : decide ((k : Int) < 20) = false := by rw [decide_eq_false_iff_not]; omega
            obtain rfl : bb = false := by rw [← HBB.out]; exact decide_eq_false fun h => c2 h.2
            clear c1 c2
            go_wp2_with fail
            go_meet
            case rel => exact ⟨rfl, rfl⟩
        · have d1 : decide (k < mn) = false := by simpa using c1
          obtain rfl : bb = false := by rw [← HBB.out]; exact decide_eq_false fun h => c1 h.1
          clear c1
          go_wp2_with fail
          go_meet
          case rel => exact ⟨rfl, rfl⟩
      case rest =>
      obtain ⟨rfl, rfl⟩ := hcut
      cases bb
      · -- the second loop
        have hke : mn ≤ k ∨ 20 ≤ k := by
          have := of_decide_eq_false HBB.out
          have := HKL.out
          omega
        have HTT : Hk (∀ x, x ∈ abI L → ∃ j, 0 ≤ j ∧ j < mn ∧ j < 20 ∧ x.t = (m.getD j default).t) := ⟨fun x hx => by
          obtain ⟨j, h1, h2⟩ := HTL.out.2 x hx
          exact ⟨j, Nat.zero_le _, by omega, by have := HKL.out; omega, h2⟩⟩
        have HTA := Hk.mk HTL.out.1
        have HN : Hk (n ≤ 20) := ⟨Nat.le_trans HSL.out.2 HKL.out⟩
        have HSA := Hk.mk HSL.out.1
        clear HTL HSL HKL HBB hke x1 xl hk
        go_wp2
        go_loopw [3, 4, 10] (fun lv cv i wr => ∃ (k n sc : Nat) (sa : Option Addr) (L : List Iv), lv = .slice sa n sc ∧ cv = .int .i64 n ∧ i = .int .i64 k ∧ k ≤ mn ∧ Hk (k ≤ 20) ∧ Hk (OwN wr (w.heap.size + 1) (.slice sa n sc) n L) ∧ Hk (Tl (abI L)) ∧ Hk (∀ x, x ∈ abI L → ∃ j, k ≤ j ∧ j < mn ∧ j < 20 ∧ x.t = (m.getD j default).t) ∧ Hk (SmI L) ∧ Hk (n ≤ 20) ∧ Hk (Below (w.heap.size + 1) (w.alloc (.cells #[.slice la ln lc, .slice ma mn mc, .slice ta tn tc] 25)) wr)) (fun _ _ i _ => mn - (intOf i).toNat)
        case atStart => exact ⟨0, n, sc, sa, L, rfl, rfl, rfl, Nat.zero_le _, ⟨by omega⟩, HO, HTA, HTT, HSA, HN, HB⟩
        case round =>
          clear HB HO HTA HTT HSA HN
          obtain ⟨k, n, sc, sa, L, rfl, rfl, rfl, hk, HKL, HO, HTA, HTT, HSL, HN, HB⟩ := hrel
          obtain ⟨x1, xl⟩ := HVF0.out _ HB.out
          go_upto_region 16 with fail
          obtain ⟨bb, hbb⟩ : ∃ b : Bool, decide (k < mn ∧ k < 20) = b := ⟨_, rfl⟩
          have HBB := Hk.mk hbb
          clear hbb
          go_cut [73] (fun x wx => x = .bool bb ∧ wr = wx)
          case first =>
            by_cases c1 : k < mn
            · have d1 : decide (k < mn) = true := by simpa using c1
              by_cases c2 : k < 20
              · have d2 : decide ((k : Int) < 20) = true := by rw [decide_eq_true_iff]; omega
                obtain rfl : bb = true := by rw [← HBB.out]; exact decide_eq_true ⟨c1, c2⟩
                clear c1 c2
                go_wp2_with fail
                go_meet
                case rel => exact ⟨rfl, rfl⟩
              · have d2 : decide ((k : Int) < 20) = false := by rw [decide_eq_false_iff_not]; omega
                obtain rfl : bb = false := by rw [← HBB.out]; exact decide_eq_false fun h => c2 h.2
                clear c1 c2
                go_wp2_with fail
                go_meet
                case rel => exact ⟨rfl, rfl⟩
            · have d1 : decide (k < mn) = false := by simpa using c1
              obtain rfl : bb = false := by rw [← HBB.out]; exact decide_eq_false fun h => c1 h.1
              clear c1
              go_wp2_with fail
              go_meet
              case rel => exact ⟨rfl, rfl⟩
          case rest =>
          obtain ⟨rfl, rfl⟩ := hcut
          cases bb
          · have hke : mn ≤ k ∨ 20 ≤ k := by
              have := of_decide_eq_false HBB.out
              have := HKL.out
              omega
            have hnil : abI L = [] := by
              cases h : abI L with
              | nil => rfl
              | cons x l =>
                obtain ⟨j, h1, h2, h3, _⟩ := HTT.out x (by rw [h]; exact List.mem_cons_self)
                omega
            have hn0 : n = 0 := by rw [← HO.out.o.len, ← abI_len, hnil]; rfl
            subst hn0
            have HD := Hk.mk HO.out.d
            have HSN := Hk.mk HSL.out
            have HEE : Hk (abI ([] : List Iv) = abI L ↔ true = true) := ⟨⟨fun _ => rfl, fun _ => hnil.symm⟩⟩
            clear HBB hke x1 xl hk hnil HTT HTA HSL HO HN
            go_wp2_with (first
              | (go_at_call 21; (with_reducible refine (eqins_as true none sa 0 0 0 sc [] L _ (InD.nil _ _ _) HD.out SmI.nil HSN.out HEE).mono ?_); rintro e z ⟨rfl, hb⟩; (first | (have hB2 := Hk.mk (kw_step HB.out hNW hb); clear hb; replace HB := hB2; clear hB2) | (have hB2 := Hk.mk (kw_step HB.out.drew hNW hb); clear hb; replace HB := hB2; clear hB2)))
              | (go_at_call 16; (with_reducible refine (wakes27_any _).mono ?_); rintro e z ⟨rfl, hb⟩; (first | (have hB2 := Hk.mk (kw_step HB.out hNW hb); clear hb; replace HB := hB2; clear hB2) | (have hB2 := Hk.mk (kw_step HB.out.drew hNW hb); clear hb; replace HB := hB2; clear hB2))))
            go_ret
            exact ⟨rfl, HTR.out _ HB.out⟩
          · have hlt : k < mn := (of_decide_eq_true HBB.out).1
            have h20 : k < 20 := (of_decide_eq_true HBB.out).2
            clear HBB
            obtain ⟨mb, moff, ea, hmb, ⟨z0, z1, z2⟩, hmq⟩ := ((HMA.out.below (HTR.out _ HB.out) (Nat.le_refl _)).mono (HTR.out _ HB.out).size).three hlt
            have hkl : k < m.length := by rw [HLN.out]; exact hlt
            have HSQ := Hk.mk (HSM.out.m _ (getD_memI hkl))
            obtain ⟨q, hqq⟩ : ∃ q, m.getD k default = q := ⟨_, rfl⟩
            rw [hqq] at z0 z1 z2 hmq HSQ
            have HQQ := Hk.mk hqq
            rw [ea] at x1
            have HVF : Hk (∀ X, Below wr.heap.size wr X → X.cell? ⟨w.heap.size, 1, none⟩ = some (.slice (some ⟨mb, moff, none⟩) mn mc) ∧ X.cell? ⟨mb, moff + k * 3, none⟩ = some (.int .i64 q.t) ∧ X.cell? ⟨mb, moff + k * 3 + 1, none⟩ = some (.int .i64 q.p) ∧ X.cell? ⟨mb, moff + k * 3 + 2, none⟩ = some (.slice q.a q.n q.c) ∧ w.heap.size < X.heap.size ∧ mb < X.heap.size) := ⟨fun X hX => ⟨(hX.cell (p := ⟨w.heap.size, 1, none⟩) xl).trans x1, (hX.cell (p := ⟨mb, moff + k * 3, none⟩) hmb).trans z0, (hX.cell (p := ⟨mb, moff + k * 3 + 1, none⟩) hmb).trans z1, (hX.cell (p := ⟨mb, moff + k * 3 + 2, none⟩) hmb).trans z2, Nat.lt_of_lt_of_le xl hX.size, Nat.lt_of_lt_of_le hmb hX.size⟩⟩
            have HMQ : Hk (∀ X, Below wr.heap.size wr X → CmD X X.heap.size q.a q.n q.l) := ⟨fun X hX => (hmq.below hX (Nat.le_refl _)).mono hX.size⟩
            have HLI : Hk (∀ X, Below wr.heap.size wr X → InD X X.heap.size sa n L) := ⟨fun X hX => (HO.out.below hX).d⟩
            have HWX : Hk (∀ X, Below wr.heap.size wr X → Below (w.heap.size + 1) (w.alloc (.cells #[.slice la ln lc, .slice ma mn mc, .slice ta tn tc] 25)) X) := ⟨fun X hX => HB.out.trans (hX.mono (kw_size HB.out hNW))⟩
            have t0 : (0 : Int) ≤ (k : Int) := by omega
            have t1 : (k : Int) < (mn : Int) := by omega
            have HLT := Hk.mk hlt
            have HNW := Hk.mk (kw_size HB.out hNW)
            have gk : IntKind.i64.wrap ((k : Int) + 1) = ((k + 1 : Nat) : Int) := by push_cast; exact wr27 (by omega) (by omega)
            have HV : Hk (Below wr.heap.size wr wr) := ⟨Below.refl _ _⟩
            have HK20 := Hk.mk h20
            clear x1 xl z0 z1 z2 hmq hkl hqq hmb hlt hk h20 HB ea
            obtain ⟨x1, p0, p1, p2, xl, xb⟩ := HVF.out _ HV.out
            have ET := Hk.mk HTA.out.ord
            go_upto_region 19 with (go_at_call 28; (with_reducible refine (take_yes q.t sa n sc L _ (HLI.out _ HV.out) HSL.out ET).mono ?_); rintro e z ⟨s1, n1, e1, s2, n2, e2, M1, M2, rfl, hk, hf1, hf2, hb⟩; have HTK := Hk.mk hk; have HF1 := Hk.mk hf1; have HF2 := Hk.mk hf2; clear hk hf1 hf2; have HVn := Hk.mk (kw_step HV.out (Nat.le_refl _) hb); replace HV := HVn; clear HVn; clear x1 p0 p1 p2 xl xb; clear hb; obtain ⟨x1, p0, p1, p2, xl, xb⟩ := HVF.out _ HV.out)
            generalize z = VX at *
            have hfn : n1 + n2 = n := by
              have h1 := filt_two (fun x : In => x.t == q.t) (abI L)
              rw [← HF1.out, ← HF2.out, abI_len, abI_len, abI_len, HTK.out.a.o.len, HTK.out.b.o.len, HO.out.o.len] at h1
              exact h1
            have HD1 := Hk.mk HTK.out.a.d
            have HTQ : Hk (∀ j, j < n1 → (M1.getD j default).t = q.t) := ⟨fun j hj => by
              have h1 := ab_getI2 HF1.out (j := j) (by rw [HTK.out.a.o.len]; exact hj)
              have h2 := (List.mem_filter.1 h1).2
              exact (beq_iff_eq.1 h2 : (M1.getD j default).ab.t = q.t)⟩
            have HB2 : Hk (OwN VX (w.heap.size + 1) (.slice s2 n2 e2) n2 M2) := ⟨HTK.out.b.weak HNW.out⟩
            have HTB : Hk (Tl (abI M2)) := ⟨by rw [HF2.out]; exact tl_filter _ HTA.out⟩
            have HTM : Hk (∀ x, x ∈ abI M2 → ∃ j, k + 1 ≤ j ∧ j < mn ∧ j < 20 ∧ x.t = (m.getD j default).t) := ⟨fun x hx => by
              rw [HF2.out] at hx
              obtain ⟨h1, h2⟩ := List.mem_filter.1 hx
              obtain ⟨j, j1, j2, j3, j4⟩ := HTT.out x h1
              refine ⟨j, ?_, j2, j3, j4⟩
              apply Classical.byContradiction
              intro hc
              obtain rfl : j = k := by omega
              have h5 : x.t = q.t := by rw [j4, HQQ.out]
              simp [h5] at h2⟩
            have HS2 : Hk (SmI M2) := ⟨smI_of HB2.out.d (HLI.out _ HV.out) HSL.out (fun x hx => by rw [HF2.out] at hx; exact (List.mem_filter.1 hx).1) (by rw [HTK.out.b.o.len, HO.out.o.len]; omega)⟩
            have hn20 : n ≤ 20 := HN.out
            have gs : IntKind.i64.wrap ((n1 : Int) + (n2 : Int)) = (n : Int) := by rw [show (n1 : Int) + (n2 : Int) = (n : Int) by omega]; exact wr27 (by omega) (by omega)
            have gm : IntKind.i64.wrap ((n : Int) - (n1 : Int)) = (n2 : Int) := by rw [show (n : Int) - (n1 : Int) = (n2 : Int) by omega]; exact wr27 (by omega) (by omega)
            have HN2 : Hk (n2 ≤ 20) := ⟨by omega⟩
            have hn1 : n1 ≤ 20 := by omega
            have HWY : Hk (Below wr.heap.size wr VX) := HV
            have HZ : Hk (Below VX.heap.size VX VX) := ⟨Below.refl _ _⟩
            clear x1 p0 p1 p2 xl xb
            clear HTK HF1 HF2 HTT HTA HSL HO HN ET HV hfn
            obtain ⟨wo, rfl⟩ : ∃ wo : World, wo = wr := ⟨wr, rfl⟩
            go_wp2_with (go_at_call 12; (with_reducible refine (num27_any _ _).mono ?_); rintro e z2 ⟨rfl, hz⟩; rw [hz]; clear hz z2)
            go_loopw [14] (fun i wr => ∃ j : Nat, i = .int .i64 j ∧ j ≤ n1 ∧ Hk (Below VX.heap.size VX wr)) (fun i _ => n1 - (intOf i).toNat)
            case atStart => exact ⟨0, rfl, Nat.zero_le _, HZ⟩
            case round =>
              clear HZ
              obtain ⟨j, rfl, hj, HZ⟩ := hrel
              by_cases hjn : j < n1
              · obtain ⟨b1, off1, ea1, hb1, ⟨y0, -, -⟩, -⟩ := (HD1.out.later HZ.out).three hjn
                rw [HTQ.out j hjn] at y0
                obtain ⟨x1, p0, p1, p2, xl, xb⟩ := HVF.out _ (HWY.out.trans (HZ.out.mono HWY.out.size))
                have u0 : (0 : Int) ≤ (j : Int) := by omega
                have u1 : (j : Int) < (n1 : Int) := by omega
                have HLJ := Hk.mk hjn
                have gj : IntKind.i64.wrap ((j : Int) + 1) = ((j + 1 : Nat) : Int) := by push_cast; exact wr27 (by omega) (by omega)
                subst ea1
                clear hjn hj
                go_upto_region 24 with fail
                go_quiet (fail)
                replace HZ := Hk.mk (below_drewN HZ.out nq)
                clear x1 p0 p1 p2 xl xb
                clear y0
                generalize World.drewN wr nq = WQ at *
                go_wp2
                exact ⟨⟨j + 1, by go_num, HLJ.out, HZ⟩, by first | exact nx_ms HLJ.out | exact nx_ms' HLJ.out⟩
              · obtain rfl : j = n1 := by omega
                have HWZ := Hk.mk (HWY.out.trans (HZ.out.mono HWY.out.size))
                clear hjn hj
                go_wp2
                exact ⟨⟨k + 1, n2, e2, s2, M2, rfl, by go_num, by go_num, HLT.out, ⟨HK20.out⟩, ⟨HB2.out.below HZ.out⟩, HTB, HTM, HS2, HN2, ⟨HWX.out _ HWZ.out⟩⟩, by first | exact nx_ms HLT.out | exact nx_ms' HLT.out⟩
      · have hlt : k < mn := (of_decide_eq_true HBB.out).1
        have h20 : k < 20 := (of_decide_eq_true HBB.out).2
        clear HBB
        obtain ⟨mb, moff, ea, hmb, ⟨z0, z1, z2⟩, hmq⟩ := ((HMA.out.below (HTR.out _ HB.out) (Nat.le_refl _)).mono (HTR.out _ HB.out).size).three hlt
        have hkl : k < m.length := by rw [HLN.out]; exact hlt
        have HSQ := Hk.mk (HSM.out.m _ (getD_memI hkl))
        obtain ⟨q, hqq⟩ : ∃ q, m.getD k default = q := ⟨_, rfl⟩
        rw [hqq] at z0 z1 z2 hmq HSQ
        have HQQ := Hk.mk hqq
        rw [ea] at x1
        have HVF : Hk (∀ X, Below wr.heap.size wr X → X.cell? ⟨w.heap.size, 1, none⟩ = some (.slice (some ⟨mb, moff, none⟩) mn mc) ∧ X.cell? ⟨mb, moff + k * 3, none⟩ = some (.int .i64 q.t) ∧ X.cell? ⟨mb, moff + k * 3 + 1, none⟩ = some (.int .i64 q.p) ∧ X.cell? ⟨mb, moff + k * 3 + 2, none⟩ = some (.slice q.a q.n q.c) ∧ w.heap.size < X.heap.size ∧ mb < X.heap.size) := ⟨fun X hX => ⟨(hX.cell (p := ⟨w.heap.size, 1, none⟩) xl).trans x1, (hX.cell (p := ⟨mb, moff + k * 3, none⟩) hmb).trans z0, (hX.cell (p := ⟨mb, moff + k * 3 + 1, none⟩) hmb).trans z1, (hX.cell (p := ⟨mb, moff + k * 3 + 2, none⟩) hmb).trans z2, Nat.lt_of_lt_of_le xl hX.size, Nat.lt_of_lt_of_le hmb hX.size⟩⟩
        have HMQ : Hk (∀ X, Below wr.heap.size wr X → CmD X X.heap.size q.a q.n q.l) := ⟨fun X hX => (hmq.below hX (Nat.le_refl _)).mono hX.size⟩
        have HLI : Hk (∀ X, Below wr.heap.size wr X → InD X X.heap.size sa n L) := ⟨fun X hX => (HO.out.below hX).d⟩
        have HWX : Hk (∀ X, Below wr.heap.size wr X → Below (w.heap.size + 1) (w.alloc (.cells #[.slice la ln lc, .slice ma mn mc, .slice ta tn tc] 25)) X) := ⟨fun X hX => HB.out.trans (hX.mono (kw_size HB.out hNW))⟩
        have t0 : (0 : Int) ≤ (k : Int) := by omega
        have t1 : (k : Int) < (mn : Int) := by omega
        have HLT := Hk.mk hlt
        have HNW := Hk.mk (kw_size HB.out hNW)
        have gk : IntKind.i64.wrap ((k : Int) + 1) = ((k + 1 : Nat) : Int) := by push_cast; exact wr27 (by omega) (by omega)
        have HV : Hk (Below wr.heap.size wr wr) := ⟨Below.refl _ _⟩
        have HK20 := Hk.mk h20
        clear x1 xl z0 z1 z2 hmq hkl hqq hmb hlt hk h20 HB ea
        obtain ⟨x1, p0, p1, p2, xl, xb⟩ := HVF.out _ HV.out
        cases hr : askN q.ab (abI L)
        · have EA := Hk.mk hr
          clear hr
          go_wp2_with (first | (go_at_call 12; (with_reducible refine (num27_any _ _).mono ?_); rintro e z2 ⟨rfl, hz⟩; rw [hz]; clear hz z2) | (go_at_call 25; (with_reducible refine (tput_no q sa n sc L _ (HLI.out _ HV.out) HSL.out.1 (HMQ.out _ HV.out) HSQ.out EA).mono ?_); rintro e z ⟨rfl, hb⟩; have HVn := Hk.mk (kw_step HV.out (Nat.le_refl _) hb); replace HV := HVn; clear HVn; clear x1 p0 p1 p2 xl xb; clear hb; obtain ⟨x1, p0, p1, p2, xl, xb⟩ := HVF.out _ HV.out))
          exact ⟨⟨k + 1, n, sc, sa, L, rfl, rfl, by go_num, HLT.out, ⟨HK20.out⟩, ⟨HO.out.below HV.out⟩, ⟨HTL.out.1, fun x hx => by obtain ⟨j, h1, h2⟩ := HTL.out.2 x hx; exact ⟨j, by omega, h2⟩⟩, ⟨HSL.out.1, by have := HSL.out.2; omega⟩, ⟨HWX.out _ HV.out⟩⟩, by first | exact nx_ms HLT.out | exact nx_ms' HLT.out⟩
        · have EA := Hk.mk hr
          have HOQ : Hk (okN q.ab = true) := ⟨by unfold askN at hr; simp only [Bool.and_eq_true] at hr; exact hr.2⟩
          clear hr
          cases hp : putN q.ab (abI L) with
          | none =>
            have EP := Hk.mk hp
            clear hp
            go_wp2_with (first | (go_at_call 12; (with_reducible refine (num27_any _ _).mono ?_); rintro e z2 ⟨rfl, hz⟩; rw [hz]; clear hz z2) | ((go_at_call 25; (with_reducible refine (tput_yes q none sa n sc L _ (HLI.out _ HV.out) HSL.out.1 (HMQ.out _ HV.out) HSQ.out EA EP).mono ?_); rintro e z hpr); obtain rfl := hpr.no rfl; have hb := hpr.bl; clear hpr; have HVn := Hk.mk (kw_step HV.out (Nat.le_refl _) hb); replace HV := HVn; clear HVn; clear x1 p0 p1 p2 xl xb; clear hb; obtain ⟨x1, p0, p1, p2, xl, xb⟩ := HVF.out _ HV.out))
            exact ⟨⟨k + 1, n, sc, sa, L, rfl, rfl, by go_num, HLT.out, ⟨HK20.out⟩, ⟨HO.out.below HV.out⟩, ⟨HTL.out.1, fun x hx => by obtain ⟨j, h1, h2⟩ := HTL.out.2 x hx; exact ⟨j, by omega, h2⟩⟩, ⟨HSL.out.1, by have := HSL.out.2; omega⟩, ⟨HWX.out _ HV.out⟩⟩, by first | exact nx_ms HLT.out | exact nx_ms' HLT.out⟩
          | some m2 =>
            have EP := Hk.mk hp
            have hpm := put_mem hp
            have HSN : Hk (∀ x, x ∈ m2 → SmN x) := ⟨fun x hx => by
              rcases hpm.2 x hx with e | e
              · rw [e]; exact smNc_of (HMQ.out _ HV.out) HSQ.out
              · exact smN_of (HLI.out _ HV.out) HSL.out.1 x e⟩
            have HM2 : Hk (m2.length = n + 1) := ⟨by rw [hpm.1, abI_len, HO.out.o.len]⟩
            have HTP := Hk.mk (tl_put HTL.out.1 HOQ.out hp)
            have HTM : Hk (∀ x, x ∈ m2 → ∃ j, j < k + 1 ∧ x.t = (m.getD j default).t) := ⟨fun x hx => by
              rcases hpm.2 x hx with e | e
              · exact ⟨k, by omega, by rw [e, HQQ.out]; rfl⟩
              · obtain ⟨j, h1, h2⟩ := HTL.out.2 x e
                exact ⟨j, by omega, h2⟩⟩
            clear hp hpm
            go_upto_region 9 with ((go_at_call 25; (with_reducible refine (tput_yes q (some m2) sa n sc L _ (HLI.out _ HV.out) HSL.out.1 (HMQ.out _ HV.out) HSQ.out EA EP).mono ?_); rintro e z hpr); obtain ⟨xa, xn, xc, X, rfl, ho, hab⟩ := hpr.yes m2 rfl; have hb := hpr.bl; have HXO := Hk.mk (ho.weak (Nat.le_trans HNW.out HV.out.size)); have HXA := Hk.mk hab; clear hpr ho hab; have HVn := Hk.mk (kw_step HV.out (Nat.le_refl _) hb); replace HV := HVn; clear HVn; clear x1 p0 p1 p2 xl xb; clear hb; obtain ⟨x1, p0, p1, p2, xl, xb⟩ := HVF.out _ HV.out)
            generalize z = VX at *
            have HXD := Hk.mk HXO.out.d
            have HZ : Hk (Below VX.heap.size VX VX) := ⟨Below.refl _ _⟩
            have hxl : X.length = n + 1 := by rw [← abI_len, HXA.out, HM2.out]
            have hxn : xn = n + 1 := by rw [← hxl]; exact HXD.out.q.len.symm
            subst hxn
            have HXS : Hk (SmI X) := ⟨smI_by HXD.out (by have := HSL.out.2; have := HK20.out; omega) (by rw [HXA.out]; exact HSN.out)⟩
            have EA2 : Hk (askN q.ab (abI X) = true) := ⟨by unfold askN; rw [HXA.out, HTP.out.1.ord, HOQ.out]; rfl⟩
            have EP2 : Hk (putN q.ab (abI X) = none) := ⟨by rw [HXA.out]; exact put_dup HTP.out.1.2 HTP.out.2⟩
            have gn : IntKind.i64.wrap ((n : Int) + 1) = ((n + 1 : Nat) : Int) := by have := HSL.out.2; have := HK20.out; push_cast; exact wr27 (by omega) (by omega)
            have HSK : Hk (n ≤ k) := ⟨HSL.out.2⟩
            clear hxl
            go_wp2_with (first | (go_at_call 12; (with_reducible refine (num27_any _ _).mono ?_); rintro e z2 ⟨rfl, hz⟩; rw [hz]; clear hz z2) | ((go_at_call 25; (with_reducible refine (tput_yes q none xa (n + 1) xc X _ (HXD.out.later HZ.out) HXS.out (HMQ.out _ HV.out) HSQ.out EA2 EP2).mono ?_); rintro e z hpr); obtain rfl := hpr.no rfl; have hb := hpr.bl; clear hpr; replace HZ := Hk.mk (kw_step HZ.out (Nat.le_refl _) hb); have HVn := Hk.mk (kw_step HV.out (Nat.le_refl _) hb); replace HV := HVn; clear HVn; clear x1 p0 p1 p2 xl xb; clear hb; obtain ⟨x1, p0, p1, p2, xl, xb⟩ := HVF.out _ HV.out))
            exact ⟨⟨k + 1, n + 1, xc, xa, X, rfl, by go_num, by go_num, HLT.out, ⟨HK20.out⟩, ⟨HXO.out.below HZ.out⟩, ⟨by rw [HXA.out]; exact HTP.out.1, by rw [HXA.out]; exact HTM.out⟩, ⟨HXS.out, by have := HSK.out; omega⟩, ⟨HWX.out _ HV.out⟩⟩, by first | exact nx_ms HLT.out | exact nx_ms' HLT.out⟩
  · go_wp2
    go_ret
    exact ⟨rfl, HTR.out _ HB.out⟩
theorem turnsLost_walk (v : Value) (w : World) (rows : Asks27 w v) :
    Calls Try.prog 8 #[v] w fun e w' => e = .returned (.bool true) ∧ Below w.heap.size w w' := by
  obtain ⟨la, ln, lc, l, ma, mn, mc, m, ta, tn, tc, ts, rfl, hl, hm, ht⟩ := rows
  exact turnsLost_go la ln lc l ma mn mc m ta tn tc ts w hl hm ht

theorem turnsLost_own : ownKnob Try.prog.godebug = none := by kernel_rfl
theorem turnsLost_laidOut : laidOutB Try.prog = true := by kernel_rfl
set_option maxRecDepth 100000 in
theorem turnsLost_lifted (os : Os) (started : os.Started) (H : Type) (enc : TypeId × Value → H) :
    ReturnsInHanded {} Try.checked os 8 .any (Rows.turnsLostSpec.pre6 enc Try.prog Try.f8 Rows.turnsLostRow.domain false) (Rows.turnsLostSpec.post enc Try.prog Try.f8 false true false false) := by
  refine returnsInHanded_of_change_sized (C := Try.checked) turnsLost_own started (by kernel_rfl) Try.func8
    (ChangeSpec.witness6 (enc := enc) (C := Try.checked) false ⟨#[], #[.agg #[.slice none 0 0, .slice none 0 0, .slice none 0 0]], []⟩ 8 (by kernel_rfl) (by kernel_rfl) (by kernel_rfl) (by kernel_rfl)) ?_
  intro W base args ds gs before hval0 hW hcnd hsz0 _
  have hval : ∀ (j : Nat) t v, Try.f8.params[j]? = some t → args[j]? = some v → Value.okWide Try.prog W .any base t v := hval0
  have hW' := hW
  obtain ⟨p, q, hA0, hV, rfl, hfz, hnd⟩ := hW
  have hA : DataW.TrodAll enc Try.prog W 0 (fun _ => true) true Try.f8.params.toList args.toList ds p := hA0
  rw [Try.params8] at hA hval
  obtain ⟨v0, vs0, d0, ds0, p0, q0, hargs, rfl, rfl, h0, r0⟩ := trodAll_cons hA
  obtain ⟨rfl, rfl, rfl⟩ := trodAll_nil r0
  obtain rfl : args = #[v0] := by cases args; simp_all
  obtain ⟨rfl, rfl⟩ := trodVars_none hV
  obtain ⟨cs0, rfl, hcs0⟩ := okWide_struct Try.underlying25 (hval 0 25 v0 rfl rfl)
  have k0 := h0
  have lt0 : ∀ x ∈ p0, x.block < W.heap.size := by obtain ⟨m, hm⟩ := k0; exact DataW.trod_lt m _ _ _ hm
  have hz0 : Szd 25 d0 := fun n hn => of_decide_eq_true (List.all_eq_true.1 hsz0 n (DataW.weights_mem_each (j := 0) (t := 25) (d := d0) rfl rfl n hn))
  have rows : Asks27 W (.agg cs0) := by obtain ⟨fuel, hf⟩ := h0; exact asks27_of hcs0 hf hz0
  clear hA0 hval0
  refine (turnsLost_walk (.agg cs0) W rows).mono fun e W' ⟨he, bel⟩ => ?_
  subst he
  exact ⟨_, rfl, _, _, _, [], _, [], hW', trodAll_mk1 (shut_bool Try.underlying4 _), (trodAll_cons_mk (Below.trod turnsLost_laidOut (by kernel_rfl) (of_decide_eq_true (by kernel_rfl)) k0 bel lt0) trodAll_mk0), rfl, bel.frame _, fun h => by cases h⟩
theorem turnsLost_over : Rows.turnsLostRow.holds Try.pinned (OpenSpec.ofChange Rows.turnsLostSpec) :=
  OpenClaim.holds_of_wide 8 Try.f8 rfl rfl rfl rfl rfl rfl rfl ⟨rfl, rfl, rfl, rfl, rfl⟩ rfl rfl rfl rfl rfl (by kernel_rfl) Try.func8 (by kernel_rfl)
    (of_decide_eq_true (by kernel_rfl)) (by unfold Func.isWrapper; first | (rw [if_pos (by decide +kernel)]; kernel_rfl) | (rw [if_neg (by decide +kernel)]; exact ⟨rfl, rfl⟩))
    (fun os started H enc _ => turnsLost_lifted os started H enc)
/-- The given statement of TurnsLost. -/
theorem turnsLost_holds : Rows.TurnsLostSaid := turnsLost_over
end Go.Proofs.Ytmphmpfeeiipgaa

