import Derived.Deep.QuietTactic
import Derived.BigQuiet
import Derived.Deep.RegionWith
import Derived.Deep.RegionHeld3
import Derived.Deep.DeepCutAuto
import Derived.Deep.DeepFit
import Derived.Outline
import Derived.Test.YthabjihpjdlmoaaDoorSkp
import Derived.Test.YthabjihpjdlmoaaDoorSky
/- Layer 13: reckon and Make. -/
namespace Go.Proofs.YthabjihpjdlmoaaDoor
open Go.ChangeShapes Go.WideShapes Go.ChangeAt Go.RowKit Go.Deep
set_option linter.unusedVariables false
set_option linter.unusedSimpArgs false
/-- Is a tile good? -/
def gdF (W H : Int) (xs : List Int) (bs : List Bd) (cl s k : Nat) : Bool := decide (s < sC W H (opn W xs bs cl) k)
theorem gdF_open {W H : Int} {xs : List Int} {bs : List Bd} {cl s k : Nat} (hW : W ≤ 128) (h : gdF W H xs bs cl s k = true) : 0 < kcF cl xs k := by
  unfold gdF at h
  rw [decide_eq_true_iff] at h
  by_cases ho : opXY W H (opn W xs bs cl) ((k : Int) % W) ((k : Int) / W) = true
  · unfold opXY at ho
    simp only [Bool.and_eq_true, decide_eq_true_eq] at ho
    obtain ⟨⟨a1, a2, a3, a4⟩, ho⟩ := ho
    have em := Int.emod_add_mul_ediv (k : Int) W
    rw [show ((k : Int) % W + W * ((k : Int) / W)).toNat = k by omega] at ho
    unfold opn opB at ho
    simp only [Bool.and_eq_true, decide_eq_true_eq] at ho
    exact ho.1
  · have : sC W H (opn W xs bs cl) k = 0 := by
      unfold sC
      exact sV_no hW (by simpa using ho)
    omega
theorem dm_of {W H : Int} {n : Nat} {xs : List Int} (G : GOk W H n xs) : Dm W H n := ⟨G.w1, G.w2, G.h1, G.h2, G.nn, by have := G.nn; have := mul_bd G.w1 G.w2 G.h1 G.h2; omega⟩
theorem fd_stp {W H : Int} {n : Nat} {xs : List Int} (G : GOk W H n xs) (bs : List Bd) (cl s : Nat) : Stp n (tT W H (gdF W H xs bs cl s)) (tC W H (kcF cl xs)) :=
  stp_of G.w1 G.nn (fun t h => gdF_open G.w2 h) (fun t => (ct_abs _ _).2)
theorem le2 {m j : Nat} (h : m + 2 ≤ j) : m ≤ j := by omega
theorem far1 {m j : Nat} (h : m + 2 ≤ j) : j ≠ m + 1 := by omega
/-- What reckon leaves. -/
structure FdR (B : Nat) (w' : World) (W H : Int) (n : Nat) (xs : List Int) (bs : List Bd) (cl s goal I K J : Nat) (D : Nat → Int) : Prop where
  i : B ≤ I
  k : B ≤ K
  j : B ≤ J
  ai : Arr w' I n 4 (fun t => .bool (gdF W H xs bs cl s t))
  ak : Arr w' K n 3 (fun t => .int .i64 (kcF cl xs t))
  aj : Arr w' J n 3 (fun t => .int .i64 (D t))
  tab : TabG n (tT W H (gdF W H xs bs cl s)) (tC W H (kcF cl xs)) goal (gdF W H xs bs cl s goal) D
set_option maxRecDepth 100000 in
set_option maxHeartbeats 3200000 in
theorem reckon_yes (W H : Int) (a : Option Addr) (n c : Nat) (xs : List Int) (la : Option Addr) (ln lc : Nat) (bs : List Bd) (cl s goal : Nat) (w : World) (hL : LF w) (h : By w w.heap.size a n xs) (hb0 : Bq w w.heap.size la ln bs) (hn : n ≤ 140737488355328) (hln : ln ≤ 1099511627776) (hc3 : cl < 3) (hs : s ≤ 3) (MM : Hk (MOk W H n xs bs)) (hg : goal < n) :
    Calls Tryd.prog 57 #[.agg #[.int .i64 W, .int .i64 H, .slice a n c], .slice la ln lc, .int .i64 cl, .int .i64 s, .int .i64 goal] w fun e w' => ∃ I K J D, e = .returned (.tuple #[.agg #[.int .i64 W, .int .i64 H, .slice (some ⟨I, 0, none⟩) n n, .slice (some ⟨K, 0, none⟩) n n], .slice (some ⟨J, 0, none⟩) n n, .int .i64 0]) ∧ FdR w.heap.size w' W H n xs bs cl s goal I K J D ∧ Below w.heap.size w w' := by
  have HWB : Hk (Below w.heap.size w (w.alloc (.cells #[.int .i64 W, .int .i64 H, .slice a n c] 24))) := ⟨(Below.refl _ _).alloc (Nat.le_refl _) _⟩
  have hNW : w.heap.size + 1 ≤ ((w.alloc (.cells #[.int .i64 W, .int .i64 H, .slice a n c] 24))).heap.size := by simp
  have HB : Hk (Below (w.heap.size + 1) (w.alloc (.cells #[.int .i64 W, .int .i64 H, .slice a n c] 24)) ((w.alloc (.cells #[.int .i64 W, .int .i64 H, .slice a n c] 24)).alloc (.cells #[.int .i64 0, .int .i64 0, .slice none 0 0, .slice none 0 0] 82))) := ⟨(Below.refl _ _).alloc (by simp) _⟩
  have HTR : Hk (∀ X, Below (w.heap.size + 1) (w.alloc (.cells #[.int .i64 W, .int .i64 H, .slice a n c] 24)) X → Below w.heap.size w X) := ⟨fun X hX => HWB.out.trans (hX.mono (by omega))⟩
  have HBY := Hk.mk (fun (X : World) (hX : Below (w.heap.size + 1) (w.alloc (.cells #[.int .i64 W, .int .i64 H, .slice a n c] 24)) X) => h.below (HTR.out X hX) (Nat.le_refl _))
  have HBQ := Hk.mk (fun (X : World) (hX : Below (w.heap.size + 1) (w.alloc (.cells #[.int .i64 W, .int .i64 H, .slice a n c] 24)) X) => hb0.below (HTR.out X hX) (Nat.le_refl _))
  have HLL := Hk.mk (fun (X : World) (hX : Below (w.heap.size + 1) (w.alloc (.cells #[.int .i64 W, .int .i64 H, .slice a n c] 24)) X) => hL.below (HTR.out X hX) (Nat.le_refl _))
  have HR : Hk (Bk ((w.alloc (.cells #[.int .i64 W, .int .i64 H, .slice a n c] 24)).alloc (.cells #[.int .i64 0, .int .i64 0, .slice none 0 0, .slice none 0 0] 82)) ((w.alloc (.cells #[.int .i64 W, .int .i64 H, .slice a n c] 24))).heap.size #[.int .i64 0, .int .i64 0, .slice none 0 0, .slice none 0 0]) := ⟨Bk.new _ _ _⟩
  have hWs : ((w.alloc (.cells #[.int .i64 W, .int .i64 H, .slice a n c] 24))).heap.size = w.heap.size + 1 := by simp
  rw [hWs] at HR
  clear hWs
  clear h hb0 hL
  have GG : Hk (GOk W H n xs) := ⟨MM.out.g⟩
  have DD : Hk (Dm W H n) := ⟨dm_of GG.out⟩
  have n16 := DD.out.n16
  have SS : Hk (Stp n (tT W H (gdF W H xs bs cl s)) (tC W H (kcF cl xs))) := ⟨fd_stp GG.out bs cl s⟩
  have CC : Hk (∀ k, 0 ≤ kcF cl xs k ∧ kcF cl xs k ≤ 6) := ⟨fun k => ct_abs _ _⟩
  have g0 : (0 : Int) ≤ (goal : Int) := by omega
  have g1 : (goal : Int) < (n : Int) := by omega
  obtain ⟨hc, hf, hl, hn', hm⟩ := kw_rules HB.out hNW
  go_enter Tryd.func57, Tryd.ntmps57
  go_wp2_with (first
    | (go_at_call 20; (refine (good_yes W H a n c xs la ln lc bs cl s _ (HLL.out _ HB.out).lc ?_ ?_ hn hln hc3 hs MM).mono ?_); (exact (HBY.out _ HB.out).mono (hsz1 HB.out)); (exact (HBQ.out _ HB.out).mono (hsz1 HB.out)); rintro e z ⟨I, rfl, hI, hAi, hb⟩; have HAI : Hk (Arr _ I n 4 (fun t => .bool (gdF W H xs bs cl s t))) := ⟨hAi⟩; have HIB : Hk (w.heap.size + 2 ≤ I) := ⟨Nat.le_trans (by have := HR.out.lt; omega) hI⟩; replace HR := Hk.mk (HR.out.below hb); clear hI hAi; replace HB := Hk.mk (kw_step HB.out hNW hb); clear hb; clear hc hf hl hn' hm; obtain ⟨hc, hf, hl, hn', hm⟩ := kw_rules HB.out hNW)
    | (go_at_call 80; (refine (landon_any W H a n c xs (some ⟨I, 0, none⟩) n n cl _ (HLL.out _ HB.out).lc ?_ n16 hc3 GG).mono ?_); (exact (HBY.out _ HB.out).mono (hsz1 HB.out)); rintro e z ⟨K, rfl, hK, hAk, hb⟩; have HAK := Hk.mk hAk; have HKB : Hk (w.heap.size + 2 ≤ K) := ⟨Nat.le_trans (by have := HR.out.lt; omega) hK⟩; replace HAI := Hk.mk (HAI.out.later hb); replace HR := Hk.mk (HR.out.below hb); clear hK hAk; replace HB := Hk.mk (kw_step HB.out hNW hb); clear hb; clear hc hf hl hn' hm; obtain ⟨hc, hf, hl, hn', hm⟩ := kw_rules HB.out hNW))
  have HB5 := Hk.mk (kw_al HB.out hNW (.cells #[.int .i64 W, .int .i64 H, .slice (some ⟨I, 0, none⟩) n n, .slice (some ⟨K, 0, none⟩) n n] 82))
  have HAI5 := Hk.mk (HAI.out.alloc (.cells #[.int .i64 W, .int .i64 H, .slice (some ⟨I, 0, none⟩) n n, .slice (some ⟨K, 0, none⟩) n n] 82))
  have HAK5 := Hk.mk (HAK.out.alloc (.cells #[.int .i64 W, .int .i64 H, .slice (some ⟨I, 0, none⟩) n n, .slice (some ⟨K, 0, none⟩) n n] 82))
  have HR5 := Hk.mk (HR.out.al (.cells #[.int .i64 W, .int .i64 H, .slice (some ⟨I, 0, none⟩) n n, .slice (some ⟨K, 0, none⟩) n n] 82))
  have HL5 := Hk.mk (Bk.new z #[.int .i64 W, .int .i64 H, .slice (some ⟨I, 0, none⟩) n n, .slice (some ⟨K, 0, none⟩) n n] 82)
  have HRL : Hk (w.heap.size + 1 < z.heap.size) := ⟨HR.out.lt⟩
  clear HB HAI HAK HR
  clear hc hf hl hn' hm
  obtain ⟨W5, hW5⟩ : ∃ W5, z.alloc (.cells #[.int .i64 W, .int .i64 H, .slice (some ⟨I, 0, none⟩) n n, .slice (some ⟨K, 0, none⟩) n n] 82) = W5 := ⟨_, rfl⟩
  rw [hW5] at HB5 HAI5 HAK5 HR5 HL5 ⊢
  clear hW5
  obtain ⟨LB, hLB⟩ : ∃ LB, z.heap.size = LB := ⟨_, rfl⟩
  have HLB2 : Hk (w.heap.size + 2 ≤ LB) := ⟨by have := HRL.out; omega⟩
  rw [hLB] at HL5 ⊢
  clear hLB
  have l0 := HL5.out.c 0
  have l1 := HL5.out.c 1
  have l2 := HL5.out.c 2
  have l3 := HL5.out.c 3
  simp at l0 l1 l2 l3
  have r0 := HR5.out.c 0
  have r1 := HR5.out.c 1
  have r2 := HR5.out.c 2
  have r3 := HR5.out.c 3
  simp at r0 r1 r2 r3
  have q0 := HR5.out.f 0
  have q1 := HR5.out.f 1
  have q2 := HR5.out.f 2
  have q3 := HR5.out.f 3
  have HBa := Hk.mk HB5.out.drew
  have HAIa := Hk.mk HAI5.out.drew
  have HAKa := Hk.mk HAK5.out.drew
  have HRa := Hk.mk HR5.out.drew
  have HBb := Hk.mk ((((HBa.out.setCell (p := ⟨w.heap.size + 1, 0, none⟩) (Nat.le_refl _) (.int .i64 W)).setCell (p := ⟨w.heap.size + 1, 1, none⟩) (Nat.le_refl _) (.int .i64 H)).setCell (p := ⟨w.heap.size + 1, 2, none⟩) (Nat.le_refl _) (.slice (some ⟨I, 0, none⟩) n n)).setCell (p := ⟨w.heap.size + 1, 3, none⟩) (Nat.le_refl _) (.slice (some ⟨K, 0, none⟩) n n))
  have HAIb := Hk.mk ((((HAIa.out.far ⟨w.heap.size + 1, 0, none⟩ (.int .i64 W) (far1 HIB.out)).far ⟨w.heap.size + 1, 1, none⟩ (.int .i64 H) (far1 HIB.out)).far ⟨w.heap.size + 1, 2, none⟩ (.slice (some ⟨I, 0, none⟩) n n) (far1 HIB.out)).far ⟨w.heap.size + 1, 3, none⟩ (.slice (some ⟨K, 0, none⟩) n n) (far1 HIB.out))
  have HAKb := Hk.mk ((((HAKa.out.far ⟨w.heap.size + 1, 0, none⟩ (.int .i64 W) (far1 HKB.out)).far ⟨w.heap.size + 1, 1, none⟩ (.int .i64 H) (far1 HKB.out)).far ⟨w.heap.size + 1, 2, none⟩ (.slice (some ⟨I, 0, none⟩) n n) (far1 HKB.out)).far ⟨w.heap.size + 1, 3, none⟩ (.slice (some ⟨K, 0, none⟩) n n) (far1 HKB.out))
  have HRb : Hk (Bk _ (w.heap.size + 1) #[.int .i64 W, .int .i64 H, .slice (some ⟨I, 0, none⟩) n n, .slice (some ⟨K, 0, none⟩) n n]) := ⟨(((HRa.out.set 0 (.int .i64 W)).set 1 (.int .i64 H)).set 2 (.slice (some ⟨I, 0, none⟩) n n)).set 3 (.slice (some ⟨K, 0, none⟩) n n)⟩
  have HLa := Hk.mk HL5.out.drew
  have HLN : Hk (¬ LB = w.heap.size + 1) := ⟨by have := HLB2.out; omega⟩
  have HLb := Hk.mk ((((HLa.out.oth HLN.out 0 (.int .i64 W)).oth HLN.out 1 (.int .i64 H)).oth HLN.out 2 (.slice (some ⟨I, 0, none⟩) n n)).oth HLN.out 3 (.slice (some ⟨K, 0, none⟩) n n))
  clear HB5 HAI5 HAK5 HR5 HL5
  go_region_with (first
    | (go_at_call 81; (with_reducible refine (spread_any W H n I K (gdF W H xs bs cl s) (kcF cl xs) goal _ (HLL.out _ HBa.out) HAIa.out HAKa.out DD.out hg CC SS).mono ?_); rintro e z9 ⟨J, D, rfl, hJ, hAJ, hT, hb⟩; have HL9 := Hk.mk (HLa.out.below hb); have m0 := HL9.out.c 0; have m1 := HL9.out.c 1; have m2 := HL9.out.c 2; have m3 := HL9.out.c 3; simp at m0 m1 m2 m3; have HRz := Hk.mk (HRa.out.below hb); have z0 := HRz.out.c 0; have z1 := HRz.out.c 1; have z2 := HRz.out.c 2; have z3 := HRz.out.c 3; simp at z0 z1 z2 z3; have y0 := HRz.out.f 0; have y1 := HRz.out.f 1; have y2 := HRz.out.f 2; have y3 := HRz.out.f 3; have HBz := Hk.mk (kw_step HBa.out hNW hb); have HAIz := Hk.mk (HAIa.out.later hb); have HAKz := Hk.mk (HAKa.out.later hb); have HJB : Hk (w.heap.size + 2 ≤ J) := ⟨by have := HRa.out.lt; omega⟩; have HAJ := Hk.mk hAJ; have HT := Hk.mk hT; clear HBb HAIb HAKb HRb HLb hAJ hT hJ hb)
    | (go_at_call 81; (with_reducible refine (spread_any W H n I K (gdF W H xs bs cl s) (kcF cl xs) goal _ (HLL.out _ HBb.out) HAIb.out HAKb.out DD.out hg CC SS).mono ?_); rintro e z9 ⟨J, D, rfl, hJ, hAJ, hT, hb⟩; have HL9 := Hk.mk (HLb.out.below hb); have m0 := HL9.out.c 0; have m1 := HL9.out.c 1; have m2 := HL9.out.c 2; have m3 := HL9.out.c 3; simp at m0 m1 m2 m3; have HRz := Hk.mk (HRb.out.below hb); have z0 := HRz.out.c 0; have z1 := HRz.out.c 1; have z2 := HRz.out.c 2; have z3 := HRz.out.c 3; simp at z0 z1 z2 z3; have HBz := Hk.mk (kw_step HBb.out hNW hb); have HAIz := Hk.mk (HAIb.out.later hb); have HAKz := Hk.mk (HAKb.out.later hb); have HJB : Hk (w.heap.size + 2 ≤ J) := ⟨by have := HRb.out.lt; omega⟩; have HAJ := Hk.mk hAJ; have HT := Hk.mk hT; clear HBa HAIa HAKa HRa HLa hAJ hT hJ hb))
  all_goals
    clear r0 r1 r2 r3 q0 q1 q2 q3 l0 l1 l2 l3
    go_wp2_with fail
  all_goals
    refine bodyPost_ret (v := .tuple #[.agg #[.int .i64 W, .int .i64 H, .slice (some ⟨I, 0, none⟩) n n, .slice (some ⟨K, 0, none⟩) n n], .slice (some ⟨J, 0, none⟩) n n, .int .i64 0]) (by simp [results, Tryd.results57, go_sem, z0, z1, z2, z3]) rfl ?_
    first
      | exact ⟨I, K, J, D, rfl, ⟨le2 HIB.out, le2 HKB.out, le2 HJB.out, HAIz.out, HAKz.out, HAJ.out, HT.out⟩, HTR.out _ HBz.out⟩
      | exact ⟨I, K, J, D, rfl, ⟨le2 HIB.out, le2 HKB.out, le2 HJB.out, ((((HAIz.out.far ⟨w.heap.size + 1, 0, none⟩ (.int .i64 W) (far1 HIB.out)).far ⟨w.heap.size + 1, 1, none⟩ (.int .i64 H) (far1 HIB.out)).far ⟨w.heap.size + 1, 2, none⟩ (.slice (some ⟨I, 0, none⟩) n n) (far1 HIB.out)).far ⟨w.heap.size + 1, 3, none⟩ (.slice (some ⟨K, 0, none⟩) n n) (far1 HIB.out)), ((((HAKz.out.far ⟨w.heap.size + 1, 0, none⟩ (.int .i64 W) (far1 HKB.out)).far ⟨w.heap.size + 1, 1, none⟩ (.int .i64 H) (far1 HKB.out)).far ⟨w.heap.size + 1, 2, none⟩ (.slice (some ⟨I, 0, none⟩) n n) (far1 HKB.out)).far ⟨w.heap.size + 1, 3, none⟩ (.slice (some ⟨K, 0, none⟩) n n) (far1 HKB.out)), ((((HAJ.out.far ⟨w.heap.size + 1, 0, none⟩ (.int .i64 W) (far1 HJB.out)).far ⟨w.heap.size + 1, 1, none⟩ (.int .i64 H) (far1 HJB.out)).far ⟨w.heap.size + 1, 2, none⟩ (.slice (some ⟨I, 0, none⟩) n n) (far1 HJB.out)).far ⟨w.heap.size + 1, 3, none⟩ (.slice (some ⟨K, 0, none⟩) n n) (far1 HJB.out)), HT.out⟩, HTR.out _ (((((HBz.out.setCell (p := ⟨w.heap.size + 1, 0, none⟩) (Nat.le_refl _) (.int .i64 W)).setCell (p := ⟨w.heap.size + 1, 1, none⟩) (Nat.le_refl _) (.int .i64 H)).setCell (p := ⟨w.heap.size + 1, 2, none⟩) (Nat.le_refl _) (.slice (some ⟨I, 0, none⟩) n n)).setCell (p := ⟨w.heap.size + 1, 3, none⟩) (Nat.le_refl _) (.slice (some ⟨K, 0, none⟩) n n)))⟩
end Go.Proofs.YthabjihpjdlmoaaDoor
