import Derived.Deep.QuietTactic
import Derived.BigQuiet
import Derived.Deep.RegionWith
import Derived.Deep.RegionHeld3
import Derived.Deep.DeepCutAuto
import Derived.Deep.DeepFit
import Derived.Outline
import Derived.Test.YtdpblimhfmfbnaaZsak
import Derived.Test.YtdpblimhfmfbnaaZsaj
import Derived.Test.YtdpblimhfmfbnaaZso
import Derived.Test.YtdpblimhfmfbnaaZsz
import Derived.Deep.RegionLaw
import Derived.Lib.SlBuf
import Derived.Deep.Upon
import Derived.Test.YtdpblimhfmfbnaaZsad
import Derived.Test.YtdpblimhfmfbnaaZsab
import Derived.Test.YtdpblimhfmfbnaaZsaa
import Derived.Test.YtdpblimhfmfbnaaZsae
import Derived.Test.YtdpblimhfmfbnaaZsac
set_option linter.unusedVariables false
set_option linter.unusedSimpArgs false
namespace Go.Proofs.Ytdpblimhfmfbnaa
open Go.ChangeShapes Go.WideShapes Go.ChangeAt Go.RowKit Go.Deep
def OkI (q : In) (f : Int) : Prop := (q.t = -1 ∧ q.p = 0 ∧ q.l = []) ∨ (¬ q.t = -1 ∧ okN q = true ∧ q.p = f)
def OkNt (n : Nm) : Prop := (1 ≤ n.f ∧ n.f ≤ 8) ∧ (1 ≤ n.t ∧ n.t ≤ 8) ∧ ¬ n.f = n.t ∧ (-1 ≤ n.d ∧ n.d ≤ 1099511627776) ∧ (-1 ≤ n.v ∧ n.v ≤ 1099511627776) ∧ (0 ≤ n.d ∨ n.h = 0) ∧ OkI n.q n.f
theorem isdone_any (r : Bool) (n : Int) (w : World) (E : Hk ((-1 ≤ n ∧ n ≤ 1099511627776) ↔ r = true)) :
  Calls Try.prog 55 #[.int .i64 n] w fun e z => e = .returned (.bool r) ∧ z = w := by
 go_enter Try.func55, Try.ntmps55
 go_wp2
 all_goals go_ret
 all_goals first
  | exact ⟨no_as E.out (by omega), rfl⟩
  | exact ⟨dec_as E.out (by omega), rfl⟩
theorem abC_nil_iff {l : List Cv} {n : Nat} (h : l.length = n) : abC l = [] ↔ n = 0 := by
 rw [← h, ← abC_len]
 exact ⟨fun e => by rw [e]; rfl, List.eq_nil_of_length_eq_zero⟩
set_option maxRecDepth 100000 in
set_option maxHeartbeats 1600000 in
theorem vinput_as (r : Bool) (q : Nv) (w : World) (h : CmD w w.heap.size q.q.a q.q.n q.q.l) (hs : SmC q.q.l) (E : Hk (OkI q.ab.q q.f ↔ r = true)) :
  Calls Try.prog 56 #[.agg (jjN q)] w fun e z => e = .returned (.bool r) ∧ Below w.heap.size w z := by
 have HE : Hk (((q.q.t = -1 ∧ q.q.p = 0 ∧ q.q.n = 0) ∨ (¬ q.q.t = -1 ∧ okN ⟨q.q.t, q.q.p, abC q.q.l⟩ = true ∧ q.q.p = q.f)) ↔ r = true) := ⟨by
  rw [← E.out, ← abC_nil_iff h.q.len]; rfl⟩
 clear E
 have HB : Hk (Below w.heap.size w (w.alloc (.cells (jjN q) 58))) := ⟨below_al _ _⟩
 have HPB : Hk (Bk (w.alloc (.cells (jjN q) 58)) w.heap.size (jjN q)) := ⟨Bk.new w (jjN q) 58⟩
 have HD : Hk (∀ X, Below w.heap.size w X → CmD X X.heap.size q.q.a q.q.n q.q.l) := ⟨fun X hX => h.later hX⟩
 have HSC := Hk.mk hs
 have hql := h.q.len
 clear h hs
 go_enter Try.func56, Try.ntmps56
 go_upto_region 1 with fail
 generalize (w.alloc (.cells (jjN q) 58)) = V at *
 have n0 := HPB.out.c 0; have n1 := HPB.out.c 1; have n2 := HPB.out.c 2; have n3 := HPB.out.c 3; have n4 := HPB.out.c 4; have n5 := HPB.out.c 5; have n6 := HPB.out.c 6; have n7 := HPB.out.c 7; have nl := HPB.out.lt; simp at n0 n1 n2 n3 n4 n5 n6 n7
 by_cases ht : q.q.t = -1
 ·have f1 : (q.q.t == -1) = true := beq_iff_eq.2 ht
  have HT := Hk.mk ht
  clear ht
  by_cases hp : q.q.p = 0
  ·have f2 : (q.q.p == 0) = true := beq_iff_eq.2 hp
   have HP0 := Hk.mk hp
   clear hp
   obtain ⟨b, f3⟩ : ∃ b, ((q.q.n : Int) == 0) = b := ⟨_, rfl⟩
   have HB3 : Hk (b = true ↔ q.q.n = 0) := ⟨by rw [← f3, beq_iff_eq]; omega⟩
   go_wp2
   go_ret
   exact ⟨bool_as HE.out ⟨fun k => .inl ⟨HT.out, HP0.out, HB3.out.1 k⟩, fun k => HB3.out.2 (by rcases k with k | k; exact k.2.2; exact absurd HT.out k.1)⟩, HB.out⟩
  ·have f2 : (q.q.p == 0) = false := beq_eq_false_iff_ne.2 hp
   have HP0 := Hk.mk hp
   clear hp
   go_wp2
   go_ret
   exact ⟨no_as HE.out (fun k => by rcases k with k | k; exact HP0.out k.2.1; exact k.1 HT.out), HB.out⟩
 ·have f1 : (q.q.t == -1) = false := beq_eq_false_iff_ne.2 ht
  have HT := Hk.mk ht
  clear ht
  cases hk : okN ⟨q.q.t, q.q.p, abC q.q.l⟩
  ·have HK := Hk.mk hk
   have EZ : Hk ((if okN ⟨q.q.t, q.q.p, abC q.q.l⟩ then (0 : Int) else 1) = 1) := ⟨by rw [hk]; rfl⟩
   clear hk
   go_wp2_with (go_at_call 47; (with_reducible refine (tcheck_as 1 q.q.t q.q.p q.q.a q.q.n q.q.c q.q.l _ (HD.out _ HB.out) HSC.out EZ).mono ?_); rintro e z ⟨rfl, hb⟩; have HB2 := Hk.mk (HB.out.trans (hb.mono HB.out.size)); have HP2 := Hk.mk (HPB.out.below hb); clear n0 n1 n2 n3 n4 n5 n6 n7 nl; clear hb HB HPB; have HB := HB2; have HPB := HP2; clear HB2 HP2; have n0 := HPB.out.c 0; have n1 := HPB.out.c 1; have n2 := HPB.out.c 2; have n3 := HPB.out.c 3; have n4 := HPB.out.c 4; have n5 := HPB.out.c 5; have n6 := HPB.out.c 6; have n7 := HPB.out.c 7; have nl := HPB.out.lt; simp at n0 n1 n2 n3 n4 n5 n6 n7)
   go_ret
   exact ⟨no_as HE.out (fun k => by rcases k with k | k; exact HT.out k.1; rw [HK.out] at k; cases k.2.1), HB.out⟩
  ·have HK := Hk.mk hk
   have EZ : Hk ((if okN ⟨q.q.t, q.q.p, abC q.q.l⟩ then (0 : Int) else 1) = 0) := ⟨by rw [hk]; rfl⟩
   clear hk
   obtain ⟨b, f3⟩ : ∃ b, (q.q.p == q.f) = b := ⟨_, rfl⟩
   have HB3 : Hk (b = true ↔ q.q.p = q.f) := ⟨by rw [← f3, beq_iff_eq]⟩
   go_wp2_with (go_at_call 47; (with_reducible refine (tcheck_as 0 q.q.t q.q.p q.q.a q.q.n q.q.c q.q.l _ (HD.out _ HB.out) HSC.out EZ).mono ?_); rintro e z ⟨rfl, hb⟩; have HB2 := Hk.mk (HB.out.trans (hb.mono HB.out.size)); have HP2 := Hk.mk (HPB.out.below hb); clear n0 n1 n2 n3 n4 n5 n6 n7 nl; clear hb HB HPB; have HB := HB2; have HPB := HP2; clear HB2 HP2; have n0 := HPB.out.c 0; have n1 := HPB.out.c 1; have n2 := HPB.out.c 2; have n3 := HPB.out.c 3; have n4 := HPB.out.c 4; have n5 := HPB.out.c 5; have n6 := HPB.out.c 6; have n7 := HPB.out.c 7; have nl := HPB.out.lt; simp at n0 n1 n2 n3 n4 n5 n6 n7)
   go_ret
   exact ⟨bool_as HE.out ⟨fun k => .inr ⟨HT.out, HK.out, HB3.out.1 k⟩, fun k => HB3.out.2 (by rcases k with k | k; exact absurd k.1 HT.out; exact k.2.2)⟩, HB.out⟩
set_option maxRecDepth 100000 in
set_option maxHeartbeats 3200000 in
theorem vnote_as (r : Bool) (q : Nv) (w : World) (h : CmD w w.heap.size q.q.a q.q.n q.q.l) (hs : SmC q.q.l) (E : Hk (OkNt q.ab ↔ r = true)) :
  Calls Try.prog 30 #[.agg (jjN q)] w fun e z => e = .returned (.bool r) ∧ Below w.heap.size w z := by
 obtain ⟨r1, e1⟩ := bool_of (1 ≤ q.f ∧ q.f ≤ 8)
 obtain ⟨r2, e2⟩ := bool_of (1 ≤ q.t ∧ q.t ≤ 8)
 obtain ⟨r3, e3⟩ := bool_of (-1 ≤ q.d ∧ q.d ≤ 1099511627776)
 obtain ⟨r4, e4⟩ := bool_of (-1 ≤ q.v ∧ q.v ≤ 1099511627776)
 obtain ⟨r5, e5⟩ := bool_of (OkI q.ab.q q.f)
 have HE : Hk ((r1 = true ∧ r2 = true ∧ ¬ q.f = q.t ∧ r3 = true ∧ r4 = true ∧ (0 ≤ q.d ∨ q.h = 0) ∧ r5 = true) ↔ r = true) := ⟨by
  rw [← E.out, ← e1, ← e2, ← e3, ← e4, ← e5]; rfl⟩
 have E1 := Hk.mk e1
 have E2 := Hk.mk e2
 have E3 := Hk.mk e3
 have E4 := Hk.mk e4
 have E5 := Hk.mk e5
 clear E e1 e2 e3 e4 e5
 have HB : Hk (Below w.heap.size w (w.alloc (.cells (jjN q) 58))) := ⟨below_al _ _⟩
 have HPB : Hk (Bk (w.alloc (.cells (jjN q) 58)) w.heap.size (jjN q)) := ⟨Bk.new w (jjN q) 58⟩
 have HD : Hk (∀ X, Below w.heap.size w X → CmD X X.heap.size q.q.a q.q.n q.q.l) := ⟨fun X hX => h.later hX⟩
 have HSC := Hk.mk hs
 have hql := h.q.len
 clear h hs
 go_enter Try.func30, Try.ntmps30
 go_upto_region 1 with fail
 generalize (w.alloc (.cells (jjN q) 58)) = V at *
 have n0 := HPB.out.c 0; have n1 := HPB.out.c 1; have n2 := HPB.out.c 2; have n3 := HPB.out.c 3; have n4 := HPB.out.c 4; have n5 := HPB.out.c 5; have n6 := HPB.out.c 6; have n7 := HPB.out.c 7; have nl := HPB.out.lt; simp at n0 n1 n2 n3 n4 n5 n6 n7
 obtain ⟨b1, f1⟩ : ∃ b, (q.f != q.t) = b := ⟨_, rfl⟩
 obtain ⟨b2, f2⟩ : ∃ b, decide (0 ≤ q.d) = b := ⟨_, rfl⟩
 obtain ⟨b3, f3⟩ : ∃ b, (q.h == 0) = b := ⟨_, rfl⟩
 have HF : Hk ((b1 = true ↔ ¬ q.f = q.t) ∧ (b2 = true ↔ 0 ≤ q.d) ∧ (b3 = true ↔ q.h = 0)) := ⟨by rw [← f1, ← f2, ← f3]; simp⟩
 cases r1
 ·have HC1 : Hk (¬ (1 ≤ q.f ∧ q.f ≤ 8)) := ⟨fun g => by have := E1.out.1 g; cases this⟩
  clear E1
  go_wp2_with (go_at_call 20; (with_reducible refine (isplayer_any false q.f _ ⟨⟨fun g => absurd g HC1.out, fun g => by cases g⟩⟩).mono ?_); rintro e z ⟨rfl, hz⟩; rw [hz]; clear hz z)
  go_ret
  exact ⟨no_as HE.out (fun k => by cases k.1), HB.out⟩
 have HC1 := Hk.mk (E1.out.2 rfl)
 clear E1
 cases r2
 ·have HC2 : Hk (¬ (1 ≤ q.t ∧ q.t ≤ 8)) := ⟨fun g => by have := E2.out.1 g; cases this⟩
  clear E2
  go_wp2_with (first | (go_at_call 20; (with_reducible refine (isplayer_any true q.f _ ⟨⟨fun _ => rfl, fun _ => HC1.out⟩⟩).mono ?_); rintro e z ⟨rfl, hz⟩; rw [hz]; clear hz z) | (go_at_call 20; (with_reducible refine (isplayer_any false q.t _ ⟨⟨fun g => absurd g HC2.out, fun g => by cases g⟩⟩).mono ?_); rintro e z ⟨rfl, hz⟩; rw [hz]; clear hz z))
  go_ret
  exact ⟨no_as HE.out (fun k => by cases k.2.1), HB.out⟩
 have HC2 := Hk.mk (E2.out.2 rfl)
 clear E2
 cases b1
 ·go_wp2_with (first | (go_at_call 20; (with_reducible refine (isplayer_any true q.f _ ⟨⟨fun _ => rfl, fun _ => HC1.out⟩⟩).mono ?_); rintro e z ⟨rfl, hz⟩; rw [hz]; clear hz z) | (go_at_call 20; (with_reducible refine (isplayer_any true q.t _ ⟨⟨fun _ => rfl, fun _ => HC2.out⟩⟩).mono ?_); rintro e z ⟨rfl, hz⟩; rw [hz]; clear hz z))
  go_ret
  exact ⟨no_as HE.out (fun k => by cases HF.out.1.2 k.2.2.1), HB.out⟩
 cases r3
 ·have HC3 : Hk (¬ (-1 ≤ q.d ∧ q.d ≤ 1099511627776)) := ⟨fun g => by have := E3.out.1 g; cases this⟩
  clear E3
  go_wp2_with (first | (go_at_call 20; (with_reducible refine (isplayer_any true q.f _ ⟨⟨fun _ => rfl, fun _ => HC1.out⟩⟩).mono ?_); rintro e z ⟨rfl, hz⟩; rw [hz]; clear hz z) | (go_at_call 20; (with_reducible refine (isplayer_any true q.t _ ⟨⟨fun _ => rfl, fun _ => HC2.out⟩⟩).mono ?_); rintro e z ⟨rfl, hz⟩; rw [hz]; clear hz z) | (go_at_call 55; (with_reducible refine (isdone_any false q.d _ ⟨⟨fun g => absurd g HC3.out, fun g => by cases g⟩⟩).mono ?_); rintro e z ⟨rfl, hz⟩; rw [hz]; clear hz z))
  go_ret
  exact ⟨no_as HE.out (fun k => by cases k.2.2.2.1), HB.out⟩
 have HC3 := Hk.mk (E3.out.2 rfl)
 clear E3
 cases r4
 ·have HC4 : Hk (¬ (-1 ≤ q.v ∧ q.v ≤ 1099511627776)) := ⟨fun g => by have := E4.out.1 g; cases this⟩
  clear E4
  go_wp2_with (first | (go_at_call 20; (with_reducible refine (isplayer_any true q.f _ ⟨⟨fun _ => rfl, fun _ => HC1.out⟩⟩).mono ?_); rintro e z ⟨rfl, hz⟩; rw [hz]; clear hz z) | (go_at_call 20; (with_reducible refine (isplayer_any true q.t _ ⟨⟨fun _ => rfl, fun _ => HC2.out⟩⟩).mono ?_); rintro e z ⟨rfl, hz⟩; rw [hz]; clear hz z) | (go_at_call 55; (with_reducible refine (isdone_any true q.d _ ⟨⟨fun _ => rfl, fun _ => HC3.out⟩⟩).mono ?_); rintro e z ⟨rfl, hz⟩; rw [hz]; clear hz z) | (go_at_call 55; (with_reducible refine (isdone_any false q.v _ ⟨⟨fun g => absurd g HC4.out, fun g => by cases g⟩⟩).mono ?_); rintro e z ⟨rfl, hz⟩; rw [hz]; clear hz z))
  go_ret
  exact ⟨no_as HE.out (fun k => by cases k.2.2.2.2.1), HB.out⟩
 have HC4 := Hk.mk (E4.out.2 rfl)
 clear E4
 cases b2
 ·cases b3
  ·go_wp2_with (first | (go_at_call 20; (with_reducible refine (isplayer_any true q.f _ ⟨⟨fun _ => rfl, fun _ => HC1.out⟩⟩).mono ?_); rintro e z ⟨rfl, hz⟩; rw [hz]; clear hz z) | (go_at_call 20; (with_reducible refine (isplayer_any true q.t _ ⟨⟨fun _ => rfl, fun _ => HC2.out⟩⟩).mono ?_); rintro e z ⟨rfl, hz⟩; rw [hz]; clear hz z) | (go_at_call 55; (with_reducible refine (isdone_any true q.d _ ⟨⟨fun _ => rfl, fun _ => HC3.out⟩⟩).mono ?_); rintro e z ⟨rfl, hz⟩; rw [hz]; clear hz z) | (go_at_call 55; (with_reducible refine (isdone_any true q.v _ ⟨⟨fun _ => rfl, fun _ => HC4.out⟩⟩).mono ?_); rintro e z ⟨rfl, hz⟩; rw [hz]; clear hz z))
   go_ret
   exact ⟨no_as HE.out (fun k => by rcases k.2.2.2.2.2.1 with k | k; cases HF.out.2.1.2 k; cases HF.out.2.2.2 k), HB.out⟩
  ·go_wp2_with (first | (go_at_call 20; (with_reducible refine (isplayer_any true q.f _ ⟨⟨fun _ => rfl, fun _ => HC1.out⟩⟩).mono ?_); rintro e z ⟨rfl, hz⟩; rw [hz]; clear hz z) | (go_at_call 20; (with_reducible refine (isplayer_any true q.t _ ⟨⟨fun _ => rfl, fun _ => HC2.out⟩⟩).mono ?_); rintro e z ⟨rfl, hz⟩; rw [hz]; clear hz z) | (go_at_call 55; (with_reducible refine (isdone_any true q.d _ ⟨⟨fun _ => rfl, fun _ => HC3.out⟩⟩).mono ?_); rintro e z ⟨rfl, hz⟩; rw [hz]; clear hz z) | (go_at_call 55; (with_reducible refine (isdone_any true q.v _ ⟨⟨fun _ => rfl, fun _ => HC4.out⟩⟩).mono ?_); rintro e z ⟨rfl, hz⟩; rw [hz]; clear hz z) | (go_at_call 56; (with_reducible refine (vinput_as r5 q _ (HD.out _ HB.out) HSC.out E5).mono ?_); rintro e z ⟨rfl, hb⟩; have HB2 := Hk.mk (HB.out.trans (hb.mono HB.out.size)); have HP2 := Hk.mk (HPB.out.below hb); clear n0 n1 n2 n3 n4 n5 n6 n7 nl; clear hb HB HPB; have HB := HB2; have HPB := HP2; clear HB2 HP2; have n0 := HPB.out.c 0; have n1 := HPB.out.c 1; have n2 := HPB.out.c 2; have n3 := HPB.out.c 3; have n4 := HPB.out.c 4; have n5 := HPB.out.c 5; have n6 := HPB.out.c 6; have n7 := HPB.out.c 7; have nl := HPB.out.lt; simp at n0 n1 n2 n3 n4 n5 n6 n7))
   go_ret
   exact ⟨bool_as HE.out ⟨fun k => ⟨(by first | rfl | trivial), (by first | rfl | trivial), HF.out.1.1 (by first | rfl | trivial), (by first | rfl | trivial), (by first | rfl | trivial), .inr (HF.out.2.2.1 (by first | rfl | trivial)), k⟩, fun k => k.2.2.2.2.2.2⟩, HB.out⟩
 ·go_wp2_with (first | (go_at_call 20; (with_reducible refine (isplayer_any true q.f _ ⟨⟨fun _ => rfl, fun _ => HC1.out⟩⟩).mono ?_); rintro e z ⟨rfl, hz⟩; rw [hz]; clear hz z) | (go_at_call 20; (with_reducible refine (isplayer_any true q.t _ ⟨⟨fun _ => rfl, fun _ => HC2.out⟩⟩).mono ?_); rintro e z ⟨rfl, hz⟩; rw [hz]; clear hz z) | (go_at_call 55; (with_reducible refine (isdone_any true q.d _ ⟨⟨fun _ => rfl, fun _ => HC3.out⟩⟩).mono ?_); rintro e z ⟨rfl, hz⟩; rw [hz]; clear hz z) | (go_at_call 55; (with_reducible refine (isdone_any true q.v _ ⟨⟨fun _ => rfl, fun _ => HC4.out⟩⟩).mono ?_); rintro e z ⟨rfl, hz⟩; rw [hz]; clear hz z) | (go_at_call 56; (with_reducible refine (vinput_as r5 q _ (HD.out _ HB.out) HSC.out E5).mono ?_); rintro e z ⟨rfl, hb⟩; have HB2 := Hk.mk (HB.out.trans (hb.mono HB.out.size)); have HP2 := Hk.mk (HPB.out.below hb); clear n0 n1 n2 n3 n4 n5 n6 n7 nl; clear hb HB HPB; have HB := HB2; have HPB := HP2; clear HB2 HP2; have n0 := HPB.out.c 0; have n1 := HPB.out.c 1; have n2 := HPB.out.c 2; have n3 := HPB.out.c 3; have n4 := HPB.out.c 4; have n5 := HPB.out.c 5; have n6 := HPB.out.c 6; have n7 := HPB.out.c 7; have nl := HPB.out.lt; simp at n0 n1 n2 n3 n4 n5 n6 n7))
  go_ret
  exact ⟨bool_as HE.out ⟨fun k => ⟨(by first | rfl | trivial), (by first | rfl | trivial), HF.out.1.1 (by first | rfl | trivial), (by first | rfl | trivial), (by first | rfl | trivial), .inl (HF.out.2.1.1 (by first | rfl | trivial)), k⟩, fun k => k.2.2.2.2.2.2⟩, HB.out⟩
end Go.Proofs.Ytdpblimhfmfbnaa
namespace Go.Proofs.Ytdpblimhfmfbnaa
open Go.ChangeShapes Go.WideShapes Go.ChangeAt Go.RowKit Go.Deep
theorem zero_u64 (w : World) : (zeroValue 56).run Try.prog w = .ok (.int .u64 0) w := by kernel_rfl
theorem run_clear_u (w : World) (ty : TypeId) (b o c : Nat) (hc : ∀ j, j < 1 → (w.cell? ⟨b, o + j, none⟩).isSome = true) (hf : ∀ j, j < 1 → w.frozen? ⟨b, o + j, none⟩ = false) :
  (Builtin.clear_ #[26] ty #[.slice (some ⟨b, o, none⟩) 1 c]).run Try.prog w = .ok (.tuple #[]) (w.setCells b o [.int .u64 0]) := by
 have hst := run_storeCells_cells (P := Try.prog) b o [.int .u64 0] 0 w (by simpa using hc) (by simp [hf]) (by intro v hv'; simp at hv'; subst hv'; rfl)
 simp only [Nat.add_zero] at hst
 have hzc : (Builtin.zeroCells (Value.cells (.int .u64 0)) 1).toList = [.int .u64 0] := by simp [Builtin.zeroCells, Value.cells]
 simp [Builtin.clear_, run_underlying Try.underlying26, zero_u64, hzc, hst]
theorem flU_len (l : List Int) : (flt shU l).length = l.length := by rw [flt_U, List.length_map]
theorem flU_take (l : List Int) (k : Nat) : flt shU (l.take k) = (flt shU l).take k := by rw [flt_U, flt_U, List.map_take]
theorem flU_drop (l : List Int) (k : Nat) : flt shU (l.drop k) = (flt shU l).drop k := by rw [flt_U, flt_U, List.map_drop]
theorem own_delU {W X1 X2 : World} {base g n c i : Nat} {l : List Int} (h : Ow shU 56 W base (.slice (some ⟨g, 0, none⟩) n c) n l) (hi : i < n) (h1 : X1 = W.setCells g i (flt shU (l.drop (i + 1)))) (h2 : X2 = X1.setCells g (n - 1) [.int .u64 0]) :
  Ow shU 56 X2 base (.slice (some ⟨g, 0, none⟩) (n - 1) c) (n - 1) (l.take i ++ l.drop (i + 1)) := by
 have hl := h.len
 have hel : (l.take i ++ l.drop (i + 1)).length = n - 1 := by simp; omega
 obtain ⟨hrl, ⟨e, _⟩ | ⟨g', cap, cur, e, hg, hh, hc, hm, hs, ht⟩⟩ := h.row
 ·cases e
 injection e with e1 e2 e3
 injection e1 with e1
 injection e1 with e1
 subst e1 e3
 have hs : cur.size = c * 1 := hs
 have ht : cur.toList.take (n * 1) = flt shU l := ht
 obtain ⟨cur1, hh1, hs1⟩ := setCells_heap (flt shU (l.drop (i + 1))) i W cur hh
 rw [← h1] at hh1
 obtain ⟨cur2, hh2, hs2⟩ := setCells_heap [.int .u64 0] (n - 1) X1 cur1 hh1
 rw [← h2] at hh2
 have hdl : (flt shU (l.drop (i + 1))).length = n - (i + 1) := by rw [flU_len]; simp [hl]
 refine ⟨hel, by rw [flU_len, hel]; show n - 1 = (n - 1) * 1; omega, Or.inr ⟨g, c, cur2, rfl, hg, hh2, by omega, hm, by show cur2.size = c * 1; omega, ?_⟩⟩
 show cur2.toList.take ((n - 1) * 1) = _
 apply List.ext_getElem?
 intro t
 by_cases htl : t < n - 1
 ·rw [List.getElem?_take_of_lt (by omega), Array.getElem?_toList, ← cell_cur hh2 t, h2, World.cell?_setCells_out g [.int .u64 0] (n - 1) X1 ⟨g, t, none⟩ (fun _ _ => Or.inl htl), flt_app, flU_take]
  have htk : ((flt shU l).take i).length = i := by rw [List.length_take, flU_len]; omega
  by_cases hti : t < i
  ·rw [h1, World.cell?_setCells_out g _ i W ⟨g, t, none⟩ (fun _ _ => Or.inl hti), cell_cur hh t, List.getElem?_append_left (by omega), List.getElem?_take_of_lt hti, ← ht, List.getElem?_take_of_lt (by omega), Array.getElem?_toList]
  ·obtain ⟨d, rfl⟩ : ∃ d, t = i + d := ⟨t - i, by omega⟩
   have hd : d < (flt shU (l.drop (i + 1))).length := by omega
   rw [h1, World.cell?_setCells_in g _ i W (fun j hj => by rw [cell_cur hh]; rw [Array.getElem?_eq_getElem (by omega)]; rfl) d hd]
   rw [List.getElem?_append_right (by omega), htk, show i + d - i = d by omega, List.getElem?_eq_getElem hd]
 ·rw [List.getElem?_eq_none (by simp; omega), List.getElem?_eq_none (by rw [flU_len, hel]; omega)]
set_option maxRecDepth 100000 in
set_option maxHeartbeats 1600000 in
theorem delU (base g n c i : Nat) (l : List Int) (X : World) (h : Ow shU 56 X base (.slice (some ⟨g, 0, none⟩) n c) n l) (hn : n ≤ 1099511627776) (hi : i < n) :
  Calls Try.prog 39 #[.slice (some ⟨g, 0, none⟩) n c, .int .i64 (i : Int), .int .i64 ((i : Int) + 1)] X fun e z => e = .returned (.slice (some ⟨g, 0, none⟩) (n - 1) c) ∧ Ow shU 56 z base (.slice (some ⟨g, 0, none⟩) (n - 1) c) (n - 1) (l.take i ++ l.drop (i + 1)) ∧ Below base X z ∧ Fr (fun j => j = g) X z := by
 have hl := h.len
 obtain ⟨hnc, -, -⟩ := h.fin
 obtain ⟨i0, hi0, hz0, hz1, hz2⟩ := info_parts info_u
 obtain ⟨cur, hh, hs, hcm, hbase⟩ : ∃ cur : Array Value, X.heap[g]? = some (.cells cur 56 (0, 0)) ∧ cur.size = c * 1 ∧ c ≤ maxLen ∧ base ≤ g := by
  rcases h.row.2 with ⟨e, _⟩ | ⟨g', cap, cur, e, hb, hh, _, hm, hs, _⟩
  ·cases e
  ·injection e with e1 e2 e3
   injection e1 with e1
   injection e1 with e1
   subst e1 e3
   exact ⟨cur, hh, hs, hm, hb⟩
 have hcm' : c ≤ 9223372036854775807 := by unfold maxLen at hcm; omega
 have t0 : (0 : Int) ≤ (i : Int) := by omega
 have t1 : (i : Int) + 1 ≤ (n : Int) := by omega
 have t2 : (i : Int) + 1 ≤ (c : Int) := by omega
 have t3 : (n : Int) ≤ (c : Int) := by omega
 have t4 : (i : Int) ≤ (c : Int) := by omega
 have t5 : (0 : Int) ≤ (i : Int) + 1 := by omega
 obtain ⟨news, hnews⟩ : ∃ news, news = flt shU (l.drop (i + 1)) := ⟨_, rfl⟩
 have hlen : news.length = n - (i + 1) := by rw [hnews, flU_len]; simp [hl]
 have hcell := own_holds h.row
 obtain ⟨A, hA, hsrc⟩ : ∃ A : Addr, (if c = i + 1 then some (⟨g, 0, none⟩ : Addr) else some ⟨g, i + 1, none⟩) = some A ∧ Hk (∀ t u, news[t]? = some u → X.drew.cell? (A.add t) = some u) := by
  by_cases hci : c = i + 1
  ·refine ⟨⟨g, 0, none⟩, by simp [hci], ⟨fun t u hu => ?_⟩⟩
   have : news.length = 0 := by rw [hlen, show n - (i + 1) = 0 by omega]
   rw [List.length_eq_zero_iff.1 this] at hu
   simp at hu
  ·refine ⟨⟨g, i + 1, none⟩, by simp [hci], ⟨fun t u hu => ?_⟩⟩
   rw [hnews, flU_drop, List.getElem?_drop] at hu
   have := hcell (i + 1 + t) u hu
   rw [Nat.zero_add] at this
   rw [aq_plus]
   show X.cell? ⟨g, i + 1 + t, none⟩ = some u
   exact this
 have s1 : Hk (news.length = (n - (i + 1)) * 1) := ⟨by rw [hlen]; omega⟩
 have s2 : Hk (∀ u ∈ news, u.oneCell' = true) := ⟨by rw [hnews]; exact flt_one shU _⟩
 have s3 : Hk (∀ t, t < news.length → (X.drew.cell? ⟨g, 0 + i * 1 + t, none⟩).isSome = true ∧ X.drew.frozen? ⟨g, 0 + i * 1 + t, none⟩ = false) := by
  refine ⟨fun t ht => ?_⟩
  rw [hlen] at ht
  refine ⟨?_, froz_cur (w := X) hh _⟩
  show (X.cell? _).isSome = true
  rw [cell_cur hh, Array.getElem?_eq_getElem (by omega)]
  rfl
 obtain ⟨W1, hW1⟩ : ∃ W1, W1 = X.drew.setCells g (0 + i * 1) news := ⟨_, rfl⟩
 obtain ⟨cur1, hh1, hs1⟩ := setCells_heap news (0 + i * 1) X.drew cur hh
 rw [← hW1] at hh1
 have hcl : ∀ ty, (Builtin.clear_ #[26] ty #[.slice (some ⟨g, i + (n - (i + 1)), none⟩) (n - (i + (n - (i + 1)))) (c - (i + (n - (i + 1))))]).run Try.prog W1 = .ok (.tuple #[]) (W1.setCells g (i + (n - (i + 1))) [.int .u64 0]) := fun ty => by
  rw [show n - (i + (n - (i + 1))) = 1 by omega]
  exact run_clear_u W1 ty g _ _ (fun j hj => by rw [cell_cur hh1, Array.getElem?_eq_getElem (by omega)]; rfl) (fun j hj => froz_cur hh1 _)
 have FIN : Hk (Ow shU 56 (W1.setCells g (i + (n - (i + 1))) [.int .u64 0]) base (.slice (some ⟨g, 0, none⟩) (n - 1) c) (n - 1) (l.take i ++ l.drop (i + 1)) ∧ Below base X (W1.setCells g (i + (n - (i + 1))) [.int .u64 0]) ∧ Fr (fun j => j = g) X (W1.setCells g (i + (n - (i + 1))) [.int .u64 0])) := by
  refine ⟨⟨own_delU (W := X.drew) ⟨h.len, h.row⟩ hi (X1 := W1) (by rw [hW1, hnews, Nat.zero_add, Nat.mul_one]) (by rw [show i + (n - (i + 1)) = n - 1 by omega]), ?_⟩⟩
  rw [hW1]
  exact ⟨Lib.below_setCells g hbase _ _ (Lib.below_setCells g hbase _ _ (Below.refl _ _).drew), Fr.setCells (M := fun j => j = g) rfl _ _ (Fr.setCells (M := fun j => j = g) rfl _ _ (Fr.refl (fun j => j = g) X).drew)⟩
 have HW : Hk (W1 = X.drew.setCells g (0 + i * 1) news) := ⟨hW1⟩
 have HN1 : Hk (n - 1 = i + (n - (i + 1))) := ⟨by omega⟩
 have hic : i ≤ c := by omega
 have hjc : i + 1 ≤ c := by omega
 clear hW1 hh1 hs1 hh hs cur1 cur hnews hlen hcell h
 go_enter Try.func39, Try.ntmps39
 go_upto_region 5 with (fail)
 go_region_law (refine step_append_room rfl (.tmp 22) (.tmp 25) 26 rfl 56 i0 1 Try.underlying26 hi0 hz1 g 0 i c (by simp [Act.eval, Act.put]) A (n - (i + 1)) (c - (i + 1)) news (by simp [Act.eval, Act.put]) s1.out hsrc.out s2.out (by omega) s3.out ?_; rw [← HW.out])
 go_wp2
 go_ret
 exact ⟨by rw [HN1.out]; rfl, FIN.out.1, FIN.out.2.1, FIN.out.2.2⟩
theorem delU_first (base g n c : Nat) (l : List Int) (X : World) (h : Ow shU 56 X base (.slice (some ⟨g, 0, none⟩) n c) n l) (hn : n ≤ 1099511627776) (hi : 0 < n) :
  Calls Try.prog 39 #[.slice (some ⟨g, 0, none⟩) n c, .int .i64 0, .int .i64 1] X fun e z => e = .returned (.slice (some ⟨g, 0, none⟩) (n - 1) c) ∧ Ow shU 56 z base (.slice (some ⟨g, 0, none⟩) (n - 1) c) (n - 1) (l.drop 1) ∧ Below base X z ∧ Fr (fun j => j = g) X z := delU base g n c 0 l X h hn hi
end Go.Proofs.Ytdpblimhfmfbnaa
namespace Go.Proofs.Ytdpblimhfmfbnaa
open Go.ChangeShapes Go.WideShapes Go.ChangeAt Go.RowKit Go.Deep
structure Sj (B : Nat) (w z : World) : Prop where
 s : Si B w z
 p : ∀ a n c u, OwnI w B (.slice a n c) n u → ∃ u', OwnI z B (.slice a n c) n u'
 ty : ∀ (j : Nat) (cur : Array Value) (T : TypeId) fr, w.heap[j]? = some (Obj.cells cur T fr) → T ≠ 3 → T ≠ 50 → T ≠ 55 → z.heap[j]? = some (Obj.cells cur T fr)
theorem Sj.refl (B : Nat) (w : World) : Sj B w w := ⟨Si.refl _ _, fun a n c u h => ⟨u, h⟩, fun _ _ _ _ h _ _ _ => h⟩
theorem Sj.trans {B : Nat} {w y z : World} (h : Sj B w y) (k : Sj B y z) : Sj B w z := ⟨h.s.trans k.s, fun a n c u o => by
 obtain ⟨u', o'⟩ := h.p a n c u o
 exact k.p a n c u' o', fun j cur T fr e n1 n2 n3 => k.ty j cur T fr (h.ty j cur T fr e n1 n2 n3) n1 n2 n3⟩
theorem Sj.of_sc {B : Nat} {w z : World} (h : Sc B w z) : Sj B w z := ⟨Si.of_sc h, h.p, fun j cur T fr e n1 n2 _ => h.ty j cur T fr e n1 n2⟩
theorem Sj.of_all {B : Nat} {w z : World} (hB : B ≤ w.heap.size) (h : Below w.heap.size w z) : Sj B w z := Sj.of_sc (Sc.of_all hB h)
theorem Sj.setI {B n c g : Nat} {w : World} {l : List Iv} (h : Ow shI 55 w B (.slice (some ⟨g, 0, none⟩) n c) n l) (k : Nat) (y : Int) : Sj B w (w.setCells g (k * 3) (zrI y).cs) := by
 obtain ⟨cur, fr, e⟩ := h.typ (j := g) rfl
 have hF : Fr (fun j => j = g) w (w.setCells g (k * 3) (zrI y).cs) := Fr.setCells (M := fun j => j = g) rfl _ _ (Fr.refl (fun j => j = g) w)
 have hI : ∀ (T : TypeId), T ≠ 55 → ∀ j cur fr, w.heap[j]? = some (.cells cur T fr) → ¬ j = g := fun T hT j cur' fr' e' hj => by
  subst hj
  rw [e] at e'
  injection e' with e'
  injection e' with _ e'
  exact hT e'.symm
 refine ⟨Si.setI h k y, fun a n' c' u o => ⟨u, Fr.owni o hF fun j hj => ?_⟩, fun j cur' T fr' e' _ _ n3 => ?_⟩
 ·obtain ⟨cur', fr', e'⟩ := o.typ hj
  exact hI _ (by decide) j cur' fr' e'
 ·rw [hF.block j (cells_lt e') (hI T n3 j cur' fr' e')]
  exact e'
theorem Sj.ow {α : Type} {S : Sh α} {T : TypeId} {B n : Nat} {v : Value} {w z : World} {l : List α} (h : Sj B w z) (o : Ow S T w B v n l) (ne : T ≠ 3) (ne2 : T ≠ 50) (ne3 : T ≠ 55) : Ow S T z B v n l := ⟨o.len, by
 refine ⟨o.row.1, ?_⟩
 rcases o.row.2 with e | ⟨g, cap, cur, e, hg, hh, r⟩
 ·exact .inl e
 ·exact .inr ⟨g, cap, cur, e, hg, h.ty _ _ _ _ hh ne ne2 ne3, r⟩⟩
end Go.Proofs.Ytdpblimhfmfbnaa
namespace Go.Proofs.Ytdpblimhfmfbnaa
open Go.ChangeShapes Go.WideShapes Go.ChangeAt Go.RowKit Go.Deep
theorem shn_of {w : World} {B n c : Nat} {a : Option Addr} (hn : n ≤ 1048576) (h : ∃ u, OwnI w B (.slice a n c) n u) : ShN w B a n c := ⟨hn, h.imp fun u o => .inl o⟩
end Go.Proofs.Ytdpblimhfmfbnaa
namespace Go.Proofs.Ytdpblimhfmfbnaa
open Go.ChangeShapes Go.WideShapes Go.ChangeAt Go.RowKit Go.Deep
theorem Qv.re {α : Type} {S : Sh α} {w : World} {B N n : Nat} {a : Option Addr} {l : List α} (h : Qv S w B a n l) (h' : ∃ W0, Qv S W0 N a n l) : Qv S w N a n l := ⟨h.len, fun hn => by
 obtain ⟨W0, h'⟩ := h'
 obtain ⟨b, off, e, hb, hc⟩ := h.rd hn
 obtain ⟨b', off', e', hb', _⟩ := h'.rd hn
 rw [e] at e'
 injection e' with e'
 injection e' with e1 e2
 subst e1
 exact ⟨b, off, e, hb', hc⟩⟩
theorem Nq.re {w : World} {B N n : Nat} {a : Option Addr} {l : List Int} (h : Nq w B a n l) (h' : ∃ W0, Nq W0 N a n l) : Nq w N a n l := ⟨h.len, fun hn => by
 obtain ⟨W0, h'⟩ := h'
 obtain ⟨b, off, e, hb, hc⟩ := h.rd hn
 obtain ⟨b', off', e', hb', _⟩ := h'.rd hn
 rw [e] at e'
 injection e' with e'
 injection e' with e1 e2
 subst e1
 exact ⟨b, off, e, hb', hc⟩⟩
theorem CmD.re {w : World} {B N n : Nat} {a : Option Addr} {l : List Cv} (h : CmD w B a n l) (h' : ∃ W0, CmD W0 N a n l) : CmD w N a n l := by
 obtain ⟨W0, h'⟩ := h'
 exact ⟨h.q.re ⟨W0, h'.q⟩, fun x hx => (h.u x hx).re ⟨W0, h'.u x hx⟩⟩
theorem InD.re {w : World} {B N n : Nat} {a : Option Addr} {l : List Iv} (h : InD w B a n l) (h' : ∃ W0, InD W0 N a n l) : InD w N a n l := by
 obtain ⟨W0, h'⟩ := h'
 exact ⟨h.q.re ⟨W0, h'.q⟩, fun x hx => (h.u x hx).re ⟨W0, h'.u x hx⟩⟩
theorem chn_lt {w : World} {P B : Nat} (q : Pv) (h : P < B) : Fr (fun j => j < B) w (((((((((((World.setCell w ⟨P, 0, none⟩ (.int .i64 q.i)).setCell ⟨P, 1, none⟩ (.int .i64 q.n)).setCell ⟨P, 2, none⟩ (.int .i64 q.d)).setCell ⟨P, 3, none⟩ (.int .i64 q.t)).setCell ⟨P, 4, none⟩ (.int .i64 q.s)).setCell ⟨P, 5, none⟩ (.slice q.ma q.mn q.mc)).setCell ⟨P, 6, none⟩ (.slice q.la q.ln q.lc)).setCell ⟨P, 7, none⟩ (.slice q.ha q.hn q.hc)).setCell ⟨P, 8, none⟩ (.slice q.aa q.an q.ac)).setCell ⟨P, 9, none⟩ (.slice q.xa q.xn q.xc)).setCell ⟨P, 10, none⟩ (.bool q.b)) := by
 iterate 11 refine Fr.setCell (p := ⟨P, _, none⟩) ?_ (fun _ => h) _
 exact Fr.refl _ _
theorem chn_bl {w0 w : World} {P B : Nat} (h : Below B w0 w) (q : Pv) (hP : B ≤ P) : Below B w0 (((((((((((World.setCell w ⟨P, 0, none⟩ (.int .i64 q.i)).setCell ⟨P, 1, none⟩ (.int .i64 q.n)).setCell ⟨P, 2, none⟩ (.int .i64 q.d)).setCell ⟨P, 3, none⟩ (.int .i64 q.t)).setCell ⟨P, 4, none⟩ (.int .i64 q.s)).setCell ⟨P, 5, none⟩ (.slice q.ma q.mn q.mc)).setCell ⟨P, 6, none⟩ (.slice q.la q.ln q.lc)).setCell ⟨P, 7, none⟩ (.slice q.ha q.hn q.hc)).setCell ⟨P, 8, none⟩ (.slice q.aa q.an q.ac)).setCell ⟨P, 9, none⟩ (.slice q.xa q.xn q.xc)).setCell ⟨P, 10, none⟩ (.bool q.b)) := by
 iterate 11 refine Below.setCell ?_ (p := ⟨P, _, none⟩) hP _
 exact h
structure LayP (z : World) (q : Pv) (N3 N4 : Nat) : Prop where
 m : InD z N3 q.ma q.mn q.ml
 l : InD z N3 q.la q.ln q.ll
 h : OwnI z N3 (.slice q.ha q.hn q.hc) q.hn q.hl
 hq : Nq z N4 q.ha q.hn q.hl
 a : OwnI z N4 (.slice q.aa q.an q.ac) q.an q.al
 le : N3 ≤ N4
 dj : ∀ j, Value.ownBlock (.slice q.ma q.mn q.mc) = some j → ¬ Value.ownBlock (.slice q.la q.ln q.lc) = some j
def CpQ (w : World) (p : Pv) (e : Ending) (z : World) : Prop := ∃ (q : Pv) (N3 N4 : Nat), e = .returned (.agg (jjP q)) ∧ PvO z w.heap.size q ∧ LayP z q N3 N4 ∧ w.heap.size ≤ N3 ∧ q.ab = p.ab ∧ q.mn = p.mn ∧ q.ln = p.ln ∧ q.hn = p.hn ∧ q.an = p.an ∧ q.xn = p.xn ∧ Below w.heap.size w z
set_option maxRecDepth 100000 in
set_option maxHeartbeats 3200000 in
theorem cpq_any (p : Pv) (w : World) (h : PvD w w.heap.size p) (hs : PvS p) :
  Calls Try.prog 27 #[.agg (jjP p)] w (CpQ w p) := by
 have HH := Hk.mk h
 have HS := Hk.mk hs
 have hhn : p.hn ≤ 1048576 := hs.h
 have han : p.an ≤ 1048576 := hs.a
 have hxn : p.xn ≤ 1048576 := hs.x
 have HB : Hk (Below w.heap.size w ((w.alloc (.cells (jjP p) 28)).alloc (.cells jjZ 28))) := ⟨((Below.refl _ _).alloc (Nat.le_refl _) _).alloc (by simp) _⟩
 have HZ : Hk (Bk ((w.alloc (.cells (jjP p) 28)).alloc (.cells jjZ 28)) (w.heap.size + 1) jjZ) := ⟨by have := Bk.new (w.alloc (.cells (jjP p) 28)) jjZ 28; simpa using this⟩
 have HX : Hk (Bk ((w.alloc (.cells (jjP p) 28)).alloc (.cells jjZ 28)) w.heap.size (jjP p)) := ⟨(Bk.new w (jjP p) 28).al _⟩
 have hsz : w.heap.size + 2 ≤ ((w.alloc (.cells (jjP p) 28)).alloc (.cells jjZ 28)).heap.size := by simp
 clear h hs
 go_enter Try.func27, Try.ntmps27
 go_upto_region 1 with fail
 generalize ((w.alloc (.cells (jjP p) 28)).alloc (.cells jjZ 28)) = V at *
 have HSV := Hk.mk hsz
 clear hsz
 have r5 := HX.out.c 5
 have rl := HX.out.lt
 try simp at r5
 go_upto_region 2 with (go_at_call 51; (with_reducible refine (cpins_any p.ma p.mn p.mc p.ml _ (HH.out.later HB.out).m HS.out.m).mono ?_); rintro e z ⟨v, Q1, rfl, ho, hab, hb⟩; obtain ⟨a1, c1, rfl, -⟩ := ho.o.form; have HA1 := Hk.mk hab; clear hab; have HO1 : Hk (OwN z (w.heap.size + 2) (.slice a1 p.mn c1) p.mn Q1) := ⟨(ho).weak (HSV.out)⟩; have HB2 := Hk.mk (HB.out.trans (hb.mono HB.out.size)); have HX2 := Hk.mk (HX.out.below hb); have HZ2 := Hk.mk (HZ.out.below hb); have cx := HX2.out.c 5; have fx := HX2.out.f 5; have lx := HX2.out.lt; have HSZ := Hk.mk (Nat.le_trans HSV.out hb.size); clear ho hb)
 have HX3 : Hk (Bk (z.setCell ⟨w.heap.size, 5, none⟩ (.slice a1 p.mn c1)) w.heap.size #[.int .i64 p.i, .int .i64 p.n, .int .i64 p.d, .int .i64 p.t, .int .i64 p.s, .slice a1 p.mn c1, .slice p.la p.ln p.lc, .slice p.ha p.hn p.hc, .slice p.aa p.an p.ac, .slice p.xa p.xn p.xc, .bool p.b]) := ⟨HX2.out.set 5 (.slice a1 p.mn c1)⟩
 have HZ3 : Hk (Bk (z.setCell ⟨w.heap.size, 5, none⟩ (.slice a1 p.mn c1)) (w.heap.size + 1) jjZ) := ⟨HZ2.out.oth (by omega) 5 (.slice a1 p.mn c1)⟩
 have HB3 : Hk (Below w.heap.size w (z.setCell ⟨w.heap.size, 5, none⟩ (.slice a1 p.mn c1))) := ⟨HB2.out.setCell (p := ⟨w.heap.size, 5, none⟩) (by show w.heap.size ≤ w.heap.size; omega) (.slice a1 p.mn c1)⟩
 have HF3 : Hk (Fr (fun j => j < (w.heap.size + 2)) z (z.setCell ⟨w.heap.size, 5, none⟩ (.slice a1 p.mn c1))) := ⟨Fr.setCell (p := ⟨w.heap.size, 5, none⟩) (Fr.refl _ z) (fun _ => by show w.heap.size < (w.heap.size + 2); omega) (.slice a1 p.mn c1)⟩
 replace HO1 : Hk (OwN (z.setCell ⟨w.heap.size, 5, none⟩ (.slice a1 p.mn c1)) (w.heap.size + 2) (.slice a1 p.mn c1) p.mn Q1) := ⟨OwN.up HO1.out HF3.out (fun j hj e => by omega)⟩
 have HSV2 : Hk ((w.heap.size + 2) ≤ (z.setCell ⟨w.heap.size, 5, none⟩ (.slice a1 p.mn c1)).heap.size) := ⟨by simpa using HSZ.out⟩
 clear HX HZ HB cx fx lx r5 rl HX2 HZ2 HB2 HSZ HSV HF3
 generalize (z.setCell ⟨w.heap.size, 5, none⟩ (.slice a1 p.mn c1)) = V2 at *
 obtain ⟨HX, HZ, HB, HSV⟩ : (Hk (Bk V2 w.heap.size #[.int .i64 p.i, .int .i64 p.n, .int .i64 p.d, .int .i64 p.t, .int .i64 p.s, .slice a1 p.mn c1, .slice p.la p.ln p.lc, .slice p.ha p.hn p.hc, .slice p.aa p.an p.ac, .slice p.xa p.xn p.xc, .bool p.b])) ∧ (Hk (Bk V2 (w.heap.size + 1) jjZ)) ∧ (Hk (Below w.heap.size w V2)) ∧ (Hk ((w.heap.size + 2) ≤ V2.heap.size)) := ⟨HX3, HZ3, HB3, HSV2⟩
 clear HX3 HZ3 HB3 HSV2 V z
 rename World => V
 have HMJ : Hk (∀ j, Value.ownBlock (.slice a1 p.mn c1) = some j → j < V.heap.size) := ⟨fun j hj => (HO1.out.o.lt j hj).2⟩
 have r6 := HX.out.c 6
 have rl := HX.out.lt
 try simp at r6
 go_upto_region 3 with (go_at_call 51; (with_reducible refine (cpins_any p.la p.ln p.lc p.ll _ (HH.out.later HB.out).l HS.out.l).mono ?_); rintro e z ⟨v, Q2, rfl, ho, hab, hb⟩; obtain ⟨a2, c2, rfl, -⟩ := ho.o.form; have HA2 := Hk.mk hab; clear hab; have HO2 : Hk (OwN z (w.heap.size + 2) (.slice a2 p.ln c2) p.ln Q2) := ⟨(ho).weak (HSV.out)⟩; have HDJ : Hk (∀ j, Value.ownBlock (.slice a1 p.mn c1) = some j → ¬ Value.ownBlock (.slice a2 p.ln c2) = some j) := ⟨fun j h1 h2 => by have h3 := HMJ.out j h1; have h4 := (ho.o.lt j h2).1; omega⟩; clear HMJ; replace HO1 := Hk.mk (HO1.out.below hb); have HB2 := Hk.mk (HB.out.trans (hb.mono HB.out.size)); have HX2 := Hk.mk (HX.out.below hb); have HZ2 := Hk.mk (HZ.out.below hb); have cx := HX2.out.c 6; have fx := HX2.out.f 6; have lx := HX2.out.lt; have HSZ := Hk.mk (Nat.le_trans HSV.out hb.size); clear ho hb)
 have HX3 : Hk (Bk (z.setCell ⟨w.heap.size, 6, none⟩ (.slice a2 p.ln c2)) w.heap.size #[.int .i64 p.i, .int .i64 p.n, .int .i64 p.d, .int .i64 p.t, .int .i64 p.s, .slice a1 p.mn c1, .slice a2 p.ln c2, .slice p.ha p.hn p.hc, .slice p.aa p.an p.ac, .slice p.xa p.xn p.xc, .bool p.b]) := ⟨HX2.out.set 6 (.slice a2 p.ln c2)⟩
 have HZ3 : Hk (Bk (z.setCell ⟨w.heap.size, 6, none⟩ (.slice a2 p.ln c2)) (w.heap.size + 1) jjZ) := ⟨HZ2.out.oth (by omega) 6 (.slice a2 p.ln c2)⟩
 have HB3 : Hk (Below w.heap.size w (z.setCell ⟨w.heap.size, 6, none⟩ (.slice a2 p.ln c2))) := ⟨HB2.out.setCell (p := ⟨w.heap.size, 6, none⟩) (by show w.heap.size ≤ w.heap.size; omega) (.slice a2 p.ln c2)⟩
 have HF3 : Hk (Fr (fun j => j < (w.heap.size + 2)) z (z.setCell ⟨w.heap.size, 6, none⟩ (.slice a2 p.ln c2))) := ⟨Fr.setCell (p := ⟨w.heap.size, 6, none⟩) (Fr.refl _ z) (fun _ => by show w.heap.size < (w.heap.size + 2); omega) (.slice a2 p.ln c2)⟩
 replace HO1 : Hk (OwN (z.setCell ⟨w.heap.size, 6, none⟩ (.slice a2 p.ln c2)) (w.heap.size + 2) (.slice a1 p.mn c1) p.mn Q1) := ⟨OwN.up HO1.out HF3.out (fun j hj e => by omega)⟩
 replace HO2 : Hk (OwN (z.setCell ⟨w.heap.size, 6, none⟩ (.slice a2 p.ln c2)) (w.heap.size + 2) (.slice a2 p.ln c2) p.ln Q2) := ⟨OwN.up HO2.out HF3.out (fun j hj e => by omega)⟩
 have HSV2 : Hk ((w.heap.size + 2) ≤ (z.setCell ⟨w.heap.size, 6, none⟩ (.slice a2 p.ln c2)).heap.size) := ⟨by simpa using HSZ.out⟩
 clear HX HZ HB cx fx lx r6 rl HX2 HZ2 HB2 HSZ HSV HF3
 generalize (z.setCell ⟨w.heap.size, 6, none⟩ (.slice a2 p.ln c2)) = V2 at *
 obtain ⟨HX, HZ, HB, HSV⟩ : (Hk (Bk V2 w.heap.size #[.int .i64 p.i, .int .i64 p.n, .int .i64 p.d, .int .i64 p.t, .int .i64 p.s, .slice a1 p.mn c1, .slice a2 p.ln c2, .slice p.ha p.hn p.hc, .slice p.aa p.an p.ac, .slice p.xa p.xn p.xc, .bool p.b])) ∧ (Hk (Bk V2 (w.heap.size + 1) jjZ)) ∧ (Hk (Below w.heap.size w V2)) ∧ (Hk ((w.heap.size + 2) ≤ V2.heap.size)) := ⟨HX3, HZ3, HB3, HSV2⟩
 clear HX3 HZ3 HB3 HSV2 V z
 rename World => V
 obtain ⟨N3, hN3⟩ : ∃ N, N = V.heap.size := ⟨_, rfl⟩
 have HN3 : Hk ((w.heap.size + 2) ≤ N3) := ⟨by rw [hN3]; exact HSV.out⟩
 have HD1 : Hk (∃ W0, InD W0 N3 a1 p.mn Q1) := ⟨V, by rw [hN3]; exact HO1.out.d⟩
 have HD2 : Hk (∃ W0, InD W0 N3 a2 p.ln Q2) := ⟨V, by rw [hN3]; exact HO2.out.d⟩
 clear HSV
 have HSV : Hk (N3 ≤ V.heap.size) := ⟨by rw [hN3]; exact Nat.le_refl _⟩
 clear hN3
 have r7 := HX.out.c 7
 have rl := HX.out.lt
 try simp at r7
 go_upto_region 4 with (go_at_call 52; (with_reducible refine (clonez_any p.ha p.hn p.hc V.heap.size p.hl _ (HH.out.later HB.out).h.qv (Nat.le_refl _) (by omega)).mono ?_); rintro e z ⟨v, rfl, ho, hb⟩; obtain ⟨a3, c3, rfl, -⟩ := ho.form; have HO3 : Hk (OwnI z N3 (.slice a3 p.hn c3) p.hn p.hl) := ⟨(ho.owni).weak (HSV.out)⟩; replace HO1 := Hk.mk (HO1.out.below hb); replace HO2 := Hk.mk (HO2.out.below hb); have HB2 := Hk.mk (HB.out.trans (hb.mono HB.out.size)); have HX2 := Hk.mk (HX.out.below hb); have HZ2 := Hk.mk (HZ.out.below hb); have cx := HX2.out.c 7; have fx := HX2.out.f 7; have lx := HX2.out.lt; have HSZ := Hk.mk (Nat.le_trans HSV.out hb.size); clear ho hb)
 have HX3 : Hk (Bk (z.setCell ⟨w.heap.size, 7, none⟩ (.slice a3 p.hn c3)) w.heap.size #[.int .i64 p.i, .int .i64 p.n, .int .i64 p.d, .int .i64 p.t, .int .i64 p.s, .slice a1 p.mn c1, .slice a2 p.ln c2, .slice a3 p.hn c3, .slice p.aa p.an p.ac, .slice p.xa p.xn p.xc, .bool p.b]) := ⟨HX2.out.set 7 (.slice a3 p.hn c3)⟩
 have HZ3 : Hk (Bk (z.setCell ⟨w.heap.size, 7, none⟩ (.slice a3 p.hn c3)) (w.heap.size + 1) jjZ) := ⟨HZ2.out.oth (by omega) 7 (.slice a3 p.hn c3)⟩
 have HB3 : Hk (Below w.heap.size w (z.setCell ⟨w.heap.size, 7, none⟩ (.slice a3 p.hn c3))) := ⟨HB2.out.setCell (p := ⟨w.heap.size, 7, none⟩) (by show w.heap.size ≤ w.heap.size; omega) (.slice a3 p.hn c3)⟩
 have HF3 : Hk (Fr (fun j => j < (w.heap.size + 2)) z (z.setCell ⟨w.heap.size, 7, none⟩ (.slice a3 p.hn c3))) := ⟨Fr.setCell (p := ⟨w.heap.size, 7, none⟩) (Fr.refl _ z) (fun _ => by show w.heap.size < (w.heap.size + 2); omega) (.slice a3 p.hn c3)⟩
 replace HO1 : Hk (OwN (z.setCell ⟨w.heap.size, 7, none⟩ (.slice a3 p.hn c3)) (w.heap.size + 2) (.slice a1 p.mn c1) p.mn Q1) := ⟨OwN.up HO1.out HF3.out (fun j hj e => by omega)⟩
 replace HO2 : Hk (OwN (z.setCell ⟨w.heap.size, 7, none⟩ (.slice a3 p.hn c3)) (w.heap.size + 2) (.slice a2 p.ln c2) p.ln Q2) := ⟨OwN.up HO2.out HF3.out (fun j hj e => by omega)⟩
 replace HO3 : Hk (OwnI (z.setCell ⟨w.heap.size, 7, none⟩ (.slice a3 p.hn c3)) N3 (.slice a3 p.hn c3) p.hn p.hl) := ⟨Fr.owni HO3.out HF3.out (fun j hj e => by have := (HO3.out.lt j hj).1; have := HN3.out; omega)⟩
 have HSV2 : Hk (N3 ≤ (z.setCell ⟨w.heap.size, 7, none⟩ (.slice a3 p.hn c3)).heap.size) := ⟨by simpa using HSZ.out⟩
 clear HX HZ HB cx fx lx r7 rl HX2 HZ2 HB2 HSZ HSV HF3
 generalize (z.setCell ⟨w.heap.size, 7, none⟩ (.slice a3 p.hn c3)) = V2 at *
 obtain ⟨HX, HZ, HB, HSV⟩ : (Hk (Bk V2 w.heap.size #[.int .i64 p.i, .int .i64 p.n, .int .i64 p.d, .int .i64 p.t, .int .i64 p.s, .slice a1 p.mn c1, .slice a2 p.ln c2, .slice a3 p.hn c3, .slice p.aa p.an p.ac, .slice p.xa p.xn p.xc, .bool p.b])) ∧ (Hk (Bk V2 (w.heap.size + 1) jjZ)) ∧ (Hk (Below w.heap.size w V2)) ∧ (Hk (N3 ≤ V2.heap.size)) := ⟨HX3, HZ3, HB3, HSV2⟩
 clear HX3 HZ3 HB3 HSV2 V z
 rename World => V
 obtain ⟨N4, hN4⟩ : ∃ N, N = V.heap.size := ⟨_, rfl⟩
 have HN4 : Hk (N3 ≤ N4) := ⟨by rw [hN4]; exact HSV.out⟩
 have HD3 : Hk (∃ W0, Nq W0 N4 a3 p.hn p.hl) := ⟨V, by rw [hN4]; exact HO3.out.nq2⟩
 clear HSV
 have HSV : Hk (N4 ≤ V.heap.size) := ⟨by rw [hN4]; exact Nat.le_refl _⟩
 clear hN4
 have r8 := HX.out.c 8
 have rl := HX.out.lt
 try simp at r8
 go_upto_region 5 with (go_at_call 52; (with_reducible refine (clonez_any p.aa p.an p.ac V.heap.size p.al _ (HH.out.later HB.out).a.qv (Nat.le_refl _) (by omega)).mono ?_); rintro e z ⟨v, rfl, ho, hb⟩; obtain ⟨a4, c4, rfl, -⟩ := ho.form; have HO4 : Hk (OwnI z N4 (.slice a4 p.an c4) p.an p.al) := ⟨(ho.owni).weak (HSV.out)⟩; replace HO1 := Hk.mk (HO1.out.below hb); replace HO2 := Hk.mk (HO2.out.below hb); replace HO3 := Hk.mk (HO3.out.below hb); have HB2 := Hk.mk (HB.out.trans (hb.mono HB.out.size)); have HX2 := Hk.mk (HX.out.below hb); have HZ2 := Hk.mk (HZ.out.below hb); have cx := HX2.out.c 8; have fx := HX2.out.f 8; have lx := HX2.out.lt; have HSZ := Hk.mk (Nat.le_trans HSV.out hb.size); clear ho hb)
 have HX3 : Hk (Bk (z.setCell ⟨w.heap.size, 8, none⟩ (.slice a4 p.an c4)) w.heap.size #[.int .i64 p.i, .int .i64 p.n, .int .i64 p.d, .int .i64 p.t, .int .i64 p.s, .slice a1 p.mn c1, .slice a2 p.ln c2, .slice a3 p.hn c3, .slice a4 p.an c4, .slice p.xa p.xn p.xc, .bool p.b]) := ⟨HX2.out.set 8 (.slice a4 p.an c4)⟩
 have HZ3 : Hk (Bk (z.setCell ⟨w.heap.size, 8, none⟩ (.slice a4 p.an c4)) (w.heap.size + 1) jjZ) := ⟨HZ2.out.oth (by omega) 8 (.slice a4 p.an c4)⟩
 have HB3 : Hk (Below w.heap.size w (z.setCell ⟨w.heap.size, 8, none⟩ (.slice a4 p.an c4))) := ⟨HB2.out.setCell (p := ⟨w.heap.size, 8, none⟩) (by show w.heap.size ≤ w.heap.size; omega) (.slice a4 p.an c4)⟩
 have HF3 : Hk (Fr (fun j => j < (w.heap.size + 2)) z (z.setCell ⟨w.heap.size, 8, none⟩ (.slice a4 p.an c4))) := ⟨Fr.setCell (p := ⟨w.heap.size, 8, none⟩) (Fr.refl _ z) (fun _ => by show w.heap.size < (w.heap.size + 2); omega) (.slice a4 p.an c4)⟩
 replace HO1 : Hk (OwN (z.setCell ⟨w.heap.size, 8, none⟩ (.slice a4 p.an c4)) (w.heap.size + 2) (.slice a1 p.mn c1) p.mn Q1) := ⟨OwN.up HO1.out HF3.out (fun j hj e => by omega)⟩
 replace HO2 : Hk (OwN (z.setCell ⟨w.heap.size, 8, none⟩ (.slice a4 p.an c4)) (w.heap.size + 2) (.slice a2 p.ln c2) p.ln Q2) := ⟨OwN.up HO2.out HF3.out (fun j hj e => by omega)⟩
 replace HO3 : Hk (OwnI (z.setCell ⟨w.heap.size, 8, none⟩ (.slice a4 p.an c4)) N3 (.slice a3 p.hn c3) p.hn p.hl) := ⟨Fr.owni HO3.out HF3.out (fun j hj e => by have := (HO3.out.lt j hj).1; have := HN3.out; omega)⟩
 replace HO4 : Hk (OwnI (z.setCell ⟨w.heap.size, 8, none⟩ (.slice a4 p.an c4)) N4 (.slice a4 p.an c4) p.an p.al) := ⟨Fr.owni HO4.out HF3.out (fun j hj e => by have := (HO4.out.lt j hj).1; have := HN3.out; have := HN4.out; omega)⟩
 have HSV2 : Hk (N4 ≤ (z.setCell ⟨w.heap.size, 8, none⟩ (.slice a4 p.an c4)).heap.size) := ⟨by simpa using HSZ.out⟩
 clear HX HZ HB cx fx lx r8 rl HX2 HZ2 HB2 HSZ HSV HF3
 generalize (z.setCell ⟨w.heap.size, 8, none⟩ (.slice a4 p.an c4)) = V2 at *
 obtain ⟨HX, HZ, HB, HSV⟩ : (Hk (Bk V2 w.heap.size #[.int .i64 p.i, .int .i64 p.n, .int .i64 p.d, .int .i64 p.t, .int .i64 p.s, .slice a1 p.mn c1, .slice a2 p.ln c2, .slice a3 p.hn c3, .slice a4 p.an c4, .slice p.xa p.xn p.xc, .bool p.b])) ∧ (Hk (Bk V2 (w.heap.size + 1) jjZ)) ∧ (Hk (Below w.heap.size w V2)) ∧ (Hk (N4 ≤ V2.heap.size)) := ⟨HX3, HZ3, HB3, HSV2⟩
 clear HX3 HZ3 HB3 HSV2 V z
 rename World => V
 have r9 := HX.out.c 9
 have rl := HX.out.lt
 try simp at r9
 go_upto_region 6 with (go_at_call 53; (with_reducible refine (cloneu_any p.xa p.xn p.xc V.heap.size p.xl _ (HH.out.later HB.out).x (Nat.le_refl _) (by omega)).mono ?_); rintro e z ⟨v, rfl, ho, hb⟩; obtain ⟨a5, c5, rfl, -⟩ := ho.form; have HO5 : Hk (Ow shU 56 z (w.heap.size + 2) (.slice a5 p.xn c5) p.xn p.xl) := ⟨(ho).weak (Nat.le_trans HN3.out (Nat.le_trans HN4.out HSV.out))⟩; replace HO1 := Hk.mk (HO1.out.below hb); replace HO2 := Hk.mk (HO2.out.below hb); replace HO3 := Hk.mk (HO3.out.below hb); replace HO4 := Hk.mk (HO4.out.below hb); have HB2 := Hk.mk (HB.out.trans (hb.mono HB.out.size)); have HX2 := Hk.mk (HX.out.below hb); have HZ2 := Hk.mk (HZ.out.below hb); have cx := HX2.out.c 9; have fx := HX2.out.f 9; have lx := HX2.out.lt; have HSZ := Hk.mk (Nat.le_trans HSV.out hb.size); clear ho hb)
 have HX3 : Hk (Bk (z.setCell ⟨w.heap.size, 9, none⟩ (.slice a5 p.xn c5)) w.heap.size #[.int .i64 p.i, .int .i64 p.n, .int .i64 p.d, .int .i64 p.t, .int .i64 p.s, .slice a1 p.mn c1, .slice a2 p.ln c2, .slice a3 p.hn c3, .slice a4 p.an c4, .slice a5 p.xn c5, .bool p.b]) := ⟨HX2.out.set 9 (.slice a5 p.xn c5)⟩
 have HZ3 : Hk (Bk (z.setCell ⟨w.heap.size, 9, none⟩ (.slice a5 p.xn c5)) (w.heap.size + 1) jjZ) := ⟨HZ2.out.oth (by omega) 9 (.slice a5 p.xn c5)⟩
 have HB3 : Hk (Below w.heap.size w (z.setCell ⟨w.heap.size, 9, none⟩ (.slice a5 p.xn c5))) := ⟨HB2.out.setCell (p := ⟨w.heap.size, 9, none⟩) (by show w.heap.size ≤ w.heap.size; omega) (.slice a5 p.xn c5)⟩
 have HF3 : Hk (Fr (fun j => j < (w.heap.size + 2)) z (z.setCell ⟨w.heap.size, 9, none⟩ (.slice a5 p.xn c5))) := ⟨Fr.setCell (p := ⟨w.heap.size, 9, none⟩) (Fr.refl _ z) (fun _ => by show w.heap.size < (w.heap.size + 2); omega) (.slice a5 p.xn c5)⟩
 replace HO1 : Hk (OwN (z.setCell ⟨w.heap.size, 9, none⟩ (.slice a5 p.xn c5)) (w.heap.size + 2) (.slice a1 p.mn c1) p.mn Q1) := ⟨OwN.up HO1.out HF3.out (fun j hj e => by omega)⟩
 replace HO2 : Hk (OwN (z.setCell ⟨w.heap.size, 9, none⟩ (.slice a5 p.xn c5)) (w.heap.size + 2) (.slice a2 p.ln c2) p.ln Q2) := ⟨OwN.up HO2.out HF3.out (fun j hj e => by omega)⟩
 replace HO3 : Hk (OwnI (z.setCell ⟨w.heap.size, 9, none⟩ (.slice a5 p.xn c5)) N3 (.slice a3 p.hn c3) p.hn p.hl) := ⟨Fr.owni HO3.out HF3.out (fun j hj e => by have := (HO3.out.lt j hj).1; have := HN3.out; omega)⟩
 replace HO4 : Hk (OwnI (z.setCell ⟨w.heap.size, 9, none⟩ (.slice a5 p.xn c5)) N4 (.slice a4 p.an c4) p.an p.al) := ⟨Fr.owni HO4.out HF3.out (fun j hj e => by have := (HO4.out.lt j hj).1; have := HN3.out; have := HN4.out; omega)⟩
 replace HO5 : Hk (Ow shU 56 (z.setCell ⟨w.heap.size, 9, none⟩ (.slice a5 p.xn c5)) (w.heap.size + 2) (.slice a5 p.xn c5) p.xn p.xl) := ⟨Ow.fr HO5.out HF3.out (fun j hj e => by have := (HO5.out.lt j hj).1; omega)⟩
 have HSV2 : Hk (N4 ≤ (z.setCell ⟨w.heap.size, 9, none⟩ (.slice a5 p.xn c5)).heap.size) := ⟨by simpa using HSZ.out⟩
 clear HX HZ HB cx fx lx r9 rl HX2 HZ2 HB2 HSZ HSV HF3
 generalize (z.setCell ⟨w.heap.size, 9, none⟩ (.slice a5 p.xn c5)) = V2 at *
 obtain ⟨HX, HZ, HB, HSV⟩ : (Hk (Bk V2 w.heap.size #[.int .i64 p.i, .int .i64 p.n, .int .i64 p.d, .int .i64 p.t, .int .i64 p.s, .slice a1 p.mn c1, .slice a2 p.ln c2, .slice a3 p.hn c3, .slice a4 p.an c4, .slice a5 p.xn c5, .bool p.b])) ∧ (Hk (Bk V2 (w.heap.size + 1) jjZ)) ∧ (Hk (Below w.heap.size w V2)) ∧ (Hk (N4 ≤ V2.heap.size)) := ⟨HX3, HZ3, HB3, HSV2⟩
 clear HX3 HZ3 HB3 HSV2 V z
 rename World => V
 have x0 := HX.out.c 0
 have z0 := HZ.out.c 0
 have g0 := HZ.out.f 0
 have x1 := HX.out.c 1
 have z1 := HZ.out.c 1
 have g1 := HZ.out.f 1
 have x2 := HX.out.c 2
 have z2 := HZ.out.c 2
 have g2 := HZ.out.f 2
 have x3 := HX.out.c 3
 have z3 := HZ.out.c 3
 have g3 := HZ.out.f 3
 have x4 := HX.out.c 4
 have z4 := HZ.out.c 4
 have g4 := HZ.out.f 4
 have x5 := HX.out.c 5
 have z5 := HZ.out.c 5
 have g5 := HZ.out.f 5
 have x6 := HX.out.c 6
 have z6 := HZ.out.c 6
 have g6 := HZ.out.f 6
 have x7 := HX.out.c 7
 have z7 := HZ.out.c 7
 have g7 := HZ.out.f 7
 have x8 := HX.out.c 8
 have z8 := HZ.out.c 8
 have g8 := HZ.out.f 8
 have x9 := HX.out.c 9
 have z9 := HZ.out.c 9
 have g9 := HZ.out.f 9
 have x10 := HX.out.c 10
 have z10 := HZ.out.c 10
 have g10 := HZ.out.f 10
 simp at x0 z0 x1 z1 x2 z2 x3 z3 x4 z4 x5 z5 x6 z6 x7 z7 x8 z8 x9 z9 x10 z10
 have hxl := HX.out.lt
 have hzl := HZ.out.lt
 go_wp2
 refine bodyPost_ret (v := .agg #[.int .i64 p.i, .int .i64 p.n, .int .i64 p.d, .int .i64 p.t, .int .i64 p.s, .slice a1 p.mn c1, .slice a2 p.ln c2, .slice a3 p.hn c3, .slice a4 p.an c4, .slice a5 p.xn c5, .bool p.b]) (by simp [results, Try.results27, go_sem, z0, z1, z2, z3, z4, z5, z6, z7, z8, z9, z10]) rfl ⟨{ p with ma := a1, mc := c1, ml := Q1, la := a2, lc := c2, ll := Q2, ha := a3, hc := c3, aa := a4, ac := c4, xa := a5, xc := c5 }, N3, N4, rfl, ⟨?_, ?_, ?_, ?_, ?_⟩, ⟨?_, ?_, ?_, ?_, ?_, HN4.out, HDJ.out⟩, by have := HN3.out; omega, by show Pm.mk _ _ _ _ _ _ _ _ _ _ _ = Pm.mk _ _ _ _ _ _ _ _ _ _ _; rw [HA1.out, HA2.out], rfl, rfl, rfl, rfl, rfl, ?_⟩
 ·exact (OwN.up HO1.out (chn_lt (w := V) (P := (w.heap.size + 1)) (B := (w.heap.size + 2)) { p with ma := a1, mc := c1, ml := Q1, la := a2, lc := c2, ll := Q2, ha := a3, hc := c3, aa := a4, ac := c4, xa := a5, xc := c5 } (by omega)) (fun j hj e => by omega)).weak (by omega)
 ·exact (OwN.up HO2.out (chn_lt (w := V) (P := (w.heap.size + 1)) (B := (w.heap.size + 2)) { p with ma := a1, mc := c1, ml := Q1, la := a2, lc := c2, ll := Q2, ha := a3, hc := c3, aa := a4, ac := c4, xa := a5, xc := c5 } (by omega)) (fun j hj e => by omega)).weak (by omega)
 ·exact (Fr.owni HO3.out (chn_lt (w := V) (P := (w.heap.size + 1)) (B := (w.heap.size + 2)) { p with ma := a1, mc := c1, ml := Q1, la := a2, lc := c2, ll := Q2, ha := a3, hc := c3, aa := a4, ac := c4, xa := a5, xc := c5 } (by omega)) (fun j hj e => by have := (HO3.out.lt j hj).1; have := HN3.out; omega)).weak (by have := HN3.out; omega)
 ·exact (Fr.owni HO4.out (chn_lt (w := V) (P := (w.heap.size + 1)) (B := (w.heap.size + 2)) { p with ma := a1, mc := c1, ml := Q1, la := a2, lc := c2, ll := Q2, ha := a3, hc := c3, aa := a4, ac := c4, xa := a5, xc := c5 } (by omega)) (fun j hj e => by have := (HO4.out.lt j hj).1; have := HN3.out; have := HN4.out; omega)).weak (by have := HN3.out; have := HN4.out; omega)
 ·exact (Ow.fr HO5.out (chn_lt (w := V) (P := (w.heap.size + 1)) (B := (w.heap.size + 2)) { p with ma := a1, mc := c1, ml := Q1, la := a2, lc := c2, ll := Q2, ha := a3, hc := c3, aa := a4, ac := c4, xa := a5, xc := c5 } (by omega)) (fun j hj e => by have := (HO5.out.lt j hj).1; omega)).weak (by omega)
 ·exact (OwN.up HO1.out (chn_lt (w := V) (P := (w.heap.size + 1)) (B := (w.heap.size + 2)) { p with ma := a1, mc := c1, ml := Q1, la := a2, lc := c2, ll := Q2, ha := a3, hc := c3, aa := a4, ac := c4, xa := a5, xc := c5 } (by omega)) (fun j hj e => by omega)).d.re HD1.out
 ·exact (OwN.up HO2.out (chn_lt (w := V) (P := (w.heap.size + 1)) (B := (w.heap.size + 2)) { p with ma := a1, mc := c1, ml := Q1, la := a2, lc := c2, ll := Q2, ha := a3, hc := c3, aa := a4, ac := c4, xa := a5, xc := c5 } (by omega)) (fun j hj e => by omega)).d.re HD2.out
 ·exact Fr.owni HO3.out (chn_lt (w := V) (P := (w.heap.size + 1)) (B := (w.heap.size + 2)) { p with ma := a1, mc := c1, ml := Q1, la := a2, lc := c2, ll := Q2, ha := a3, hc := c3, aa := a4, ac := c4, xa := a5, xc := c5 } (by omega)) (fun j hj e => by have := (HO3.out.lt j hj).1; have := HN3.out; omega)
 ·exact (Fr.owni HO3.out (chn_lt (w := V) (P := (w.heap.size + 1)) (B := (w.heap.size + 2)) { p with ma := a1, mc := c1, ml := Q1, la := a2, lc := c2, ll := Q2, ha := a3, hc := c3, aa := a4, ac := c4, xa := a5, xc := c5 } (by omega)) (fun j hj e => by have := (HO3.out.lt j hj).1; have := HN3.out; omega)).nq2.re HD3.out
 ·exact Fr.owni HO4.out (chn_lt (w := V) (P := (w.heap.size + 1)) (B := (w.heap.size + 2)) { p with ma := a1, mc := c1, ml := Q1, la := a2, lc := c2, ll := Q2, ha := a3, hc := c3, aa := a4, ac := c4, xa := a5, xc := c5 } (by omega)) (fun j hj e => by have := (HO4.out.lt j hj).1; have := HN3.out; have := HN4.out; omega)
 ·exact chn_bl HB.out (P := (w.heap.size + 1)) { p with ma := a1, mc := c1, ml := Q1, la := a2, lc := c2, ll := Q2, ha := a3, hc := c3, aa := a4, ac := c4, xa := a5, xc := c5 } (by omega)
theorem cpp_any (p : Pv) (w : World) (h : PvD w w.heap.size p) (hs : PvS p) :
  Calls Try.prog 27 #[.agg (jjP p)] w (CpP w p) := (cpq_any p w h hs).mono fun e z ⟨q, _, _, a1, a2, _, _, a5, a6, a7, a8, a9, a10, a11⟩ => ⟨q, a1, a2, a5, a6, a7, a8, a9, a10, a11⟩
end Go.Proofs.Ytdpblimhfmfbnaa
namespace Go.Proofs.Ytdpblimhfmfbnaa
open Go.ChangeShapes Go.WideShapes Go.ChangeAt Go.RowKit Go.Deep
def bndT (T : Int) : Option In → Int
 | none => 8
 | some a => if a.t < T then 8 else if a.t = T then 8 - a.p else 0
theorem PvO.fr {M : Nat → Prop} {w w' : World} {B : Nat} {p : Pv} (h : PvO w B p) (k : Fr M w w') (hm : ∀ j, B ≤ j → ¬ M j) : PvO w' B p :=
 ⟨h.m.up k hm, h.l.up k hm, Fr.owni h.h k fun j hj => hm j (h.h.lt j hj).1, Fr.owni h.a k fun j hj => hm j (h.a.lt j hj).1, Ow.fr h.x k fun j hj => hm j (h.x.lt j hj).1⟩
theorem PvS.like {w z : World} {B1 B2 : Nat} {p u : Pv} (hs : PvS p) (h : PvD w B1 p) (hu : PvD z B2 u) (hab : u.ab = p.ab) (e1 : u.mn = p.mn) (e2 : u.ln = p.ln) (e3 : u.hn = p.hn) (e4 : u.an = p.an) (e5 : u.xn = p.xn) : PvS u := by
 obtain ⟨-, -, -, -, -, a6, a7, -⟩ := (ab_iff u p).1 hab
 have l1 := congrArg List.length a6
 have l2 := congrArg List.length a7
 rw [abI_len, abI_len] at l1 l2
 exact ⟨smI_of hu.m h.m hs.m (fun x hx => by rw [← a6]; exact hx) (by omega), smI_of hu.l h.l hs.l (fun x hx => by rw [← a7]; exact hx) (by omega), by rw [e3]; exact hs.h, by rw [e4]; exact hs.a, by rw [e5]; exact hs.x⟩
theorem SmC.nil : SmC [] := ⟨Nat.zero_le _, fun x hx => by cases hx⟩
theorem ShC.nil (w : World) (B : Nat) : ShC w B none 0 0 := ⟨Nat.zero_le _, .inr ⟨rfl, rfl⟩⟩
structure StR (w V : World) (R : Nat) (X : World) : Prop where
 fr : Fr (fun j => j = R) V X
 bw : Below w.heap.size w X
theorem StR.call {w V X z : World} {R : Nat} (h : StR w V R X) (hb : Below X.heap.size X z) : StR w V R z := ⟨h.fr.trans (Fr.of_all hb), h.bw.trans (hb.mono h.bw.size)⟩
theorem StR.set {w V X : World} {R : Nat} (h : StR w V R X) (hR : w.heap.size ≤ R) (o : Nat) (v : Value) : StR w V R (X.setCell ⟨R, o, none⟩ v) := ⟨h.fr.setCell (fun _ => rfl) v, h.bw.setCell (p := ⟨R, o, none⟩) hR v⟩
theorem StR.cells {w V X : World} {R : Nat} (h : StR w V R X) : ∀ b o, b < V.heap.size → ¬ b = R → X.cell? ⟨b, o, none⟩ = V.cell? ⟨b, o, none⟩ := fun b o hb hn => h.fr.cell hb hn
theorem StR.s {w V X : World} {R : Nat} (h : StR w V R X) : (∀ b o, b < V.heap.size → ¬ b = R → X.cell? ⟨b, o, none⟩ = V.cell? ⟨b, o, none⟩) ∧ StR w V R X := ⟨h.cells, h⟩
theorem StR.start {w V : World} {R : Nat} (h : Below w.heap.size w V) : StR w V R V.drew := ⟨(Fr.refl _ _).drew, h.drew⟩
end Go.Proofs.Ytdpblimhfmfbnaa
