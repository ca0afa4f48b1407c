import Derived.Deep.QuietTactic
import Derived.BigQuiet
import Derived.Deep.RegionWith
import Derived.Deep.RegionHeld3
import Derived.Deep.DeepCutAuto
import Derived.Deep.DeepFit
import Derived.Outline
import Derived.Test.YthabjihpjdlmoaaDoorSkk
import Derived.Laws.BitsAllLaws
import Derived.RowKit
import Derived.WalkKit
import Derived.WalkSpells
import Derived.WalkLawsBesides
import Derived.Test.YthabjihpjdlmoaaDoorRows
/- Layer 12: Pop. -/
namespace Go.Proofs.YthabjihpjdlmoaaDoor
open Go.RowKit Go.Deep
set_option linter.unusedVariables false
set_option linter.unusedSimpArgs false
theorem Hq.drew {w : World} {base Q n c : Nat} {a : Option Addr} {F : Nat → PrQ} (h : Hq w base Q a n c F) : Hq w.drew base Q a n c F := ⟨h.cell, h.fz, h.lt, h.bs, h.row, h.ne⟩
theorem Hq.put0 {w : World} {base Q g n c : Nat} {F : Nat → PrQ} (h : Hq w base Q (some ⟨g, 0, none⟩) n c F) (hn : 0 < n) (p : PrQ) :
    Hq ((w.setCell ⟨g, 0, none⟩ (.int .i64 p.1)).setCell ⟨g, 1, none⟩ (.int .i64 p.2)) base Q (some ⟨g, 0, none⟩) n c (updQ F 0 p) := by
  have := h.put (k := 0) hn p
  simpa using this
theorem Hq.at01 {w : World} {base Q g n c : Nat} {F : Nat → PrQ} (h : Hq w base Q (some ⟨g, 0, none⟩) n c F) (hn : 0 < n) : w.cell? ⟨g, 0, none⟩ = some (.int .i64 (F 0).1) ∧ w.cell? ⟨g, 1, none⟩ = some (.int .i64 (F 0).2) := by
  have h1 := h.at1 (k := 0) hn
  have h2 := h.at2 (k := 0) hn
  exact ⟨by simpa using h1, by simpa using h2⟩
theorem Hq.cut {w : World} {base Q g n m c : Nat} {F : Nat → PrQ} (h : Hq w base Q (some ⟨g, 0, none⟩) n c F) (hm : m ≤ n) : Hq (w.setCell ⟨Q, 0, none⟩ (.slice (some ⟨g, 0, none⟩) m c)) base Q (some ⟨g, 0, none⟩) m c F := by
  have hgQ : g ≠ Q := h.ne g rfl
  have hc := h.cell
  have hf := h.fz
  refine ⟨by go_simp, by rw [World.frozen?_setCell]; exact hf, by simpa using h.lt, h.bs, ?_, fun j hj => by simp [Value.ownBlock] at hj; omega⟩
  have hr : w.ownsRow base 160 2 (.slice (some ⟨g, 0, none⟩) m c) m (flatQ F m) := by
    refine ⟨flatQ_len F m, ?_⟩
    rcases h.row.2 with ⟨e, h0⟩ | ⟨g', cap, cur, e, hg, hh, hc, hm2, hs, ht⟩
    · cases e
    · injection e with e1 e2 e3
      injection e1 with e1
      injection e1 with e1
      subst e1 e3
      refine Or.inr ⟨g, c, cur, rfl, hg, hh, by omega, hm2, hs, ?_⟩
      rw [← flatQ_take F hm, ← ht, List.take_take]
      congr 1
      omega
  exact ownsRow_setCell_other hr (a := ⟨Q, 0, none⟩) (by simpa [Value.ownBlock] using hgQ) _
theorem cnt_pop (F : Nat → PrQ) (m : Nat) (x : PrQ) : cntQ F x (m + 1) = cntQ (updQ F 0 (F m)) x m + (if F 0 = x then 1 else 0) := by
  have h := cntQ_upd F x (F m) 0 (n := m + 1) (by omega)
  have e : updQ F 0 (F m) m = F m := by
    by_cases c : m = 0
    · subst c; exact updQ_at _ _ _
    · exact updQ_far c
  have h2 : cntQ (updQ F 0 (F m)) x (m + 1) = cntQ (updQ F 0 (F m)) x m + (if updQ F 0 (F m) m = x then 1 else 0) := rfl
  rw [e] at h2
  omega
set_option maxRecDepth 100000 in
theorem pop_nil (base Q c : Nat) (a : Option Addr) (F : Nat → PrQ) (w : World) (h : Hq w base Q a 0 c F) :
    Calls Tryd.prog 94 #[.pointer (some ⟨Q, 0, none⟩)] w fun e w' => e = .returned (.tuple #[.int .i64 0, .int .i64 0, .bool false]) ∧ w = w' := by
  have q0 := h.cell
  clear h
  go_enter Tryd.func94, Tryd.ntmps94
  go_wp2
  go_ret3
  exact ⟨rfl, rfl⟩
set_option maxRecDepth 1000000 in
set_option maxHeartbeats 1600000 in
theorem pop_any (base Q m c : Nat) (a : Option Addr) (F : Nat → PrQ) (w : World) (h : Hq w base Q a (m + 1) c F) (hp : HpQ F (m + 1)) (hn : m ≤ 100000000000) :
    Calls Tryd.prog 94 #[.pointer (some ⟨Q, 0, none⟩)] w fun e w' => e = .returned (.tuple #[.int .i64 (F 0).1, .int .i64 (F 0).2, .bool true]) ∧
      ∃ G, Hq w' base Q a m c G ∧ HpQ G m ∧ (∀ x, cntQ F x (m + 1) = cntQ G x m + (if F 0 = x then 1 else 0)) ∧ Fr (MQ Q a) w w' := by
  obtain ⟨g, rfl, hbg, hgw, hgQ, hnc, hcm⟩ := h.form (by omega)
  have hbq := h.bs
  have hQw := h.lt
  have HH := Hk.mk h
  have hcm' : c ≤ 9223372036854775807 := by unfold maxLen at hcm; omega
  obtain ⟨x, hx⟩ : ∃ x, F 0 = x := ⟨_, rfl⟩
  obtain ⟨y, hy⟩ : ∃ y, F m = y := ⟨_, rfl⟩
  have HX := Hk.mk hx
  have HY := Hk.mk hy
  have HDN := Hk.mk (DnQ.start hp (m := m) (by omega) y)
  have HCN := Hk.mk (fun z => cnt_pop F m z)
  have q0 := h.cell
  have x12 := h.at01 (by omega)
  rw [hx] at x12
  obtain ⟨x1, x2⟩ := x12
  rw [hx]
  clear h hp hx hy hcm
  have m0 : (0 : Int) ≤ (m : Int) := by omega
  have m1 : (m : Int) < (m : Int) + 1 := by omega
  have m2 : (0 : Int) < (m : Int) + 1 := by omega
  have m3 : (m : Int) ≤ (c : Int) := by omega
  have m4 : ((m : Int) + 1 == 0) = false := by simp; omega
  go_enter Tryd.func94, Tryd.ntmps94
  go_wp2_with fail
  have hb1 := (Below.refl w.heap.size w).alloc (Nat.le_refl _) (.cells #[.int .i64 x.1, .int .i64 x.2] 160)
  have HQ1 := Hk.mk (HH.out.later hb1)
  have HF1 : Hk (Fr (MQ Q (some ⟨g, 0, none⟩)) w (w.alloc (.cells #[.int .i64 x.1, .int .i64 x.2] 160))) := ⟨Fr.of_all hb1⟩
  have HT := Hk.mk (Bk.new w #[.int .i64 x.1, .int .i64 x.2] 160)
  clear hb1 q0 x1 x2 HH
  obtain ⟨T, hT⟩ : ∃ T, w.heap.size = T := ⟨_, rfl⟩
  rw [hT] at HT ⊢
  obtain ⟨W1, hW1⟩ : ∃ W1, w.alloc (.cells #[.int .i64 x.1, .int .i64 x.2] 160) = W1 := ⟨_, rfl⟩
  rw [hW1] at HQ1 HF1 HT ⊢
  have hTQ : T ≠ Q := by omega
  have hTg : T ≠ g := by omega
  clear hW1
  have q0 := HQ1.out.cell
  have c3 := HQ1.out.at1 (k := m) (by omega)
  have c4 := HQ1.out.at2 (k := m) (by omega)
  rw [HY.out] at c3 c4
  have x12 := HQ1.out.at01 (by omega)
  obtain ⟨x1, x2⟩ := x12
  have f1 := HQ1.out.fzr 0
  have f2 := HQ1.out.fzr 1
  have HQ2b := Hk.mk (HQ1.out.put0 (by omega) y)
  have hM : ∀ j, j = g ∨ j = Q → MQ Q (some ⟨g, 0, none⟩) j := fun j e => by
    rcases e with e | e
    · exact Or.inr ⟨_, rfl, e.symm⟩
    · exact Or.inl e
  have HF2 := Hk.mk ((HF1.out.setCell (p := ⟨g, 0, none⟩) (fun h => hM _ (Or.inl rfl)) (.int .i64 y.1)).setCell (p := ⟨g, 1, none⟩) (fun h => hM _ (Or.inl rfl)) (.int .i64 y.2))
  have t1 : W1.cell? ⟨T, 0, none⟩ = some (.int .i64 x.1) := HT.out.c 0
  have t2 : W1.cell? ⟨T, 1, none⟩ = some (.int .i64 x.2) := HT.out.c 1
  have tl := HT.out.lt
  clear HQ1 HF1 HT hT
  go_region
  clear c3 c4 x1 x2 f1 f2 q0
  have hTg' : ¬ (T = g) := hTg
  have k1 : (((W1.setCell ⟨g, 0, none⟩ (.int .i64 y.1)).setCell ⟨g, 1, none⟩ (.int .i64 y.2)).drew).cell? ⟨T, 0, none⟩ = some (.int .i64 x.1) := by
    show ((W1.setCell ⟨g, 0, none⟩ (.int .i64 y.1)).setCell ⟨g, 1, none⟩ (.int .i64 y.2)).cell? ⟨T, 0, none⟩ = _
    rw [World.cell?_setCell_other _ _ _ _ (by simp [hTg]), World.cell?_setCell_other _ _ _ _ (by simp [hTg])]
    exact t1
  have k2 : (((W1.setCell ⟨g, 0, none⟩ (.int .i64 y.1)).setCell ⟨g, 1, none⟩ (.int .i64 y.2)).drew).cell? ⟨T, 1, none⟩ = some (.int .i64 x.2) := by
    show ((W1.setCell ⟨g, 0, none⟩ (.int .i64 y.1)).setCell ⟨g, 1, none⟩ (.int .i64 y.2)).cell? ⟨T, 1, none⟩ = _
    rw [World.cell?_setCell_other _ _ _ _ (by simp [hTg]), World.cell?_setCell_other _ _ _ _ (by simp [hTg])]
    exact t2
  have kl : T < (((W1.setCell ⟨g, 0, none⟩ (.int .i64 y.1)).setCell ⟨g, 1, none⟩ (.int .i64 y.2)).drew).heap.size := by
    show T < ((W1.setCell ⟨g, 0, none⟩ (.int .i64 y.1)).setCell ⟨g, 1, none⟩ (.int .i64 y.2)).heap.size
    simpa using tl
  have HQ3 := Hk.mk (HQ2b.out.drew)
  have HF3 := Hk.mk (HF2.out.drew)
  clear HQ2b HF2 t1 t2 tl
  generalize ((W1.setCell ⟨g, 0, none⟩ (.int .i64 y.1)).setCell ⟨g, 1, none⟩ (.int .i64 y.2)).drew = W2 at *
  have q0 := HQ3.out.cell
  have qf := HQ3.out.fz
  have HQ4 := Hk.mk (HQ3.out.cut (m := m) (by omega))
  have HF4 := Hk.mk (HF3.out.setCell (p := ⟨Q, 0, none⟩) (fun h => hM _ (Or.inr rfl)) (.slice (some ⟨g, 0, none⟩) m c))
  have k3 : (W2.setCell ⟨Q, 0, none⟩ (.slice (some ⟨g, 0, none⟩) m c)).cell? ⟨T, 0, none⟩ = some (.int .i64 x.1) := by
    rw [World.cell?_setCell_other _ _ _ _ (by simp [hTQ])]; exact k1
  have k4 : (W2.setCell ⟨Q, 0, none⟩ (.slice (some ⟨g, 0, none⟩) m c)).cell? ⟨T, 1, none⟩ = some (.int .i64 x.2) := by
    rw [World.cell?_setCell_other _ _ _ _ (by simp [hTQ])]; exact k2
  have kl2 : T < (W2.setCell ⟨Q, 0, none⟩ (.slice (some ⟨g, 0, none⟩) m c)).heap.size := by simpa using kl
  have hnM : ¬ MQ Q (some ⟨g, 0, none⟩) T := by
    rintro (e | ⟨ad, e, e2⟩)
    · exact hTQ e
    · injection e with e; subst e; exact hTg e2.symm
  have HK3 := Hk.mk k3
  have HK4 := Hk.mk k4
  have HKL := Hk.mk kl2
  have HNM := Hk.mk hnM
  clear HQ3 HF3 k1 k2 kl k3 k4 kl2 hnM hM
  go_wp2_with (go_at_call 114; (with_reducible refine (sink_any base Q g m c (updQ F 0 y) _ HQ4.out HDN.out (by omega)).mono ?_); rintro e z ⟨rfl, G, hq, hp2, hc2, hf2⟩; have HQ5 := Hk.mk hq; have HP5 := Hk.mk hp2; have HC5 := Hk.mk hc2; have s1 := (hf2.cell HKL.out HNM.out).trans HK3.out; have s2 := (hf2.cell HKL.out HNM.out).trans HK4.out; have HF5 := Hk.mk (HF4.out.trans hf2); clear hq hp2 hc2 hf2 HQ4 HF4)
  go_quiet (fail)
  go_wp2
  go_ret3
  refine ⟨rfl, G, HQ5.out.drewN _, HP5.out, fun z => ?_, HF5.out.drewN _⟩
  rw [HC5.out z, ← HX.out, ← HY.out]
  exact HCN.out z
end Go.Proofs.YthabjihpjdlmoaaDoor
/- Plain arithmetic for layer 1 (fixed, wide): no program in it. -/
namespace Go.Proofs.YthabjihpjdlmoaaDoor.Fx
open Go
/-- A fact kept behind a name. -/
structure Hd (p : Prop) : Prop where
  out : p
def Most : Int := 9223372036854775807
/-- What a fixed number counts as. -/
def cnt (a : Int) : Int := if a < -Most then -Most else a
def lessB (a b c d : Int) : Bool := decide (a < c) || (decide (a = c) && decide (b < d))
theorem and_mask32 (x : Int) (h0 : 0 ≤ x) (h1 : x ≤ 18446744073709551615) : bits .and .u64 x 4294967295 = x % 4294967296 := by
  rw [u64_and x 4294967295 h0 (by omega) (by omega) (by omega)]
  have : x.toNat &&& (4294967295 : Int).toNat = x.toNat % 4294967296 := Nat.and_two_pow_sub_one_eq_mod x.toNat 32
  rw [this]; omega
theorem and_one (x : Int) (h0 : 0 ≤ x) (h1 : x ≤ 18446744073709551615) : bits .and .u64 x 1 = x % 2 := by
  rw [u64_and x 1 h0 (by omega) (by omega) (by omega)]
  have : x.toNat &&& (1 : Int).toNat = x.toNat % 2 := Nat.and_two_pow_sub_one_eq_mod x.toNat 1
  rw [this]; omega
theorem or_nat (k a b : Nat) (hb : b < 2 ^ k) : (2 ^ k * a) ||| b = 2 ^ k * a + b := (Nat.two_pow_add_eq_or_of_lt hb a).symm
theorem or_one (x y : Int) (h0 : 0 ≤ x) (h1 : 2 * x ≤ 18446744073709551615) (hy : 0 ≤ y) (hy' : y ≤ 1) : bits .or .u64 (2 * x) y = 2 * x + y := by
  rw [u64_or (2 * x) y (by omega) (by omega) hy (by omega)]
  have := or_nat 1 x.toNat y.toNat (by omega)
  have e : (2 * x).toNat = 2 ^ 1 * x.toNat := by omega
  rw [e, this]; omega
theorem or_mask32 (x y : Int) (h0 : 0 ≤ x) (h1 : 4294967296 * x ≤ 18446744073709551615) (hy : 0 ≤ y) (hy' : y ≤ 4294967295) : bits .or .u64 (4294967296 * x) y = 4294967296 * x + y := by
  rw [u64_or (4294967296 * x) y (by omega) (by omega) hy (by omega)]
  have := or_nat 32 x.toNat y.toNat (by omega)
  have e : (4294967296 * x).toNat = 2 ^ 32 * x.toNat := by omega
  rw [e, this]; omega
theorem ri {k : IntKind} {a b : Int} (h : a = b) : Ending.returned (.int k a) = .returned (.int k b) := by rw [h]
theorem rb {a b : Bool} (h : a = b) : Ending.returned (.bool a) = .returned (.bool b) := by rw [h]
theorem wrapu (x : Int) : IntKind.u64.wrap x = x % 18446744073709551616 := by simp [IntKind.wrap, IntKind.bits, IntKind.signed]
def clampM (x : Int) : Int := if Most < x then Most else if x < -Most then -Most else x
def sz (a : Int) : Int := if cnt a < 0 then -(cnt a) else cnt a
def cmpS (a b : Int) : Int := if cnt a < cnt b then -1 else if cnt b < cnt a then 1 else 0
def ab (a : Int) : Int := if a < 0 then -a else a
def addS (a b : Int) : Int := clampM (cnt a + cnt b)
def negS (a : Int) : Int := -(cnt a)
def subS (a b : Int) : Int := addS a (negS b)
def I64 (a : Int) : Prop := -9223372036854775808 ≤ a ∧ a ≤ 9223372036854775807
theorem cnt_bd {a : Int} (h : I64 a) : -9223372036854775807 ≤ cnt a ∧ cnt a ≤ 9223372036854775807 := by
  unfold I64 at h; unfold cnt Most; split <;> omega
theorem cnt_i64 {a : Int} (h : I64 a) : I64 (cnt a) := by have := cnt_bd h; unfold I64; omega
theorem neg_i64 {a : Int} (h : I64 a) : I64 (negS a) := by have := cnt_bd h; unfold I64 negS; omega
theorem sz_bd {a : Int} (h : I64 a) : 0 ≤ sz a ∧ sz a ≤ 9223372036854775807 := by have := cnt_bd h; unfold sz; split <;> omega
/-- The product of two numbers of 64 bits by halves: what is carried never passes 64 bits. -/
theorem halves (a b al ah bl bh low mid cr : Int) (ha : 0 ≤ a) (ha' : a ≤ 18446744073709551615) (hb : 0 ≤ b) (hb' : b ≤ 18446744073709551615)
    (e1 : al = a % 4294967296) (e2 : ah = a / 4294967296) (e3 : bl = b % 4294967296) (e4 : bh = b / 4294967296)
    (e5 : low = al * bl) (e6 : mid = ah * bl + low / 4294967296) (e7 : cr = al * bh + mid % 4294967296) :
    (0 ≤ low ∧ low ≤ 18446744065119617025) ∧ (0 ≤ ah * bl ∧ ah * bl ≤ 18446744065119617025) ∧ (0 ≤ mid ∧ mid ≤ 18446744073709551615) ∧ (0 ≤ al * bh ∧ al * bh ≤ 18446744065119617025) ∧ (0 ≤ cr ∧ cr ≤ 18446744073709551615) ∧
    (0 ≤ ah * bh ∧ ah * bh ≤ 18446744065119617025) ∧
    ah * bh + mid / 4294967296 + cr / 4294967296 = a * b / 18446744073709551616 ∧ cr % 4294967296 * 4294967296 + low % 4294967296 = a * b % 18446744073709551616 ∧ ah * bh + mid / 4294967296 + cr / 4294967296 ≤ 18446744073709551615 ∧ ah * bh + mid / 4294967296 ≤ 18446744073709551615 := by
  have hal : 0 ≤ al ∧ al ≤ 4294967295 := by omega
  have hah : 0 ≤ ah ∧ ah ≤ 4294967295 := by omega
  have hbl : 0 ≤ bl ∧ bl ≤ 4294967295 := by omega
  have hbh : 0 ≤ bh ∧ bh ≤ 4294967295 := by omega
  have m : ∀ x y : Int, 0 ≤ x ∧ x ≤ 4294967295 → 0 ≤ y ∧ y ≤ 4294967295 → 0 ≤ x * y ∧ x * y ≤ 18446744065119617025 := fun x y hx hy =>
    ⟨Int.mul_nonneg hx.1 hy.1, by have := Int.mul_le_mul hx.2 hy.2 hy.1 (by omega : (0:Int) ≤ 4294967295); omega⟩
  have p1 := m al bl hal hbl
  have p2 := m ah bl hah hbl
  have p3 := m al bh hal hbh
  have p4 := m ah bh hah hbh
  have ea : a = 4294967296 * ah + al := by omega
  have eb : b = 4294967296 * bh + bl := by omega
  have eab : a * b = 18446744073709551616 * (ah * bh) + 4294967296 * (ah * bl) + 4294967296 * (al * bh) + al * bl := by
    rw [ea, eb]
    have h1 : (4294967296 * ah + al) * (4294967296 * bh + bl) = 4294967296 * ah * (4294967296 * bh) + 4294967296 * ah * bl + al * (4294967296 * bh) + al * bl := by
      rw [Int.add_mul, Int.mul_add, Int.mul_add]; omega
    rw [h1]
    have h2 : 4294967296 * ah * (4294967296 * bh) = 18446744073709551616 * (ah * bh) := by
      rw [Int.mul_assoc, Int.mul_left_comm ah, ← Int.mul_assoc]; rfl
    have h3 : 4294967296 * ah * bl = 4294967296 * (ah * bl) := Int.mul_assoc _ _ _
    have h4 : al * (4294967296 * bh) = 4294967296 * (al * bh) := Int.mul_left_comm _ _ _
    omega
  generalize al * bl = P1 at *
  generalize ah * bl = P2 at *
  generalize al * bh = P3 at *
  generalize ah * bh = P4 at *
  generalize a * b = AB at *
  subst e5
  clear e1 e2 e3 e4 ea eb m
  have hlt : AB < 340282366920938463463374607431768211456 := by omega
  refine ⟨by omega, by omega, by omega, by omega, by omega, by omega, by omega, by omega, by omega, by omega⟩
def mLow (a b : Int) : Int := IntKind.u64.wrap (bits BinOp.and IntKind.u64 a 4294967295 * bits BinOp.and IntKind.u64 b 4294967295)
def mMid (a b : Int) : Int := IntKind.u64.wrap (IntKind.u64.wrap (a / 4294967296 * bits BinOp.and IntKind.u64 b 4294967295) + mLow a b / 4294967296)
def mCr (a b : Int) : Int := IntKind.u64.wrap (IntKind.u64.wrap (bits BinOp.and IntKind.u64 a 4294967295 * (b / 4294967296)) + bits BinOp.and IntKind.u64 (mMid a b) 4294967295)
def mHi (a b : Int) : Int := IntKind.u64.wrap (IntKind.u64.wrap (IntKind.u64.wrap (a / 4294967296 * (b / 4294967296)) + mMid a b / 4294967296) + mCr a b / 4294967296)
def mLo (a b : Int) : Int := bits BinOp.or IntKind.u64 (IntKind.u64.wrap (mCr a b * 4294967296)) (bits BinOp.and IntKind.u64 (mLow a b) 4294967295)
theorem mBoth (a b : Int) (ha : 0 ≤ a) (ha' : a ≤ 18446744073709551615) (hb : 0 ≤ b) (hb' : b ≤ 18446744073709551615) :
    mHi a b = a * b / 18446744073709551616 ∧ mLo a b = a * b % 18446744073709551616 := by
  obtain ⟨h1, h2, h3, h4, h5, h6, h7, h8, h9, h10⟩ := halves a b _ _ _ _ _ _ _ ha ha' hb hb' rfl rfl rfl rfl rfl rfl rfl
  have x1 : mLow a b = a % 4294967296 * (b % 4294967296) := by
    unfold mLow; rw [and_mask32 a ha ha', and_mask32 b hb hb', wrapu]; exact Int.emod_eq_of_lt h1.1 (by omega)
  have x2 : mMid a b = a / 4294967296 * (b % 4294967296) + a % 4294967296 * (b % 4294967296) / 4294967296 := by
    unfold mMid; rw [x1, and_mask32 b hb hb', wrapu, wrapu, Int.emod_eq_of_lt h2.1 (by omega)]; exact Int.emod_eq_of_lt h3.1 (by omega)
  have x3 : mCr a b = a % 4294967296 * (b / 4294967296) + (a / 4294967296 * (b % 4294967296) + a % 4294967296 * (b % 4294967296) / 4294967296) % 4294967296 := by
    unfold mCr; rw [x2, and_mask32 a ha ha', and_mask32 _ h3.1 h3.2, wrapu, wrapu, Int.emod_eq_of_lt h4.1 (by omega)]; exact Int.emod_eq_of_lt h5.1 (by omega)
  constructor
  · unfold mHi; rw [x3, x2, wrapu, wrapu, wrapu, ← h7]
    clear h7 h8 x1 x2 x3
    generalize a / 4294967296 * (b / 4294967296) = P4 at *
    generalize a % 4294967296 * (b / 4294967296) = P3 at *
    generalize a / 4294967296 * (b % 4294967296) = P2 at *
    generalize a % 4294967296 * (b % 4294967296) = P1 at *
    omega
  · unfold mLo; rw [x3, x1, and_mask32 _ h1.1 (by omega), wrapu, ← h8]
    generalize a % 4294967296 * (b / 4294967296) + (a / 4294967296 * (b % 4294967296) + a % 4294967296 * (b % 4294967296) / 4294967296) % 4294967296 = C at *
    generalize a % 4294967296 * (b % 4294967296) = L at *
    rw [show C * 4294967296 % 18446744073709551616 = 4294967296 * (C % 4294967296) by omega, or_mask32 _ _ (by omega) (by omega) (by omega) (by omega)]
    omega
theorem mHi_eq (a b : Int) (ha : 0 ≤ a) (ha' : a ≤ 18446744073709551615) (hb : 0 ≤ b) (hb' : b ≤ 18446744073709551615) : mHi a b = a * b / 18446744073709551616 := (mBoth a b ha ha' hb hb').1
theorem mLo_eq (a b : Int) (ha : 0 ≤ a) (ha' : a ≤ 18446744073709551615) (hb : 0 ≤ b) (hb' : b ≤ 18446744073709551615) : mLo a b = a * b % 18446744073709551616 := (mBoth a b ha ha' hb hb').2
/-! ### A long division, bit by bit -/
theorem half_pow (l : Int) (k : Nat) (hk : k < 64) : l / 2 ^ (63 - k) = 2 * (l / 2 ^ (64 - k)) + l / 2 ^ (63 - k) % 2 := by
  have e : (64 - k) = (63 - k) + 1 := by omega
  have e2 : (2 : Int) ^ (64 - k) = 2 ^ (63 - k) * 2 := by rw [e, Int.pow_succ]
  have hp : (0 : Int) ≤ 2 ^ (63 - k) := Int.le_of_lt (Int.pow_pos (by omega))
  rw [e2, ← Int.ediv_ediv_of_nonneg hp]
  omega
theorem pow_le63 (k : Nat) (hk : k ≤ 63) : (2 : Int) ^ k ≤ 9223372036854775808 := by
  have h : 2 ^ k ≤ 2 ^ 63 := Nat.pow_le_pow_right (by omega) hk
  have : ((2 ^ k : Nat) : Int) ≤ ((2 ^ 63 : Nat) : Int) := Int.ofNat_le.2 h
  rw [Int.natCast_pow] at this
  simpa using this
/-- What k rounds have brought: quotient Q and rest R of the first k bits. -/
structure Dv (r0 l b : Int) (k : Nat) (R Q : Int) : Prop where
  hk : k ≤ 64
  R0 : 0 ≤ R
  R1 : R < b
  Q0 : 0 ≤ Q
  Q1 : Q < 2 ^ k
  eq : Q * b + R = r0 * 2 ^ k + l / 2 ^ (64 - k)
theorem Dv.small {r0 l b R Q : Int} {k : Nat} (h : Dv r0 l b k R Q) (hk : k < 64) : Q ≤ 9223372036854775807 := by
  have := pow_le63 k (by omega); have := h.Q1; omega
theorem Dv.start (r0 l b : Int) (h0 : 0 ≤ r0) (h1 : r0 < b) (l0 : 0 ≤ l) (l1 : l ≤ 18446744073709551615) : Dv r0 l b 0 r0 0 :=
  ⟨by omega, h0, h1, by omega, by simp, by
    have : l / 2 ^ (64 - 0) = 0 := by
      refine Int.ediv_eq_zero_of_lt l0 ?_
      have e : (2 : Int) ^ (64 - 0) = 18446744073709551616 := rfl
      omega
    rw [this]; simp⟩
def bitAt (l : Int) (k : Nat) : Int := bits BinOp.and IntKind.u64 (l / 2 ^ (63 - k)) 1
theorem bitAt_eq (l : Int) (k : Nat) (l0 : 0 ≤ l) (l1 : l ≤ 18446744073709551615) : bitAt l k = l / 2 ^ (63 - k) % 2 := by
  unfold bitAt
  have hp : (0 : Int) < 2 ^ (63 - k) := Int.pow_pos (by omega)
  have a0 : 0 ≤ l / 2 ^ (63 - k) := Int.ediv_nonneg l0 (by omega)
  have a1 : l / 2 ^ (63 - k) ≤ l := Int.ediv_le_self _ l0
  exact and_one _ a0 (by omega)
theorem Dv.top {r0 l b R Q : Int} {k : Nat} (h : Dv r0 l b k R Q) (l0 : 0 ≤ l) (l1 : l ≤ 18446744073709551615) (b1 : b ≤ 9223372036854775808) :
    bits BinOp.or IntKind.u64 (R * 2) (bitAt l k) = 2 * R + bitAt l k ∧ 0 ≤ bitAt l k ∧ bitAt l k ≤ 1 := by
  have e := bitAt_eq l k l0 l1
  have := h.R0; have := h.R1
  refine ⟨?_, by omega, by omega⟩
  rw [Int.mul_comm R 2]
  exact or_one R _ h.R0 (by omega) (by omega) (by omega)
theorem Dv.less {r0 l b R Q : Int} {k : Nat} (h : Dv r0 l b k R Q) (hk : k < 64) (l0 : 0 ≤ l) (l1 : l ≤ 18446744073709551615)
    (hlt : 2 * R + bitAt l k < b) : Dv r0 l b (k + 1) (2 * R + bitAt l k) (2 * Q) := by
  have e := bitAt_eq l k l0 l1
  have hp := half_pow l k hk
  have := h.R0; have := h.R1; have := h.Q0; have := h.Q1; have heq := h.eq
  refine ⟨by omega, by omega, hlt, by omega, by rw [Int.pow_succ]; omega, ?_⟩
  rw [show 64 - (k + 1) = 63 - k by omega, hp, ← e, Int.pow_succ, ← Int.mul_assoc, Int.mul_assoc 2 Q b]
  omega
theorem Dv.more {r0 l b R Q : Int} {k : Nat} (h : Dv r0 l b k R Q) (hk : k < 64) (l0 : 0 ≤ l) (l1 : l ≤ 18446744073709551615)
    (hlt : b ≤ 2 * R + bitAt l k) : Dv r0 l b (k + 1) (2 * R + bitAt l k - b) (2 * Q + 1) := by
  have e := bitAt_eq l k l0 l1
  have hp := half_pow l k hk
  have := h.R0; have := h.R1; have := h.Q0; have := h.Q1; have heq := h.eq
  refine ⟨by omega, by omega, by omega, by omega, by rw [Int.pow_succ]; omega, ?_⟩
  rw [show 64 - (k + 1) = 63 - k by omega, hp, ← e, Int.pow_succ, ← Int.mul_assoc, Int.add_mul, Int.mul_assoc 2 Q b]
  omega
def dT (h l : Int) : Int := h * 18446744073709551616 + l
theorem divs (h l b Q R : Int) (b0 : 1 ≤ b) (R0 : 0 ≤ R) (R1 : R < b) (Q0 : 0 ≤ Q) (Q1 : Q < 18446744073709551616) (eq : Q * b + R = h % b * 18446744073709551616 + l) :
    dT h l / b / 18446744073709551616 = h / b ∧ dT h l / b % 18446744073709551616 = Q ∧ dT h l % b = R := by
  have hT : dT h l = R + b * (h / b * 18446744073709551616 + Q) := by
    have hm := Int.mul_ediv_add_emod h b
    unfold dT
    have e1 : h * 18446744073709551616 = b * (h / b) * 18446744073709551616 + h % b * 18446744073709551616 := by rw [← Int.add_mul, hm]
    rw [Int.mul_add, ← Int.mul_assoc, Int.mul_comm b Q]
    omega
  have hq : dT h l / b = h / b * 18446744073709551616 + Q := by
    rw [hT, Int.add_mul_ediv_left _ _ (by omega), Int.ediv_eq_zero_of_lt R0 R1, Int.zero_add]
  have hr : dT h l % b = R := by rw [hT, Int.add_mul_emod_self_left]; exact Int.emod_eq_of_lt R0 R1
  refine ⟨?_, ?_, hr⟩ <;> rw [hq] <;> omega
theorem Dv.done {h l b R Q : Int} (hd : Dv (h % b) l b 64 R Q) (b0 : 1 ≤ b) : dT h l / b / 18446744073709551616 = h / b ∧ dT h l / b % 18446744073709551616 = Q ∧ dT h l % b = R := by
  refine divs h l b Q R b0 hd.R0 hd.R1 hd.Q0 hd.Q1 ?_
  have := hd.eq
  simpa using this
theorem divs0 (h l b : Int) (b0 : 1 ≤ b) (l0 : 0 ≤ l) (l1 : l ≤ 18446744073709551615) (hz : h % b = 0) : dT h l / b / 18446744073709551616 = h / b ∧ dT h l / b % 18446744073709551616 = l / b ∧ dT h l % b = l % b := by
  have hm := Int.mul_ediv_add_emod l b
  refine divs h l b (l / b) (l % b) b0 (Int.emod_nonneg _ (by omega)) (Int.emod_lt_of_pos _ (by omega)) (Int.ediv_nonneg l0 (by omega)) (by have := Int.ediv_le_self b l0; omega) ?_
  rw [hz, Int.mul_comm]; omega
/-! ### The reference's long division of 128 bits -/
structure Ov (T b : Int) (k : Nat) (R Q : Int) : Prop where
  hk : k ≤ 128
  R0 : 0 ≤ R
  R1 : R < b
  Q0 : 0 ≤ Q
  eq : Q * b + R = T / 2 ^ (128 - k)
theorem half_pow' (l : Int) (k : Nat) (hk : k < 128) : l / 2 ^ (127 - k) = 2 * (l / 2 ^ (128 - k)) + l / 2 ^ (127 - k) % 2 := by
  have e : (128 - k) = (127 - k) + 1 := by omega
  have e2 : (2 : Int) ^ (128 - k) = 2 ^ (127 - k) * 2 := by rw [e, Int.pow_succ]
  have hp : (0 : Int) ≤ 2 ^ (127 - k) := Int.le_of_lt (Int.pow_pos (by omega))
  rw [e2, ← Int.ediv_ediv_of_nonneg hp]
  omega
theorem dT_bd (h l : Int) (h0 : 0 ≤ h) (h1 : h ≤ 18446744073709551615) (l0 : 0 ≤ l) (l1 : l ≤ 18446744073709551615) : 0 ≤ dT h l ∧ dT h l < 340282366920938463463374607431768211456 := by
  unfold dT; omega
theorem Ov.start (h l b : Int) (h0 : 0 ≤ h) (h1 : h ≤ 18446744073709551615) (l0 : 0 ≤ l) (l1 : l ≤ 18446744073709551615) (b0 : 1 ≤ b) : Ov (dT h l) b 0 0 0 :=
  ⟨by omega, by omega, by omega, by omega, by
    have hb := dT_bd h l h0 h1 l0 l1
    have : dT h l / 2 ^ (128 - 0) = 0 := by
      refine Int.ediv_eq_zero_of_lt hb.1 ?_
      have e : (2 : Int) ^ (128 - 0) = 340282366920938463463374607431768211456 := rfl
      omega
    rw [this]; simp⟩
def obit (T : Int) (k : Nat) : Int := T / 2 ^ (127 - k) % 2
theorem obit_bd (T : Int) (k : Nat) : 0 ≤ obit T k ∧ obit T k ≤ 1 := by unfold obit; omega
theorem obit_hi (h l : Int) (k : Nat) (hk : k < 64) (h0 : 0 ≤ h) (h1 : h ≤ 18446744073709551615) (l0 : 0 ≤ l) (l1 : l ≤ 18446744073709551615) :
    bits BinOp.and IntKind.u64 (h / 2 ^ ((127 - k) % 64)) 1 = obit (dT h l) k := by
  have e : (127 - k) % 64 = 63 - k := by omega
  have hp : (0 : Int) < 2 ^ (63 - k) := Int.pow_pos (by omega)
  rw [e, and_one _ (Int.ediv_nonneg h0 (by omega)) (by have := Int.ediv_le_self (2 ^ (63 - k)) h0; omega)]
  unfold obit
  have e2 : (2 : Int) ^ (127 - k) = 18446744073709551616 * 2 ^ (63 - k) := by
    rw [show 127 - k = 64 + (63 - k) by omega, Int.pow_add]; rfl
  rw [e2, ← Int.ediv_ediv_of_nonneg (by omega : (0:Int) ≤ 18446744073709551616)]
  rw [show dT h l / 18446744073709551616 = h by unfold dT; omega]
theorem obit_lo (h l : Int) (k : Nat) (hk : ¬ k < 64) (hk2 : k < 128) (l0 : 0 ≤ l) (l1 : l ≤ 18446744073709551615) :
    bits BinOp.and IntKind.u64 (l / 2 ^ ((127 - k) % 64)) 1 = obit (dT h l) k := by
  have e : (127 - k) % 64 = 127 - k := by omega
  have hp : (0 : Int) < 2 ^ (127 - k) := Int.pow_pos (by omega)
  rw [e, and_one _ (Int.ediv_nonneg l0 (by omega)) (by have := Int.ediv_le_self (2 ^ (127 - k)) l0; omega)]
  unfold obit dT
  have e2 : (18446744073709551616 : Int) = 2 ^ (127 - k) * (2 * 2 ^ (k - 64)) := by
    rw [← Int.mul_assoc, Int.mul_comm _ 2, Int.mul_assoc, ← Int.pow_add, ← show 63 = 127 - k + (k - 64) by omega]; rfl
  rw [e2, Int.mul_left_comm, Int.add_comm, Int.add_mul_ediv_left _ _ (by omega)]
  rw [← Int.mul_assoc, Int.mul_comm h 2, Int.mul_assoc]; omega
theorem Ov.less {T b R Q : Int} {k : Nat} (h : Ov T b k R Q) (hk : k < 128) (hlt : 2 * R + obit T k < b) : Ov T b (k + 1) (2 * R + obit T k) (2 * Q) := by
  have e := obit_bd T k
  have hp := half_pow' T k hk
  have := h.R0; have := h.R1; have := h.Q0; have heq := h.eq
  refine ⟨by omega, by omega, hlt, by omega, ?_⟩
  unfold obit
  rw [show 128 - (k + 1) = 127 - k by omega, hp, Int.mul_assoc 2 Q b]
  omega
theorem Ov.more {T b R Q : Int} {k : Nat} (h : Ov T b k R Q) (hk : k < 128) (hlt : b ≤ 2 * R + obit T k) : Ov T b (k + 1) (2 * R + obit T k - b) (2 * Q + 1) := by
  have e := obit_bd T k
  have hp := half_pow' T k hk
  have := h.R0; have := h.R1; have := h.Q0; have heq := h.eq
  refine ⟨by omega, by omega, by omega, by omega, ?_⟩
  unfold obit
  rw [show 128 - (k + 1) = 127 - k by omega, hp, Int.add_mul, Int.mul_assoc 2 Q b]
  omega
theorem Ov.done {T b R Q : Int} (h : Ov T b 128 R Q) (b0 : 1 ≤ b) : T / b = Q ∧ T % b = R := by
  have he : Q * b + R = T := by have := h.eq; simpa using this
  constructor
  · rw [← he, Int.add_comm, Int.add_mul_ediv_right _ _ (by omega), Int.ediv_eq_zero_of_lt h.R0 h.R1, Int.zero_add]
  · rw [← he, Int.add_comm, Int.add_mul_emod_self_right]; exact Int.emod_eq_of_lt h.R0 h.R1
def ovQ (T b : Int) : Int := if 18446744073709551616 ≤ T / b then 18446744073709551615 else T / b
theorem Ov.top {T b R Q : Int} {k : Nat} (h : Ov T b k R Q) (b1 : b ≤ 9223372036854775808) : bits BinOp.or IntKind.u64 (R * 2) (obit T k) = 2 * R + obit T k := by
  have := h.R0; have := h.R1; have e := obit_bd T k
  rw [Int.mul_comm R 2]
  exact or_one R _ h.R0 (by omega) (by omega) (by omega)
theorem shl_mod (Q : Int) : IntKind.u64.wrap (Q % 18446744073709551616 * 2) = 2 * Q % 18446744073709551616 := by rw [wrapu]; omega
theorem shl_one_mod (Q : Int) : bits BinOp.or IntKind.u64 (IntKind.u64.wrap (Q % 18446744073709551616 * 2)) 1 = (2 * Q + 1) % 18446744073709551616 := by
  rw [shl_mod, show 2 * Q % 18446744073709551616 = 2 * (Q % 9223372036854775808) by omega, or_one _ 1 (by omega) (by omega) (by omega) (by omega)]; omega
/-! ### The end of a product or quotient: rounded down, cut off -/
def sgS (q : Int) (n l : Bool) : Int :=
  if n = true then -(if l = true ∧ q < Most then q + 1 else if Most < q then Most else q) else if Most < q then Most else q
def endS (q : Int) (minus : Bool) (rest : Int) : Int :=
  let q' := if minus = true ∧ 0 < rest then q + 1 else q
  let m := if Most < q' then Most else q'
  if minus = true then -m else m
theorem dq_bd (h l b : Int) (h0 : 0 ≤ h) (h1 : h < 18446744073709551615) (l0 : 0 ≤ l) (l1 : l ≤ 18446744073709551615) (b0 : 1 ≤ b) :
    0 ≤ dT h l / b / 18446744073709551616 ∧ dT h l / b / 18446744073709551616 < 18446744073709551615 ∧ 0 ≤ dT h l / b % 18446744073709551616 ∧ dT h l / b % 18446744073709551616 ≤ 18446744073709551615 := by
  have hb := dT_bd h l h0 (by omega) l0 l1
  have h2 : dT h l / b ≤ dT h l := Int.ediv_le_self _ hb.1
  have h3 : 0 ≤ dT h l / b := Int.ediv_nonneg hb.1 (by omega)
  have : dT h l < 18446744073709551615 * 18446744073709551616 := by unfold dT; omega
  omega
theorem endS_up {q1 q2 x y r : Int} (e : Hd (x = q1 + (q2 + 1) / 18446744073709551616 ∧ y = (q2 + 1) % 18446744073709551616)) (hr : 0 < r) (q10 : 0 ≤ q1) (q20 : 0 ≤ q2) :
    endS (q1 * 18446744073709551616 + q2) true r = if 0 < x ∨ 9223372036854775807 < y then -9223372036854775807 else -y := by
  obtain ⟨⟨ex, ey⟩⟩ := e
  have h : q1 * 18446744073709551616 + q2 + 1 = x * 18446744073709551616 + y := by omega
  simp only [endS, Most, hr, and_self, if_true, h]
  split <;> split <;> omega
theorem endS_plain {q1 q2 r : Int} {m : Bool} (hr : m = true → ¬ 0 < r) (q10 : 0 ≤ q1) (q20 : 0 ≤ q2) :
    endS (q1 * 18446744073709551616 + q2) m r = if 0 < q1 ∨ 9223372036854775807 < q2 then (if m = true then -9223372036854775807 else 9223372036854775807) else (if m = true then -q2 else q2) := by
  have h : ¬ (m = true ∧ 0 < r) := fun h => hr h.1 h.2
  simp only [endS, Most, if_neg h]
  cases m <;> simp <;> split <;> split <;> omega
/-! ### Products and quotients -/
def mulS (a b : Int) : Int := endS (sz a * sz b / 65536) (decide (a < 0) != decide (b < 0)) (sz a * sz b % 65536)
def divS (a b : Int) : Int :=
  if b = 0 then (if 0 < a then 9223372036854775807 else if a < 0 then -9223372036854775807 else 0) else endS (sz a * 65536 / sz b) (decide (a < 0) != decide (b < 0)) (sz a * 65536 % sz b)
theorem dT_div (p : Int) : dT (p / 18446744073709551616) (p % 18446744073709551616) = p := by unfold dT; omega
theorem sz_pos {b : Int} (h : I64 b) (hb : b ≠ 0) : 1 ≤ sz b := by
  unfold I64 at h; unfold sz cnt Most; split <;> split <;> omega
theorem prod_bd {x y : Int} (hx : 0 ≤ x ∧ x ≤ 9223372036854775807) (hy : 0 ≤ y ∧ y ≤ 9223372036854775807) : 0 ≤ x * y ∧ x * y ≤ 85070591730234615847396907784232501249 := by
  refine ⟨Int.mul_nonneg hx.1 hy.1, ?_⟩
  have := Int.mul_le_mul hx.2 hy.2 hy.1 (by omega : (0 : Int) ≤ 9223372036854775807)
  omega
theorem sgS_endS {p b : Int} {m : Bool} (hp : 0 ≤ p) (hb : 1 ≤ b) : sgS (ovQ p b) m (decide (0 < p % b)) = endS (p / b) m (p % b) := by
  have h0 : 0 ≤ p / b := Int.ediv_nonneg hp (by omega)
  unfold sgS ovQ endS Most
  generalize p / b = q at *
  generalize p % b = r at *
  cases m
  · simp; split <;> split <;> (try split) <;> omega
  · by_cases hr : 0 < r
    · simp [hr]; repeat' split
      all_goals omega
    · simp [hr]; repeat' split
      all_goals omega
theorem cnt_sign {a : Int} (h : I64 a) : (cnt a < 0 ↔ a < 0) := by unfold I64 at h; unfold cnt Most; split <;> omega
theorem cnt_zero {a : Int} (h : I64 a) : (cnt a = 0 ↔ a = 0) := by unfold I64 at h; unfold cnt Most; split <;> omega
theorem cnt_pos {a : Int} (h : I64 a) : (0 < cnt a ↔ 0 < a) := by unfold I64 at h; unfold cnt Most; split <;> omega
theorem cmp_zero {a : Int} (h : I64 a) : cmpS a 0 = if 0 < a then 1 else if a < 0 then -1 else 0 := by
  have := cnt_sign h; have := cnt_pos h
  have h0 : cnt 0 = 0 := by decide
  unfold cmpS; rw [h0]; split <;> split <;> (try split) <;> omega
theorem endS_bd (q : Int) (m : Bool) (r : Int) (hq : 0 ≤ q) : -9223372036854775807 ≤ endS q m r ∧ endS q m r ≤ 9223372036854775807 := by
  unfold endS Most; cases m <;> simp <;> (repeat' split) <;> omega
end Go.Proofs.YthabjihpjdlmoaaDoor.Fx
/- The contracts of the simplest functions of packages fixed and wide and of the reference of layer 1: what each call answers, for all arguments. -/
namespace Go.Proofs.YthabjihpjdlmoaaDoor
open Go.RowKit
set_option linter.unusedVariables false

theorem bcell {W w1 : World} (hb : Below W.heap.size W w1) : (∀ b o, b < W.heap.size → w1.cell? ⟨b, o, none⟩ = W.cell? ⟨b, o, none⟩) ∧ (∀ b o, b < W.heap.size → w1.frozen? ⟨b, o, none⟩ = W.frozen? ⟨b, o, none⟩) :=
  ⟨fun b o h => hb.cell (p := ⟨b, o, none⟩) h, fun b o h => hb.frozen (p := ⟨b, o, none⟩) h⟩
theorem pair_kept {w1 w2 : World} {x y : Value} {t : TypeId} (hb : Below (w1.alloc (.cells #[x, y] t)).heap.size (w1.alloc (.cells #[x, y] t)) w2) :
    w2.cell? ⟨w1.heap.size, 0, none⟩ = some x ∧ w2.cell? ⟨w1.heap.size, 1, none⟩ = some y ∧ w2.frozen? ⟨w1.heap.size, 0, none⟩ = false ∧ w2.frozen? ⟨w1.heap.size, 1, none⟩ = false ∧ w1.heap.size < w2.heap.size := by
  have hs := hb.size
  refine ⟨(hb.cell (p := ⟨w1.heap.size, 0, none⟩) (by simp)).trans (by go_simp), (hb.cell (p := ⟨w1.heap.size, 1, none⟩) (by simp)).trans (by go_simp), (hb.frozen (p := ⟨w1.heap.size, 0, none⟩) (by simp)).trans (by go_simp), (hb.frozen (p := ⟨w1.heap.size, 1, none⟩) (by simp)).trans (by go_simp), ?_⟩
  simp at hs; omega
theorem two_twice {w : World} {g : Nat} {a b : Value} (c0 : w.cell? ⟨g, 0, none⟩ = some a) (c1 : w.cell? ⟨g, 1, none⟩ = some b) (X Y X' Y' : Value) :
    ((((w.setCell ⟨g, 0, none⟩ X).setCell ⟨g, 1, none⟩ Y).setCell ⟨g, 0, none⟩ X').setCell ⟨g, 1, none⟩ Y').cell? ⟨g, 1, none⟩ = some Y' := by
  have n1 : ∀ (w : World) (v : Value), (w.setCell ⟨g, 0, none⟩ v).cell? ⟨g, 1, none⟩ = w.cell? ⟨g, 1, none⟩ := fun w v => World.cell?_setCell_other _ _ _ _ (by simp)
  refine World.cell?_setCell_same _ _ _ (u := Y) ?_
  rw [n1]
  refine World.cell?_setCell_same _ _ _ (u := b) ?_
  rw [n1]
  exact c1
theorem of_any (a : Int) (w : World) (h : Fx.I64 a) :
    Calls Tryd.prog 101 #[.int .i64 a] w fun e w' => e = .returned (.int .i64 (Fx.cnt a)) ∧ w = w' := by
  obtain ⟨h1, h2⟩ := h
  by_cases hc : a < -9223372036854775807
  · have hx : Fx.Hd (Fx.cnt a = -9223372036854775807) := ⟨by unfold Fx.cnt Fx.Most; rw [if_pos hc]⟩
    go_enter Tryd.func101, Tryd.ntmps101
    go_wp2
    go_ret
    exact ⟨Fx.ri hx.out.symm, rfl⟩
  · have hx : Fx.Hd (Fx.cnt a = a) := ⟨by unfold Fx.cnt Fx.Most; rw [if_neg hc]⟩
    go_enter Tryd.func101, Tryd.ntmps101
    go_wp2
    go_ret
    exact ⟨Fx.ri hx.out.symm, rfl⟩
theorem rless_any (a b c d : Int) (w : World) :
    Calls Tryd.prog 102 #[.agg #[.int .u64 a, .int .u64 b], .agg #[.int .u64 c, .int .u64 d]] w fun e w' => e = .returned (.bool (Fx.lessB a b c d)) ∧ Below w.heap.size w w' := by
  go_enter Tryd.func102, Tryd.ntmps102
  go_wp2
  all_goals
    go_ret
    exact ⟨Fx.rb (by simp [Fx.lessB, *] <;> omega), ((Below.refl _ _).alloc (Nat.le_refl _) _).alloc (by simp) _⟩
theorem times_any (a b : Int) (w : World) (ha : 0 ≤ a) (ha' : a ≤ 18446744073709551615) (hb : 0 ≤ b) (hb' : b ≤ 18446744073709551615) :
    Calls Tryd.prog 105 #[.int .u64 a, .int .u64 b] w fun e w' => e = .returned (.agg #[.int .u64 (a * b / 18446744073709551616), .int .u64 (a * b % 18446744073709551616)]) ∧ Below w.heap.size w w' := by
  go_enter Tryd.func105, Tryd.ntmps105
  go_wp2
  refine bodyPost_ret (v := .agg #[.int .u64 (Fx.mHi a b), .int .u64 (Fx.mLo a b)]) (by simp [results, Tryd.results105, go_sem, Fx.mHi, Fx.mLo, Fx.mCr, Fx.mMid, Fx.mLow]) rfl ⟨?_, ?_⟩
  · rw [Fx.mHi_eq a b ha ha' hb hb', Fx.mLo_eq a b ha ha' hb hb']
  · exact (Below.refl _ _).alloc (Nat.le_refl _) _
end Go.Proofs.YthabjihpjdlmoaaDoor
/- The contracts of size, Add, Sub, Neg, Cmp of package fixed and of the reference of layer 1: what each call answers, for all arguments. -/
namespace Go.Proofs.YthabjihpjdlmoaaDoor
open Go.RowKit
set_option linter.unusedVariables false

theorem rsize_any (a : Int) (w : World) (h1 : -9223372036854775807 ≤ a) (h2 : a ≤ 9223372036854775807) :
    Calls Tryd.prog 125 #[.int .i64 a] w fun e w' => e = .returned (.int .u64 (Fx.ab a)) ∧ w = w' := by
  go_enter Tryd.func125, Tryd.ntmps125
  go_wp2
  all_goals
    go_ret
    exact ⟨Fx.ri (by unfold Fx.ab; split <;> omega), rfl⟩
theorem rneg_any (a : Int) (w : World) (h : Fx.I64 a) :
    Calls Tryd.prog 140 #[.int .i64 a] w fun e w' => e = .returned (.int .i64 (Fx.negS a)) ∧ w = w' := by
  have hb := Fx.cnt_bd h
  go_enter Tryd.func140, Tryd.ntmps140
  go_wp2_with (go_at_call 101; refine (of_any _ _ h).mono ?_; rintro e w' ⟨rfl, rfl⟩)
  go_ret
  exact ⟨Fx.ri (by unfold Fx.negS; omega), rfl⟩
theorem radd_any (a b : Int) (w : World) (ha : Fx.I64 a) (hb : Fx.I64 b) :
    Calls Tryd.prog 139 #[.int .i64 a, .int .i64 b] w fun e w' => e = .returned (.int .i64 (Fx.addS a b)) ∧ w = w' := by
  have h1 := Fx.cnt_bd ha
  have h2 := Fx.cnt_bd hb
  go_enter Tryd.func139, Tryd.ntmps139
  go_wp2_with (go_at_call 101; refine (of_any _ _ (by assumption)).mono ?_; rintro e w' ⟨rfl, rfl⟩)
  all_goals
    go_ret
    exact ⟨Fx.ri (by unfold Fx.addS Fx.clampM Fx.Most; split <;> (try split) <;> omega), rfl⟩
theorem rsub_any (a b : Int) (w : World) (ha : Fx.I64 a) (hb : Fx.I64 b) :
    Calls Tryd.prog 127 #[.int .i64 a, .int .i64 b] w fun e w' => e = .returned (.int .i64 (Fx.subS a b)) ∧ w = w' := by
  have hn := Fx.neg_i64 hb
  go_enter Tryd.func127, Tryd.ntmps127
  go_wp2_with (first | (go_at_call 140; refine (rneg_any _ _ hb).mono ?_; rintro e w' ⟨rfl, rfl⟩) | (go_at_call 139; refine (radd_any _ _ _ ha hn).mono ?_; rintro e w' ⟨rfl, rfl⟩))
  go_ret
  exact ⟨Fx.ri rfl, rfl⟩
end Go.Proofs.YthabjihpjdlmoaaDoor
/- The contracts of the reference's division of a number of 128 bits (Over) and of its end (signed). -/
namespace Go.Proofs.YthabjihpjdlmoaaDoor
open Go.RowKit
set_option linter.unusedVariables false
end Go.Proofs.YthabjihpjdlmoaaDoor
/- The contract of wide.Div: quotient and rest of a number of 128 bits, for every divisor from 1 to 2^63. -/
namespace Go.Proofs.YthabjihpjdlmoaaDoor
open Go.RowKit
set_option linter.unusedVariables false
end Go.Proofs.YthabjihpjdlmoaaDoor
