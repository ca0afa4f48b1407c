import Derived.Deep.QuietTactic
import Derived.BigQuiet
import Derived.Deep.RegionWith
import Derived.Deep.RegionHeld3
import Derived.Deep.DeepCutAuto
import Derived.Deep.DeepFit
import Derived.Outline
import Derived.Test.YtdpblimhfmfbnaaZsaa
import Derived.Test.YtdpblimhfmfbnaaZsy
import Derived.Shelf.Abstract
import Derived.Test.YtdpblimhfmfbnaaZsa
import Derived.Test.YtdpblimhfmfbnaaZsc
import Derived.Deep.RegionLaw
import Derived.Lib.SlBuf
import Derived.Deep.Upon
import Derived.Test.YtdpblimhfmfbnaaZsm
set_option linter.unusedVariables false
set_option linter.unusedSimpArgs false
namespace Go.Proofs.Ytdpblimhfmfbnaa
open Go.ChangeShapes Go.WideShapes Go.ChangeAt Go.RowKit Go.Deep
theorem smI_of {w z : World} {B1 B2 n1 n2 : Nat} {a1 a2 : Option Addr} {M l : List Iv} (h1 : InD z B1 a1 n1 M) (h2 : InD w B2 a2 n2 l) (hs : SmI l) (hm : ∀ x, x ∈ abI M → x ∈ abI l) (hl : M.length ≤ l.length) : SmI M := ⟨Nat.le_trans hl hs.n, fun x hx => by
 obtain ⟨y, hy, e⟩ := List.mem_map.1 (hm x.ab (List.mem_map_of_mem hx))
 have e1 : abC y.l = abC x.l := congrArg In.l e
 have e2 := congrArg List.length e1
 rw [abC_len, abC_len] at e2
 refine ⟨by have := (hs.m y hy).n; omega, fun q hq => ?_⟩
 have h3 : q.ab ∈ abC y.l := by rw [e1]; exact List.mem_map_of_mem hq
 obtain ⟨r, hr, e4⟩ := List.mem_map.1 h3
 have h5 := congrArg (fun c : Cm => c.f.u.length) e4
 have h6 : r.u.length = q.u.length := h5
 have h7 := ((h2.u y hy).u r hr).len
 have h8 := ((h1.u x hx).u q hq).len
 have h9 := (hs.m y hy).m r hr
 omega⟩
theorem TkR.weak {w : World} {B B' n n' : Nat} {v v' : Value} {l l' : List Iv} (h : TkR w B v n l v' n' l') (hb : B' ≤ B) : TkR w B' v n l v' n' l' := ⟨h.a.weak hb, h.b.weak hb, h.ds⟩
structure Tk2 (w : World) (B : Nat) (s1 : Option Addr) (n1 e1 : Nat) (M1 : List Iv) (s2 : Option Addr) (n2 e2 : Nat) (M2 : List Iv) (F1 F2 : List In) : Prop where
 r : TkR w B (.slice s1 n1 e1) n1 M1 (.slice s2 n2 e2) n2 M2
 f1 : abI M1 = F1
 f2 : abI M2 = F2
section
variable {w z : World} {B B' n1 e1 n2 e2 : Nat} {s1 s2 : Option Addr} {M1 M2 : List Iv} {F1 F2 : List In}
theorem Tk2.below (h : Tk2 w B s1 n1 e1 M1 s2 n2 e2 M2 F1 F2) (hb : Below w.heap.size w z) : Tk2 z B s1 n1 e1 M1 s2 n2 e2 M2 F1 F2 := ⟨h.r.below hb, h.f1, h.f2⟩
theorem Tk2.weak (h : Tk2 w B s1 n1 e1 M1 s2 n2 e2 M2 F1 F2) (hb : B' ≤ B) : Tk2 w B' s1 n1 e1 M1 s2 n2 e2 M2 F1 F2 := ⟨h.r.weak hb, h.f1, h.f2⟩
theorem Tk2.nil (w : World) (B : Nat) : Tk2 w B none 0 0 [] none 0 0 [] [] [] := ⟨TkR.nil _ _, rfl, rfl⟩
structure Tk3 (w : World) (B : Nat) (s1 : Option Addr) (n1 e1 : Nat) (M1 : List Iv) (s2 : Option Addr) (n2 e2 : Nat) (M2 : List Iv) (F1 F2 : List In) : Prop where
 t : Tk2 w B s1 n1 e1 M1 s2 n2 e2 M2 F1 F2
 q1 : SmI M1
 q2 : SmI M2
theorem Tk3.of {W : World} {B2 n : Nat} {a : Option Addr} {l : List Iv} (h : Tk2 w B s1 n1 e1 M1 s2 n2 e2 M2 F1 F2) (hd : InD W B2 a n l) (hs : SmI l) (p q : In → Bool) (h1 : F1 = (abI l).filter p) (h2 : F2 = (abI l).filter q) : Tk3 w B s1 n1 e1 M1 s2 n2 e2 M2 F1 F2 := ⟨h, smI_of h.r.a.d hd hs (fun x hx => by rw [h.f1, h1] at hx; exact (List.mem_filter.1 hx).1) (by
 have := congrArg List.length h.f1
 rw [abI_len, h1] at this
 rw [this, ← abI_len l]
 exact List.length_filter_le _ _), smI_of h.r.b.d hd hs (fun x hx => by rw [h.f2, h2] at hx; exact (List.mem_filter.1 hx).1) (by
 have := congrArg List.length h.f2
 rw [abI_len, h2] at this
 rw [this, ← abI_len l]
 exact List.length_filter_le _ _)⟩
theorem SmI.nil : SmI [] := ⟨Nat.zero_le _, fun _ h => by cases h⟩
theorem Tk3.nil (w : World) (B : Nat) : Tk3 w B none 0 0 [] none 0 0 [] [] [] := ⟨Tk2.nil _ _, SmI.nil, SmI.nil⟩
theorem Tk3.below (h : Tk3 w B s1 n1 e1 M1 s2 n2 e2 M2 F1 F2) (hb : Below w.heap.size w z) : Tk3 z B s1 n1 e1 M1 s2 n2 e2 M2 F1 F2 := ⟨h.t.below hb, h.q1, h.q2⟩
end
end Go.Proofs.Ytdpblimhfmfbnaa
namespace Go.Proofs.Ytdpblimhfmfbnaa
open Go.ChangeShapes Go.WideShapes Go.ChangeAt Go.RowKit Go.Deep
theorem put_app {x : In} : ∀ {a b : List In}, (∀ y, y ∈ a → ltB y x = true) → putN x (a ++ b) = (putN x b).map (a ++ ·)
 | [], b, _ => by cases h : putN x b <;> simp [h]
 | y :: a, b, h => by
  show (if ltB y x = true then (putN x (a ++ b)).map (y :: ·) else _) = _
  rw [if_pos (h y List.mem_cons_self), put_app fun z hz => h z (List.mem_cons_of_mem _ hz)]
  cases putN x b <;> rfl
theorem put_end {x : In} {l : List In} (h : ∀ y, y ∈ l → ltB y x = true) : putN x l = some (l ++ [x]) := by
 have := put_app (b := []) h
 rw [List.append_nil] at this
 rw [this]; rfl
theorem put_mid {x : In} {l : List In} {k : Nat} (hk : k < l.length) (h : ∀ y, y ∈ l.take k → ltB y x = true) (h1 : ltB l[k] x = false) : putN x l = if ltB x l[k] = true then some (l.take k ++ x :: l.drop k) else none := by
 have e : l = l.take k ++ l.drop k := (List.take_append_drop k l).symm
 have e2 : l.drop k = l[k] :: l.drop (k + 1) := List.drop_eq_getElem_cons hk
 have : putN x l = (putN x (l.drop k)).map (l.take k ++ ·) := by
  conv => lhs; rw [e]
  exact put_app h
 rw [this, e2]
 show (if ltB l[k] x = true then _ else if ltB x l[k] = true then _ else _ : Option (List In)).map _ = _
 rw [if_neg (by rw [h1]; decide)]
 by_cases h2 : ltB x l[k] = true
 ·rw [if_pos h2, if_pos h2]; rfl
 ·rw [if_neg h2, if_neg h2]; rfl
end Go.Proofs.Ytdpblimhfmfbnaa
namespace Go.Proofs.Ytdpblimhfmfbnaa
open List renaming getElem_toArray → jjA, getElem_cons_succ → jjB, getElem_cons_zero → jjC, setIfInBounds_toArray → jjD, set_cons_zero → jjE, set_cons_succ → jjF
open Go.ChangeShapes Go.WideShapes Go.ChangeAt Go.RowKit Go.Deep
theorem compI_as (x y : Iv) (r : Int) (W : World) (E : Hk (cfI x y = r)) :
  Calls Try.prog 49 #[.agg #[.int .i64 x.t, .int .i64 x.p, .slice x.a x.n x.c], .agg #[.int .i64 y.t, .int .i64 y.p, .slice y.a y.n y.c]] W fun e w' => e = .returned (.int .i64 r) ∧ Below W.heap.size W w' := by
 rw [← E.out]; exact compI_b x y W
theorem sorted_lt {l : List Iv} (h : sortedN (abI l)) {i j : Nat} (hij : i < j) (hj : j < l.length) : ltI (l.getD i default) (l.getD j default) := by
 have := List.pairwise_iff_getElem.1 h i j (by rw [abI_len]; omega) (by rw [abI_len]; exact hj) hij
 rw [← ltB_iff]
 simpa [abI, List.getD, hj, show i < l.length by omega] using this
theorem ltI_trans {x y z : Iv} (h : ltI x y) (k : ltI y z) : ltI x z := by unfold ltI at *; omega
theorem cfI_zero {x y : Iv} : cfI x y = 0 ↔ ¬ ltI x y ∧ ¬ ltI y x := by
 unfold cfI orI cmpI ltI
 by_cases a : x.t < y.t
 ·simp [a]
 ·by_cases b : y.t < x.t
  ·simp [a, b]
  ·by_cases c : x.p < y.p
   ·simp [a, b, c] <;> omega
   ·by_cases d : y.p < x.p
    ·simp [a, b, c, d] <;> omega
    ·simp [a, b, c, d] <;> omega
set_option maxRecDepth 100000 in
set_option maxHeartbeats 1600000 in
theorem bsI_any (q : Iv) (a : Option Addr) (n c : Nat) (l : List Iv) (w : World) (h : Qv shI w w.heap.size a n l) (hn : n ≤ 1048576) (hso : sortedN (abI l)) :
  Calls Try.prog 48 #[.slice a n c, .agg #[.int .i64 q.t, .int .i64 q.p, .slice q.a q.n q.c], .func (.func 49) #[] #[]] w fun e w' => (∃ (i : Nat) (d : Bool), e = .returned (.tuple #[.int .i64 i, .bool d]) ∧ i ≤ n ∧ (∀ k, k < i → ltI (l.getD k default) q) ∧ (∀ k, i ≤ k → k < n → ¬ ltI (l.getD k default) q) ∧ (d = true ↔ (i < n ∧ ¬ ltI q (l.getD i default)))) ∧ Below w.heap.size w w' := by
 have eg : ∀ args w, (callFunc 49 args).run Try.prog w = .ok (.enter 49 args) w := enters_of Try.func49 (by kernel_rfl) rfl
 have HWB : Hk (Below w.heap.size w (w.alloc (.cells #[.int .i64 q.t, .int .i64 q.p, .slice q.a q.n q.c] 55))) := ⟨(Below.refl _ _).alloc (Nat.le_refl _) _⟩
 have hNW : (w.heap.size + 1) ≤ (w.alloc (.cells #[.int .i64 q.t, .int .i64 q.p, .slice q.a q.n q.c] 55)).heap.size := by simp
 have HB : Hk (Below (w.heap.size + 1) (w.alloc (.cells #[.int .i64 q.t, .int .i64 q.p, .slice q.a q.n q.c] 55)) (w.alloc (.cells #[.int .i64 q.t, .int .i64 q.p, .slice q.a q.n q.c] 55))) := ⟨Below.refl _ _⟩
 have HTR : Hk (∀ X, Below (w.heap.size + 1) (w.alloc (.cells #[.int .i64 q.t, .int .i64 q.p, .slice q.a q.n q.c] 55)) X → Below w.heap.size w X) := ⟨fun X hX => HWB.out.trans (hX.mono (by omega))⟩
 have HP := Hk.mk (Bk.new w #[.int .i64 q.t, .int .i64 q.p, .slice q.a q.n q.c] 55)
 have HVF : Hk (∀ X, Below (w.heap.size + 1) (w.alloc (.cells #[.int .i64 q.t, .int .i64 q.p, .slice q.a q.n q.c] 55)) X → X.cell? ⟨w.heap.size, 0, none⟩ = some (.int .i64 q.t) ∧ X.cell? ⟨w.heap.size, 1, none⟩ = some (.int .i64 q.p) ∧ X.cell? ⟨w.heap.size, 2, none⟩ = some (.slice q.a q.n q.c) ∧ w.heap.size < X.heap.size) := ⟨fun X hX => by
  have h0 := (hX.cell (p := ⟨w.heap.size, 0, none⟩) (Nat.lt_succ_self _)).trans (HP.out.c 0)
  exact ⟨h0, (hX.cell (p := ⟨w.heap.size, 1, none⟩) (Nat.lt_succ_self _)).trans (HP.out.c 1), (hX.cell (p := ⟨w.heap.size, 2, none⟩) (Nat.lt_succ_self _)).trans (HP.out.c 2), World.block_lt_of_cell? _ _ h0⟩⟩
 have HI : Hk (∀ X, Below (w.heap.size + 1) (w.alloc (.cells #[.int .i64 q.t, .int .i64 q.p, .slice q.a q.n q.c] 55)) X → Qv shI X X.heap.size a n l) := ⟨fun X hX => (h.below (HTR.out X hX) (Nat.le_refl _)).mono (HTR.out X hX).size⟩
 have HL := Hk.mk h.len
 have HSO := Hk.mk hso
 clear h hso HP
 go_enter Try.func48, Try.ntmps48
 go_wp2_with fail
 go_loopw [9, 10] (fun x y wr => ∃ i j : Nat, x = .int .i64 i ∧ y = .int .i64 j ∧ i ≤ j ∧ j ≤ n ∧ Hk (∀ k, k < i → ltI (l.getD k default) q) ∧ Hk (∀ k, j ≤ k → k < n → ¬ ltI (l.getD k default) q) ∧ Hk (Below (w.heap.size + 1) (w.alloc (.cells #[.int .i64 q.t, .int .i64 q.p, .slice q.a q.n q.c] 55)) wr)) (fun x y _ => (intOf y).toNat - (intOf x).toNat)
 case atStart => exact ⟨0, n, rfl, rfl, by omega, by omega, ⟨fun k hk => absurd hk (by omega)⟩, ⟨fun k h1 h2 => absurd h1 (by omega)⟩, HB⟩
 case round =>
  clear HB
  obtain ⟨i, j, rfl, rfl, hij, hjn, HLo, HHi, HB⟩ := hrel
  obtain ⟨x0, x1, x2, xl⟩ := HVF.out _ HB.out
  have HV : Hk (Below wr.heap.size wr wr) := ⟨Below.refl _ _⟩
  by_cases hlt : i < j
  ·obtain ⟨m, hm2, hm3, hm4⟩ : ∃ m : Nat, ((i : Int) + (j : Int)) / 2 = m ∧ i ≤ m ∧ m < j := ⟨(((i : Int) + (j : Int)) / 2).toNat, by omega, by omega, by omega⟩
   have hml : m < l.length := by rw [HL.out]; omega
   obtain ⟨b, off, rfl, hbl, hcc⟩ := (HI.out _ HB.out).rd (by omega)
   have p0 := hcc m hml 0 (by decide)
   have p1 := hcc m hml 1 (by decide)
   have p2 := hcc m hml 2 (by decide)
   have hgd : l[m] = l.getD m default := by simp [List.getD, hml]
   rw [hgd] at p0 p1 p2
   obtain ⟨pq, he⟩ : ∃ e, l.getD m default = e := ⟨_, rfl⟩
   rw [he] at p0 p1 p2
   replace p0 : wr.cell? ⟨b, off + m * 3, none⟩ = some (.int .i64 pq.t) := p0
   replace p1 : wr.cell? ⟨b, off + m * 3 + 1, none⟩ = some (.int .i64 pq.p) := p1
   replace p2 : wr.cell? ⟨b, off + m * 3 + 2, none⟩ = some (.slice pq.a pq.n pq.c) := p2
   have HE := Hk.mk he
   clear he hgd hcc
   have m0 : (0 : Int) ≤ (m : Int) := by omega
   have m1 : (m : Int) < (n : Int) := by omega
   have u1 : IntKind.u64.wrap ((i : Int) + (j : Int)) = (i : Int) + (j : Int) := by rw [IntKind.wrap_u64]; omega
   have u2 : ((i : Int) + (j : Int)) / 2 ^ (1 : Int).toNat = (m : Int) := by simpa using hm2
   have HIJ : Hk (i ≤ m ∧ m < j ∧ j ≤ n) := ⟨⟨hm3, hm4, hjn⟩⟩
   have HML := Hk.mk hml
   by_cases hlo : ltI pq q
   ·have HN : Hk (∀ k, k < m + 1 → ltI (l.getD k default) q) := ⟨fun k hk => by
     by_cases e : k = m
     ·rw [e, HE.out]; exact hlo
     ·exact ltI_trans (sorted_lt HSO.out (show k < m by omega) HML.out) (by rw [HE.out]; exact hlo)⟩
    obtain ⟨r, hr⟩ : ∃ r, cfI pq q = r := ⟨_, rfl⟩
    have EC := Hk.mk hr
    have dr : decide (r < 0) = true := by rw [decide_eq_true_iff, ← hr]; exact (cfI_neg pq q).2 hlo
    clear hlo hr hml
    go_upto_region 5 with fail
    focus
     refine wp_region_held_drew (S := (fun X => (∀ b o, b < wr.heap.size → X.cell? ⟨b, o, none⟩ = wr.cell? ⟨b, o, none⟩) ∧ Below wr.heap.size wr X)) (by kernel_rfl) ?_ (fun hHeld => ?_)
     ·exact kw_S (kw_drew HV.out)
     have HI : Ix [0, 1, 2, 3, 4, 5] := trivial
     iterate 6 (refine tkA HI (v := ?_) rfl (by kernel_rfl) (fun _ _ _ h => h) (.inl ⟨by rfl, fun wX hSw => ?_⟩) hHeld (fun HJ => ?_); rotate_left; (focus ((try dsimp only at hSw); go_simp; try with_reducible rfl)); clear HI; have HI := HJ; clear HJ; try simp only [Act.put, jjA, jjB, jjC, jjD, jjE, jjF])
     clear HI
     refine wpAnyH_ready (rs := [6]) (by kernel_rfl) (by simp) ?_
     refine AllReadyH.cons rfl (fun K hK => ?_) (AllReadyH.nil)
     go_simp
     ((refine (compI_as pq q r _ EC).mono ?_; rintro e z ⟨rfl, hb⟩; have hB2 : Hk (Below wr.heap.size wr z) := ⟨by first | exact kw_step HV.out (Nat.le_refl _) hb | exact kw_step HV.out.drew (Nat.le_refl _) hb⟩; clear hb; replace HV := hB2; clear hB2))
     refine hK.out _ _ ?_ (fun hHeld => ?_)
     ·exact kw_S HV.out
     clear hK K
     (try simp only [Act.put, jjA, jjB, jjC, jjD, jjE, jjF])
     have HI : Ix [7] := trivial
     (refine tkA HI (v := ?_) rfl (by kernel_rfl) (fun _ _ _ h => h) (.inl ⟨by rfl, fun wX hSw => ?_⟩) hHeld (fun HJ => ?_); rotate_left; (focus ((try dsimp only at hSw); go_simp; try with_reducible rfl)); clear HI; have HI := HJ; clear HJ; try simp only [Act.put, jjA, jjB, jjC, jjD, jjE, jjF])
     clear HI
     refine wpAnyH_done (by kernel_rfl) ?_ _
     have HB2 := Hk.mk (HB.out.trans (HV.out.mono (kw_size HB.out hNW)))
     go_wp2_with fail
     exact ⟨⟨m + 1, j, by go_num, rfl, by have := HIJ.out; omega, HIJ.out.2.2, HN, HHi, HB2⟩, by have := HIJ.out; simp [intOf]; omega⟩
   ·have HN : Hk (∀ k, m ≤ k → k < n → ¬ ltI (l.getD k default) q) := ⟨fun k h1 h2 h3 => by
     by_cases e : k = m
     ·rw [e, HE.out] at h3; exact hlo h3
     ·have := ltI_trans (sorted_lt HSO.out (show m < k by omega) (by rw [HL.out]; omega)) h3
      rw [HE.out] at this; exact hlo this⟩
    obtain ⟨r, hr⟩ : ∃ r, cfI pq q = r := ⟨_, rfl⟩
    have EC := Hk.mk hr
    have dr : decide (r < 0) = false := by rw [decide_eq_false_iff_not, ← hr]; exact fun h => hlo ((cfI_neg pq q).1 h)
    clear hlo hr hml
    go_upto_region 5 with fail
    focus
     refine wp_region_held_drew (S := (fun X => (∀ b o, b < wr.heap.size → X.cell? ⟨b, o, none⟩ = wr.cell? ⟨b, o, none⟩) ∧ Below wr.heap.size wr X)) (by kernel_rfl) ?_ (fun hHeld => ?_)
     ·exact kw_S (kw_drew HV.out)
     have HI : Ix [0, 1, 2, 3, 4, 5] := trivial
     iterate 6 (refine tkA HI (v := ?_) rfl (by kernel_rfl) (fun _ _ _ h => h) (.inl ⟨by rfl, fun wX hSw => ?_⟩) hHeld (fun HJ => ?_); rotate_left; (focus ((try dsimp only at hSw); go_simp; try with_reducible rfl)); clear HI; have HI := HJ; clear HJ; try simp only [Act.put, jjA, jjB, jjC, jjD, jjE, jjF])
     clear HI
     refine wpAnyH_ready (rs := [6]) (by kernel_rfl) (by simp) ?_
     refine AllReadyH.cons rfl (fun K hK => ?_) (AllReadyH.nil)
     go_simp
     ((refine (compI_as pq q r _ EC).mono ?_; rintro e z ⟨rfl, hb⟩; have hB2 : Hk (Below wr.heap.size wr z) := ⟨by first | exact kw_step HV.out (Nat.le_refl _) hb | exact kw_step HV.out.drew (Nat.le_refl _) hb⟩; clear hb; replace HV := hB2; clear hB2))
     refine hK.out _ _ ?_ (fun hHeld => ?_)
     ·exact kw_S HV.out
     clear hK K
     (try simp only [Act.put, jjA, jjB, jjC, jjD, jjE, jjF])
     have HI : Ix [7] := trivial
     (refine tkA HI (v := ?_) rfl (by kernel_rfl) (fun _ _ _ h => h) (.inl ⟨by rfl, fun wX hSw => ?_⟩) hHeld (fun HJ => ?_); rotate_left; (focus ((try dsimp only at hSw); go_simp; try with_reducible rfl)); clear HI; have HI := HJ; clear HJ; try simp only [Act.put, jjA, jjB, jjC, jjD, jjE, jjF])
     clear HI
     refine wpAnyH_done (by kernel_rfl) ?_ _
     have HB2 := Hk.mk (HB.out.trans (HV.out.mono (kw_size HB.out hNW)))
     go_wp2_with fail
     exact ⟨⟨i, m, rfl, rfl, HIJ.out.1, by have := HIJ.out; omega, HLo, HN, HB2⟩, by have := HIJ.out; simp [intOf]; omega⟩
  ·have hji : j = i := by omega
   subst hji
   by_cases hin : j < n
   ·have hml : j < l.length := by rw [HL.out]; omega
    obtain ⟨b, off, rfl, hbl, hcc⟩ := (HI.out _ HB.out).rd (by omega)
    have p0 := hcc j hml 0 (by decide)
    have p1 := hcc j hml 1 (by decide)
    have p2 := hcc j hml 2 (by decide)
    have hgd : l[j] = l.getD j default := by simp [List.getD, hml]
    rw [hgd] at p0 p1 p2
    have hge := HHi.out j (Nat.le_refl _) hin
    obtain ⟨pq, he⟩ : ∃ e, l.getD j default = e := ⟨_, rfl⟩
    rw [he] at p0 p1 p2 hge
    replace p0 : wr.cell? ⟨b, off + j * 3, none⟩ = some (.int .i64 pq.t) := p0
    replace p1 : wr.cell? ⟨b, off + j * 3 + 1, none⟩ = some (.int .i64 pq.p) := p1
    replace p2 : wr.cell? ⟨b, off + j * 3 + 2, none⟩ = some (.slice pq.a pq.n pq.c) := p2
    have HE := Hk.mk he
    clear he hgd hcc
    have m0 : (0 : Int) ≤ (j : Int) := by omega
    have m1 : (j : Int) < (n : Int) := by omega
    have HJN := Hk.mk hin
    obtain ⟨r, hr⟩ : ∃ r, cfI pq q = r := ⟨_, rfl⟩
    have EC := Hk.mk hr
    obtain ⟨d, hd⟩ : ∃ d, decide (r = 0) = d := ⟨_, rfl⟩
    have hd2 : (r == 0) = d := by rw [← hd]; rfl
    have ED : Hk (d = true ↔ (j < n ∧ ¬ ltI q (l.getD j default))) := ⟨by
     rw [← hd, decide_eq_true_iff, ← hr, cfI_zero, HE.out]
     exact ⟨fun h => ⟨HJN.out, h.2⟩, fun h => ⟨hge, h.2⟩⟩⟩
    clear hge hr hml hd
    go_upto_region 8 with fail
    focus
     refine wp_region_held_drew (S := (fun X => (∀ b o, b < wr.heap.size → X.cell? ⟨b, o, none⟩ = wr.cell? ⟨b, o, none⟩) ∧ Below wr.heap.size wr X)) (by kernel_rfl) ?_ (fun hHeld => ?_)
     ·exact kw_S (kw_drew HV.out)
     have HI : Ix [0, 1, 2, 3, 4, 5, 6, 7, 8, 9, 10] := trivial
     iterate 11 (refine tkA HI (v := ?_) rfl (by kernel_rfl) (fun _ _ _ h => h) (.inl ⟨by rfl, fun wX hSw => ?_⟩) hHeld (fun HJ => ?_); rotate_left; (focus ((try dsimp only at hSw); go_simp; try with_reducible rfl)); clear HI; have HI := HJ; clear HJ; try simp only [Act.put, jjA, jjB, jjC, jjD, jjE, jjF])
     clear HI
     refine wpAnyH_ready (rs := [11]) (by kernel_rfl) (by simp) ?_
     refine AllReadyH.cons rfl (fun K hK => ?_) (AllReadyH.nil)
     go_simp
     ((refine (compI_as pq q r _ EC).mono ?_; rintro e z ⟨rfl, hb⟩; have hB2 : Hk (Below wr.heap.size wr z) := ⟨by first | exact kw_step HV.out (Nat.le_refl _) hb | exact kw_step HV.out.drew (Nat.le_refl _) hb⟩; clear hb; replace HV := hB2; clear hB2))
     refine hK.out _ _ ?_ (fun hHeld => ?_)
     ·exact kw_S HV.out
     clear hK K
     (try simp only [Act.put, jjA, jjB, jjC, jjD, jjE, jjF])
     have HI : Ix [12, 13, 14, 15] := trivial
     iterate 4 (refine tkA HI (v := ?_) rfl (by kernel_rfl) (fun _ _ _ h => h) (.inl ⟨by rfl, fun wX hSw => ?_⟩) hHeld (fun HJ => ?_); rotate_left; (focus ((try dsimp only at hSw); go_simp; try with_reducible rfl)); clear HI; have HI := HJ; clear HJ; try simp only [Act.put, jjA, jjB, jjC, jjD, jjE, jjF])
     clear HI
     refine wpAnyH_done (by kernel_rfl) ?_ _
     have HB2 := Hk.mk (HB.out.trans (HV.out.mono (kw_size HB.out hNW)))
     go_wp2_with fail
     go_ret2
     exact ⟨⟨j, d, rfl, Nat.le_of_lt HJN.out, HLo.out, HHi.out, ED.out⟩, HTR.out _ HB2.out⟩
   ·have HJN := Hk.mk hin
    go_upto_region 8 with fail
    focus
     refine wp_region_held_drew (S := (fun X => (∀ b o, b < wr.heap.size → X.cell? ⟨b, o, none⟩ = wr.cell? ⟨b, o, none⟩) ∧ Below wr.heap.size wr X)) (by kernel_rfl) ?_ (fun hHeld => ?_)
     ·exact kw_S (kw_drew HV.out)
     have HI : Ix [0, 1, 2, 3, 4] := trivial
     iterate 5 (refine tkA HI (v := ?_) rfl (by kernel_rfl) (fun _ _ _ h => h) (.inl ⟨by rfl, fun wX hSw => ?_⟩) hHeld (fun HJ => ?_); rotate_left; (focus ((try dsimp only at hSw); go_simp; try with_reducible rfl)); clear HI; have HI := HJ; clear HJ; try simp only [Act.put, jjA, jjB, jjC, jjD, jjE, jjF])
     clear HI
     have HI : Ix [5, 6, 7, 8, 9, 10, 11, 12] := trivial
     iterate 8 (refine tkA HI (v := undef) rfl (by kernel_rfl) (fun _ _ _ h => h) (.inr ⟨by rfl, rfl⟩) hHeld (fun HJ => ?_); clear HI; have HI := HJ; clear HJ; try simp only [Act.put, jjA, jjB, jjC, jjD, jjE, jjF])
     clear HI
     have HI : Ix [13, 14, 15] := trivial
     iterate 3 (refine tkA HI (v := ?_) rfl (by kernel_rfl) (fun _ _ _ h => h) (.inl ⟨by rfl, fun wX hSw => ?_⟩) hHeld (fun HJ => ?_); rotate_left; (focus ((try dsimp only at hSw); go_simp; try with_reducible rfl)); clear HI; have HI := HJ; clear HJ; try simp only [Act.put, jjA, jjB, jjC, jjD, jjE, jjF])
     clear HI
     refine wpAnyH_done (by kernel_rfl) ?_ _
     have HB2 := Hk.mk (HB.out.trans (HV.out.mono (kw_size HB.out hNW)))
     go_wp2_with fail
     go_ret2
     exact ⟨⟨j, false, rfl, hjn, HLo.out, HHi.out, ⟨fun h => (by cases h), fun h => absurd h.1 HJN.out⟩⟩, by first | exact HTR.out _ HB2.out | exact HTR.out _ HB2.out.drew⟩
end Go.Proofs.Ytdpblimhfmfbnaa
namespace Go.Proofs.Ytdpblimhfmfbnaa
open Go.ChangeShapes Go.WideShapes Go.ChangeAt Go.RowKit Go.Deep
theorem abI_drp (l : List Iv) (k : Nat) : abI (l.drop k) = (abI l).drop k := by unfold abI; rw [List.map_drop]
theorem abI_tk (l : List Iv) (k : Nat) : abI (l.take k) = (abI l).take k := by unfold abI; rw [List.map_take]
structure OwA (w : World) (B : Nat) (v : Value) (n : Nat) (L : List Iv) (F : List In) : Prop where
 o : OwN w B v n L
 f : abI L = F
theorem OwA.below {w z : World} {B n : Nat} {v : Value} {L : List Iv} {F : List In} (h : OwA w B v n L F) (hb : Below w.heap.size w z) : OwA z B v n L F := ⟨h.o.below hb, h.f⟩
structure OcA (w : World) (B : Nat) (v : Value) (n : Nat) (L : List Cv) (F : List Cm) : Prop where
 o : OwC w B v n L
 f : abC L = F
theorem OcA.below {w z : World} {B n : Nat} {v : Value} {L : List Cv} {F : List Cm} (h : OcA w B v n L F) (hb : Below w.heap.size w z) : OcA z B v n L F := ⟨h.o.below hb, h.f⟩
theorem not_ti {z : World} {B n : Nat} {v : Value} {l : List Iv} (h : OwN z B v n l) (T : TypeId) (hT : T ≠ 55) : ∀ j cur fr, z.heap[j]? = some (.cells cur T fr) → ¬ v.ownBlock = some j := fun j cur fr e hj => by
 obtain ⟨cur', fr', e'⟩ := h.o.typ hj
 rw [e] at e'
 injection e' with e'
 injection e' with _ e'
 exact hT e'
theorem bk_news27 {w : World} {S : Nat} {cs : List Value} (h : Bk w S cs.toArray) : ∀ (j : Nat) u, cs[j]? = some u → w.cell? ((⟨S, 0, none⟩ : Addr).add j) = some u := fun j u hj => by
 rw [Addr.add_lit, Nat.zero_add, h.c j]
 simpa using hj
theorem step_append27 {P : Program} {w : World} {ops : Array Oper} {o : Oper} {a : Act} {K : Act → World → Prop} {Q : Exit → Act → World → Prop} {E : Prop} (hw : Region.wanted o (yielded ops a.tmps) = true) (s x : Operand) (t : TypeId)
  (ho : o.op = .call { callee := .builtin .append, args := #[s, x], argTypes := #[t, t] })
  (base : Nat) (e : TypeId) (i : TypeInfo) (z : Value) (size bytes : Nat) (ht : P.underlying t = some (.slice e)) (hi : P.info? e = some i) (hz : i.zero = some z)
  (hsize : i.size = size) (hby : i.bytes = bytes) (hzs : z.cells.size = size) (hsz : 0 < size)
  (v : Value) (n : Nat) (xs : List Value) (hs : a.eval s = v) (hown : w.ownsRow base e size v n xs)
  (ad : Addr) (m c : Nat) (news : List Value) (hx : a.eval x = .slice (some ad) m c) (hl : news.length = m * size) (hnews : ∀ j u, news[j]? = some u → w.cell? (ad.add j) = some u) (h1 : ∀ u ∈ news, u.oneCell' = true)
  (h63 : n + m ≤ maxLen) (hbytes : (n + m) * bytes ≤ 140737488355328) (hbase : base ≤ w.heap.size)
  (h : ∀ v' w', w'.ownsRow base e size v' (n + m) (xs ++ news) → w.grownBy w' v.ownBlock → K (a.put o.dst v') w') :
  if Region.wanted o (yielded ops a.tmps) = true then Oper.wp P o a w K Q else E := by
 rw [if_pos hw]
 exact wp_append_own w s x t ho base e i z size bytes ht hi hz hsize hby hzs hsz v n xs hs hown ad m c news hx hl hnews h1 h63 hbytes hbase fun v' w' h2 h3 _ => h v' w' h2 h3
structure PutR (res : Option (List In)) (w : World) (e : Ending) (z : World) : Prop where
 bl : Below w.heap.size w z
 no : res = none → e = .returned (.tuple #[.slice none 0 0, .int .i64 12])
 yes : ∀ m, res = some m → ∃ a n c L, e = .returned (.tuple #[.slice a n c, .int .i64 0]) ∧ OwN z w.heap.size (.slice a n c) n L ∧ abI L = m
end Go.Proofs.Ytdpblimhfmfbnaa
namespace Go.Proofs.Ytdpblimhfmfbnaa
open Go.RowKit Go.Deep
theorem flt_drop {α : Type} (S : Sh α) (l : List α) (k : Nat) : flt S (l.drop k) = (flt S l).drop (k * S.z) := by
 by_cases h : k ≤ l.length
 ·have e : flt S l = flt S (l.take k) ++ flt S (l.drop k) := by rw [← flt_app, List.take_append_drop]
  have hl : (flt S (l.take k)).length = k * S.z := by rw [flt_len, List.length_take, Nat.min_eq_left h]
  rw [e]; exact (List.drop_left' hl).symm
 ·have h' : l.length ≤ k := by omega
  rw [List.drop_of_length_le h', List.drop_of_length_le (by rw [flt_len]; exact Nat.mul_le_mul_right _ h')]; rfl
theorem Ow.bqx {α : Type} {S : Sh α} {T : TypeId} {w : World} {base n : Nat} {v : Value} {l : List α} (h : Ow S T w base v n l) : ∃ a c, v = .slice a n c ∧ n ≤ c ∧ c ≤ maxLen ∧ True ∧ (∀ b off, a = some ⟨b, off, none⟩ → base ≤ b ∧ off = 0) := by
 rcases h.row.2 with ⟨e, e2⟩ | ⟨g, cap, cur, e, hg, hh, h1, h2, _⟩
 ·exact ⟨none, 0, by rw [e, e2], by omega, by unfold maxLen; omega, trivial, fun b off h => by cases h⟩
 ·exact ⟨_, _, e, h1, h2, trivial, fun b off h => by injection h with h; injection h with h3 h4; subst h3 h4; exact ⟨hg, rfl⟩⟩
theorem shape_curI {w : World} {g : Nat} {T : TypeId} {cur : Array Value} (h : w.heap[g]? = some (.cells cur T (0, 0))) : w.shape? g = some (T, cur.size) := by simp [World.shape?, h]
theorem drewSet_cellI (X : World) (o : Obj) (b k : Nat) (L : List Value) : ∀ x, (((X.alloc o).drew.setCells b k L).drew).cell? x = ((X.drew.alloc o).setCells b k L).cell? x := fun x => rfl
theorem drewSet_frozI (X : World) (o : Obj) (b k : Nat) (L : List Value) : ∀ x, (((X.alloc o).drew.setCells b k L).drew).frozen? x = ((X.drew.alloc o).setCells b k L).frozen? x := fun x => rfl
end Go.Proofs.Ytdpblimhfmfbnaa
namespace Go.Proofs.Ytdpblimhfmfbnaa
open Go.RowKit Go.Deep
theorem setCells_heap {g : Nat} {T : TypeId} : ∀ (vs : List Value) (o : Nat) (w : World) (cur : Array Value), w.heap[g]? = some (.cells cur T (0, 0)) → ∃ cur' : Array Value, (w.setCells g o vs).heap[g]? = some (.cells cur' T (0, 0)) ∧ cur'.size = cur.size
 | [], _, w, cur, h => ⟨cur, h, rfl⟩
 | v :: vs, o, w, cur, h => by
  have hlt := lt_of_block h
  have h1 : (w.setCell ⟨g, o, none⟩ v).heap[g]? = some (.cells (cur.setIfInBounds o v) T (0, 0)) := by
   have h' : w.heap[g] = .cells cur T (0, 0) := by simpa [Array.getElem?_eq_getElem hlt] using h
   show (w.heap.modify g _)[g]? = _
   rw [Array.getElem?_eq_getElem (by simpa using hlt), Array.getElem_modify_self, h']
   rfl
  obtain ⟨cur', h2, h3⟩ := setCells_heap vs (o + 1) (w.setCell ⟨g, o, none⟩ v) _ h1
  exact ⟨cur', h2, by rw [h3]; simp⟩
theorem cell_cur {w : World} {g : Nat} {T : TypeId} {cur : Array Value} (h : w.heap[g]? = some (.cells cur T (0, 0))) (k : Nat) : w.cell? ⟨g, k, none⟩ = cur[k]? := by simp [World.cell?, h]
theorem froz_cur {w : World} {g : Nat} {T : TypeId} {cur : Array Value} (h : w.heap[g]? = some (.cells cur T (0, 0))) (k : Nat) : w.frozen? ⟨g, k, none⟩ = false := by simp [World.frozen?, h]
end Go.Proofs.Ytdpblimhfmfbnaa
