import Derived.Deep.QuietTactic
import Derived.BigQuiet
import Derived.Deep.RegionWith
import Derived.Deep.RegionHeld3
import Derived.Deep.DeepCutAuto
import Derived.Deep.DeepFit
import Derived.Outline
import Derived.Test.YtdpblimhfmfbnaaGreatZvab
import Derived.Test.YtdpblimhfmfbnaaGreatZvz
import Derived.Shelf.Abstract
import Derived.Test.YtdpblimhfmfbnaaGreatZva
import Derived.Test.YtdpblimhfmfbnaaGreatZvc
import Derived.Deep.RegionLaw
import Derived.Lib.SlBuf
import Derived.Deep.Upon
import Derived.Test.YtdpblimhfmfbnaaGreatZvn
set_option linter.unusedVariables false
set_option linter.unusedSimpArgs false
namespace Go.Proofs.YtdpblimhfmfbnaaGreat
open Go.ChangeShapes Go.WideShapes Go.ChangeAt Go.RowKit Go.Deep
theorem smI_of {w z : World} {B1 B2 n1 n2 : Nat} {a1 a2 : Option Addr} {M l : List Iv} (h1 : InD z B1 a1 n1 M) (h2 : InD w B2 a2 n2 l) (hs : SmI l) (hm : ∀ x, x ∈ abI M → x ∈ abI l) (hl : M.length ≤ l.length) : SmI M := ⟨Nat.le_trans hl hs.n, fun x hx => by
 obtain ⟨y, hy, e⟩ := List.mem_map.1 (hm x.ab (List.mem_map_of_mem hx))
 have e1 : abC y.l = abC x.l := congrArg In.l e
 have e2 := congrArg List.length e1
 rw [abC_len, abC_len] at e2
 refine ⟨by have := (hs.m y hy).n; omega, fun q hq => ?_⟩
 have h3 : q.ab ∈ abC y.l := by rw [e1]; exact List.mem_map_of_mem hq
 obtain ⟨r, hr, e4⟩ := List.mem_map.1 h3
 have h5 := congrArg (fun c : Cm => c.f.u.length) e4
 have h6 : r.u.length = q.u.length := h5
 have h7 := ((h2.u y hy).u r hr).len
 have h8 := ((h1.u x hx).u q hq).len
 have h9 := (hs.m y hy).m r hr
 omega⟩
theorem TkR.weak {w : World} {B B' n n' : Nat} {v v' : Value} {l l' : List Iv} (h : TkR w B v n l v' n' l') (hb : B' ≤ B) : TkR w B' v n l v' n' l' := ⟨h.a.weak hb, h.b.weak hb, h.ds⟩
structure Tk2 (w : World) (B : Nat) (s1 : Option Addr) (n1 e1 : Nat) (M1 : List Iv) (s2 : Option Addr) (n2 e2 : Nat) (M2 : List Iv) (F1 F2 : List In) : Prop where
 r : TkR w B (.slice s1 n1 e1) n1 M1 (.slice s2 n2 e2) n2 M2
 f1 : abI M1 = F1
 f2 : abI M2 = F2
section
variable {w z : World} {B B' n1 e1 n2 e2 : Nat} {s1 s2 : Option Addr} {M1 M2 : List Iv} {F1 F2 : List In}
theorem Tk2.below (h : Tk2 w B s1 n1 e1 M1 s2 n2 e2 M2 F1 F2) (hb : Below w.heap.size w z) : Tk2 z B s1 n1 e1 M1 s2 n2 e2 M2 F1 F2 := ⟨h.r.below hb, h.f1, h.f2⟩
theorem Tk2.weak (h : Tk2 w B s1 n1 e1 M1 s2 n2 e2 M2 F1 F2) (hb : B' ≤ B) : Tk2 w B' s1 n1 e1 M1 s2 n2 e2 M2 F1 F2 := ⟨h.r.weak hb, h.f1, h.f2⟩
theorem Tk2.nil (w : World) (B : Nat) : Tk2 w B none 0 0 [] none 0 0 [] [] [] := ⟨TkR.nil _ _, rfl, rfl⟩
structure Tk3 (w : World) (B : Nat) (s1 : Option Addr) (n1 e1 : Nat) (M1 : List Iv) (s2 : Option Addr) (n2 e2 : Nat) (M2 : List Iv) (F1 F2 : List In) : Prop where
 t : Tk2 w B s1 n1 e1 M1 s2 n2 e2 M2 F1 F2
 q1 : SmI M1
 q2 : SmI M2
theorem Tk3.of {W : World} {B2 n : Nat} {a : Option Addr} {l : List Iv} (h : Tk2 w B s1 n1 e1 M1 s2 n2 e2 M2 F1 F2) (hd : InD W B2 a n l) (hs : SmI l) (p q : In → Bool) (h1 : F1 = (abI l).filter p) (h2 : F2 = (abI l).filter q) : Tk3 w B s1 n1 e1 M1 s2 n2 e2 M2 F1 F2 := ⟨h, smI_of h.r.a.d hd hs (fun x hx => by rw [h.f1, h1] at hx; exact (List.mem_filter.1 hx).1) (by
 have := congrArg List.length h.f1
 rw [abI_len, h1] at this
 rw [this, ← abI_len l]
 exact List.length_filter_le _ _), smI_of h.r.b.d hd hs (fun x hx => by rw [h.f2, h2] at hx; exact (List.mem_filter.1 hx).1) (by
 have := congrArg List.length h.f2
 rw [abI_len, h2] at this
 rw [this, ← abI_len l]
 exact List.length_filter_le _ _)⟩
theorem SmI.nil : SmI [] := ⟨Nat.zero_le _, fun _ h => by cases h⟩
theorem Tk3.nil (w : World) (B : Nat) : Tk3 w B none 0 0 [] none 0 0 [] [] [] := ⟨Tk2.nil _ _, SmI.nil, SmI.nil⟩
theorem Tk3.below (h : Tk3 w B s1 n1 e1 M1 s2 n2 e2 M2 F1 F2) (hb : Below w.heap.size w z) : Tk3 z B s1 n1 e1 M1 s2 n2 e2 M2 F1 F2 := ⟨h.t.below hb, h.q1, h.q2⟩
end
end Go.Proofs.YtdpblimhfmfbnaaGreat
namespace Go.Proofs.YtdpblimhfmfbnaaGreat
open Go.ChangeShapes Go.WideShapes Go.ChangeAt Go.RowKit Go.Deep
theorem put_app {x : In} : ∀ {a b : List In}, (∀ y, y ∈ a → ltB y x = true) → putN x (a ++ b) = (putN x b).map (a ++ ·)
 | [], b, _ => by cases h : putN x b <;> simp [h]
 | y :: a, b, h => by
  show (if ltB y x = true then (putN x (a ++ b)).map (y :: ·) else _) = _
  rw [if_pos (h y List.mem_cons_self), put_app fun z hz => h z (List.mem_cons_of_mem _ hz)]
  cases putN x b <;> rfl
theorem put_end {x : In} {l : List In} (h : ∀ y, y ∈ l → ltB y x = true) : putN x l = some (l ++ [x]) := by
 have := put_app (b := []) h
 rw [List.append_nil] at this
 rw [this]; rfl
theorem put_mid {x : In} {l : List In} {k : Nat} (hk : k < l.length) (h : ∀ y, y ∈ l.take k → ltB y x = true) (h1 : ltB l[k] x = false) : putN x l = if ltB x l[k] = true then some (l.take k ++ x :: l.drop k) else none := by
 have e : l = l.take k ++ l.drop k := (List.take_append_drop k l).symm
 have e2 : l.drop k = l[k] :: l.drop (k + 1) := List.drop_eq_getElem_cons hk
 have : putN x l = (putN x (l.drop k)).map (l.take k ++ ·) := by
  conv => lhs; rw [e]
  exact put_app h
 rw [this, e2]
 show (if ltB l[k] x = true then _ else if ltB x l[k] = true then _ else _ : Option (List In)).map _ = _
 rw [if_neg (by rw [h1]; decide)]
 by_cases h2 : ltB x l[k] = true
 ·rw [if_pos h2, if_pos h2]; rfl
 ·rw [if_neg h2, if_neg h2]; rfl
end Go.Proofs.YtdpblimhfmfbnaaGreat
namespace Go.Proofs.YtdpblimhfmfbnaaGreat
open List renaming getElem_toArray → jjA, getElem_cons_succ → jjB, getElem_cons_zero → jjC, setIfInBounds_toArray → jjD, set_cons_zero → jjE, set_cons_succ → jjF
open Go.ChangeShapes Go.WideShapes Go.ChangeAt Go.RowKit Go.Deep
theorem compI_as (x y : Iv) (r : Int) (W : World) (E : Hk (cfI x y = r)) :
  Calls Tryz.prog 91 #[.agg #[.int .i64 x.t, .int .i64 x.p, .slice x.a x.n x.c], .agg #[.int .i64 y.t, .int .i64 y.p, .slice y.a y.n y.c]] W fun e w' => e = .returned (.int .i64 r) ∧ Below W.heap.size W w' := by
 rw [← E.out]; exact compI_b x y W
theorem sorted_lt {l : List Iv} (h : sortedN (abI l)) {i j : Nat} (hij : i < j) (hj : j < l.length) : ltI (l.getD i default) (l.getD j default) := by
 have := List.pairwise_iff_getElem.1 h i j (by rw [abI_len]; omega) (by rw [abI_len]; exact hj) hij
 rw [← ltB_iff]
 simpa [abI, List.getD, hj, show i < l.length by omega] using this
theorem ltI_trans {x y z : Iv} (h : ltI x y) (k : ltI y z) : ltI x z := by unfold ltI at *; omega
theorem cfI_zero {x y : Iv} : cfI x y = 0 ↔ ¬ ltI x y ∧ ¬ ltI y x := by
 unfold cfI orI cmpI ltI
 by_cases a : x.t < y.t
 ·simp [a]
 ·by_cases b : y.t < x.t
  ·simp [a, b]
  ·by_cases c : x.p < y.p
   ·simp [a, b, c] <;> omega
   ·by_cases d : y.p < x.p
    ·simp [a, b, c, d] <;> omega
    ·simp [a, b, c, d] <;> omega
set_option maxRecDepth 100000 in
set_option maxHeartbeats 1600000 in
theorem bsI_any (q : Iv) (a : Option Addr) (n c : Nat) (l : List Iv) (w : World) (h : Qv shI w w.heap.size a n l) (hn : n ≤ 1048576) (hso : sortedN (abI l)) :
  Calls Tryz.prog 90 #[.slice a n c, .agg #[.int .i64 q.t, .int .i64 q.p, .slice q.a q.n q.c], .func (.func 91) #[] #[]] w fun e w' => (∃ (i : Nat) (d : Bool), e = .returned (.tuple #[.int .i64 i, .bool d]) ∧ i ≤ n ∧ (∀ k, k < i → ltI (l.getD k default) q) ∧ (∀ k, i ≤ k → k < n → ¬ ltI (l.getD k default) q) ∧ (d = true ↔ (i < n ∧ ¬ ltI q (l.getD i default)))) ∧ Below w.heap.size w w' := by
 have eg : ∀ args w, (callFunc 91 args).run Tryz.prog w = .ok (.enter 91 args) w := enters_of Tryz.func91 (by kernel_rfl) rfl
 have HWB : Hk (Below w.heap.size w (w.alloc (.cells #[.int .i64 q.t, .int .i64 q.p, .slice q.a q.n q.c] 40))) := ⟨(Below.refl _ _).alloc (Nat.le_refl _) _⟩
 have hNW : (w.heap.size + 1) ≤ (w.alloc (.cells #[.int .i64 q.t, .int .i64 q.p, .slice q.a q.n q.c] 40)).heap.size := by simp
 have HB : Hk (Below (w.heap.size + 1) (w.alloc (.cells #[.int .i64 q.t, .int .i64 q.p, .slice q.a q.n q.c] 40)) (w.alloc (.cells #[.int .i64 q.t, .int .i64 q.p, .slice q.a q.n q.c] 40))) := ⟨Below.refl _ _⟩
 have HTR : Hk (∀ X, Below (w.heap.size + 1) (w.alloc (.cells #[.int .i64 q.t, .int .i64 q.p, .slice q.a q.n q.c] 40)) X → Below w.heap.size w X) := ⟨fun X hX => HWB.out.trans (hX.mono (by omega))⟩
 have HP := Hk.mk (Bk.new w #[.int .i64 q.t, .int .i64 q.p, .slice q.a q.n q.c] 40)
 have HVF : Hk (∀ X, Below (w.heap.size + 1) (w.alloc (.cells #[.int .i64 q.t, .int .i64 q.p, .slice q.a q.n q.c] 40)) X → X.cell? ⟨w.heap.size, 0, none⟩ = some (.int .i64 q.t) ∧ X.cell? ⟨w.heap.size, 1, none⟩ = some (.int .i64 q.p) ∧ X.cell? ⟨w.heap.size, 2, none⟩ = some (.slice q.a q.n q.c) ∧ w.heap.size < X.heap.size) := ⟨fun X hX => by
  have h0 := (hX.cell (p := ⟨w.heap.size, 0, none⟩) (Nat.lt_succ_self _)).trans (HP.out.c 0)
  exact ⟨h0, (hX.cell (p := ⟨w.heap.size, 1, none⟩) (Nat.lt_succ_self _)).trans (HP.out.c 1), (hX.cell (p := ⟨w.heap.size, 2, none⟩) (Nat.lt_succ_self _)).trans (HP.out.c 2), World.block_lt_of_cell? _ _ h0⟩⟩
 have HI : Hk (∀ X, Below (w.heap.size + 1) (w.alloc (.cells #[.int .i64 q.t, .int .i64 q.p, .slice q.a q.n q.c] 40)) X → Qv shI X X.heap.size a n l) := ⟨fun X hX => (h.below (HTR.out X hX) (Nat.le_refl _)).mono (HTR.out X hX).size⟩
 have HL := Hk.mk h.len
 have HSO := Hk.mk hso
 clear h hso HP
 go_enter Tryz.func90, Tryz.ntmps90
 go_wp2_with fail
 go_loopw [9, 10] (fun x y wr => ∃ i j : Nat, x = .int .i64 i ∧ y = .int .i64 j ∧ i ≤ j ∧ j ≤ n ∧ Hk (∀ k, k < i → ltI (l.getD k default) q) ∧ Hk (∀ k, j ≤ k → k < n → ¬ ltI (l.getD k default) q) ∧ Hk (Below (w.heap.size + 1) (w.alloc (.cells #[.int .i64 q.t, .int .i64 q.p, .slice q.a q.n q.c] 40)) wr)) (fun x y _ => (intOf y).toNat - (intOf x).toNat)
 case atStart => exact ⟨0, n, rfl, rfl, by omega, by omega, ⟨fun k hk => absurd hk (by omega)⟩, ⟨fun k h1 h2 => absurd h1 (by omega)⟩, HB⟩
 case round =>
  clear HB
  obtain ⟨i, j, rfl, rfl, hij, hjn, HLo, HHi, HB⟩ := hrel
  obtain ⟨x0, x1, x2, xl⟩ := HVF.out _ HB.out
  have HV : Hk (Below wr.heap.size wr wr) := ⟨Below.refl _ _⟩
  by_cases hlt : i < j
  ·obtain ⟨m, hm2, hm3, hm4⟩ : ∃ m : Nat, ((i : Int) + (j : Int)) / 2 = m ∧ i ≤ m ∧ m < j := ⟨(((i : Int) + (j : Int)) / 2).toNat, by omega, by omega, by omega⟩
   have hml : m < l.length := by rw [HL.out]; omega
   obtain ⟨b, off, rfl, hbl, hcc⟩ := (HI.out _ HB.out).rd (by omega)
   have p0 := hcc m hml 0 (by decide)
   have p1 := hcc m hml 1 (by decide)
   have p2 := hcc m hml 2 (by decide)
   have hgd : l[m] = l.getD m default := by simp [List.getD, hml]
   rw [hgd] at p0 p1 p2
   obtain ⟨pq, he⟩ : ∃ e, l.getD m default = e := ⟨_, rfl⟩
   rw [he] at p0 p1 p2
   replace p0 : wr.cell? ⟨b, off + m * 3, none⟩ = some (.int .i64 pq.t) := p0
   replace p1 : wr.cell? ⟨b, off + m * 3 + 1, none⟩ = some (.int .i64 pq.p) := p1
   replace p2 : wr.cell? ⟨b, off + m * 3 + 2, none⟩ = some (.slice pq.a pq.n pq.c) := p2
   have HE := Hk.mk he
   clear he hgd hcc
   have m0 : (0 : Int) ≤ (m : Int) := by omega
   have m1 : (m : Int) < (n : Int) := by omega
   have u1 : IntKind.u64.wrap ((i : Int) + (j : Int)) = (i : Int) + (j : Int) := by rw [IntKind.wrap_u64]; omega
   have u2 : ((i : Int) + (j : Int)) / 2 ^ (1 : Int).toNat = (m : Int) := by simpa using hm2
   have HIJ : Hk (i ≤ m ∧ m < j ∧ j ≤ n) := ⟨⟨hm3, hm4, hjn⟩⟩
   have HML := Hk.mk hml
   by_cases hlo : ltI pq q
   ·have HN : Hk (∀ k, k < m + 1 → ltI (l.getD k default) q) := ⟨fun k hk => by
     by_cases e : k = m
     ·rw [e, HE.out]; exact hlo
     ·exact ltI_trans (sorted_lt HSO.out (show k < m by omega) HML.out) (by rw [HE.out]; exact hlo)⟩
    obtain ⟨r, hr⟩ : ∃ r, cfI pq q = r := ⟨_, rfl⟩
    have EC := Hk.mk hr
    have dr : decide (r < 0) = true := by rw [decide_eq_true_iff, ← hr]; exact (cfI_neg pq q).2 hlo
    clear hlo hr hml
    go_upto_region 5 with fail
    focus
     refine wp_region_held_drew (S := (fun X => (∀ b o, b < wr.heap.size → X.cell? ⟨b, o, none⟩ = wr.cell? ⟨b, o, none⟩) ∧ Below wr.heap.size wr X)) (by kernel_rfl) ?_ (fun hHeld => ?_)
     ·exact kw_S (kw_drew HV.out)
     have HI : Ix [0, 1, 2, 3, 4, 5] := trivial
     iterate 6 (refine tkA HI (v := ?_) rfl (by kernel_rfl) (fun _ _ _ h => h) (.inl ⟨by rfl, fun wX hSw => ?_⟩) hHeld (fun HJ => ?_); rotate_left; (focus ((try dsimp only at hSw); go_simp; try with_reducible rfl)); clear HI; have HI := HJ; clear HJ; try simp only [Act.put, jjA, jjB, jjC, jjD, jjE, jjF])
     clear HI
     refine wpAnyH_ready (rs := [6]) (by kernel_rfl) (by simp) ?_
     refine AllReadyH.cons rfl (fun K hK => ?_) (AllReadyH.nil)
     go_simp
     ((refine (compI_as pq q r _ EC).mono ?_; rintro e z ⟨rfl, hb⟩; have hB2 : Hk (Below wr.heap.size wr z) := ⟨by first | exact kw_step HV.out (Nat.le_refl _) hb | exact kw_step HV.out.drew (Nat.le_refl _) hb⟩; clear hb; replace HV := hB2; clear hB2))
     refine hK.out _ _ ?_ (fun hHeld => ?_)
     ·exact kw_S HV.out
     clear hK K
     (try simp only [Act.put, jjA, jjB, jjC, jjD, jjE, jjF])
     have HI : Ix [7] := trivial
     (refine tkA HI (v := ?_) rfl (by kernel_rfl) (fun _ _ _ h => h) (.inl ⟨by rfl, fun wX hSw => ?_⟩) hHeld (fun HJ => ?_); rotate_left; (focus ((try dsimp only at hSw); go_simp; try with_reducible rfl)); clear HI; have HI := HJ; clear HJ; try simp only [Act.put, jjA, jjB, jjC, jjD, jjE, jjF])
     clear HI
     refine wpAnyH_done (by kernel_rfl) ?_ _
     have HB2 := Hk.mk (HB.out.trans (HV.out.mono (kw_size HB.out hNW)))
     go_wp2_with fail
     exact ⟨⟨m + 1, j, by go_num, rfl, by have := HIJ.out; omega, HIJ.out.2.2, HN, HHi, HB2⟩, by have := HIJ.out; simp [intOf]; omega⟩
   ·have HN : Hk (∀ k, m ≤ k → k < n → ¬ ltI (l.getD k default) q) := ⟨fun k h1 h2 h3 => by
     by_cases e : k = m
     ·rw [e, HE.out] at h3; exact hlo h3
     ·have := ltI_trans (sorted_lt HSO.out (show m < k by omega) (by rw [HL.out]; omega)) h3
      rw [HE.out] at this; exact hlo this⟩
    obtain ⟨r, hr⟩ : ∃ r, cfI pq q = r := ⟨_, rfl⟩
    have EC := Hk.mk hr
    have dr : decide (r < 0) = false := by rw [decide_eq_false_iff_not, ← hr]; exact fun h => hlo ((cfI_neg pq q).1 h)
    clear hlo hr hml
    go_upto_region 5 with fail
    focus
     refine wp_region_held_drew (S := (fun X => (∀ b o, b < wr.heap.size → X.cell? ⟨b, o, none⟩ = wr.cell? ⟨b, o, none⟩) ∧ Below wr.heap.size wr X)) (by kernel_rfl) ?_ (fun hHeld => ?_)
     ·exact kw_S (kw_drew HV.out)
     have HI : Ix [0, 1, 2, 3, 4, 5] := trivial
     iterate 6 (refine tkA HI (v := ?_) rfl (by kernel_rfl) (fun _ _ _ h => h) (.inl ⟨by rfl, fun wX hSw => ?_⟩) hHeld (fun HJ => ?_); rotate_left; (focus ((try dsimp only at hSw); go_simp; try with_reducible rfl)); clear HI; have HI := HJ; clear HJ; try simp only [Act.put, jjA, jjB, jjC, jjD, jjE, jjF])
     clear HI
     refine wpAnyH_ready (rs := [6]) (by kernel_rfl) (by simp) ?_
     refine AllReadyH.cons rfl (fun K hK => ?_) (AllReadyH.nil)
     go_simp
     ((refine (compI_as pq q r _ EC).mono ?_; rintro e z ⟨rfl, hb⟩; have hB2 : Hk (Below wr.heap.size wr z) := ⟨by first | exact kw_step HV.out (Nat.le_refl _) hb | exact kw_step HV.out.drew (Nat.le_refl _) hb⟩; clear hb; replace HV := hB2; clear hB2))
     refine hK.out _ _ ?_ (fun hHeld => ?_)
     ·exact kw_S HV.out
     clear hK K
     (try simp only [Act.put, jjA, jjB, jjC, jjD, jjE, jjF])
     have HI : Ix [7] := trivial
     (refine tkA HI (v := ?_) rfl (by kernel_rfl) (fun _ _ _ h => h) (.inl ⟨by rfl, fun wX hSw => ?_⟩) hHeld (fun HJ => ?_); rotate_left; (focus ((try dsimp only at hSw); go_simp; try with_reducible rfl)); clear HI; have HI := HJ; clear HJ; try simp only [Act.put, jjA, jjB, jjC, jjD, jjE, jjF])
     clear HI
     refine wpAnyH_done (by kernel_rfl) ?_ _
     have HB2 := Hk.mk (HB.out.trans (HV.out.mono (kw_size HB.out hNW)))
     go_wp2_with fail
     exact ⟨⟨i, m, rfl, rfl, HIJ.out.1, by have := HIJ.out; omega, HLo, HN, HB2⟩, by have := HIJ.out; simp [intOf]; omega⟩
  ·have hji : j = i := by omega
   subst hji
   by_cases hin : j < n
   ·have hml : j < l.length := by rw [HL.out]; omega
    obtain ⟨b, off, rfl, hbl, hcc⟩ := (HI.out _ HB.out).rd (by omega)
    have p0 := hcc j hml 0 (by decide)
    have p1 := hcc j hml 1 (by decide)
    have p2 := hcc j hml 2 (by decide)
    have hgd : l[j] = l.getD j default := by simp [List.getD, hml]
    rw [hgd] at p0 p1 p2
    have hge := HHi.out j (Nat.le_refl _) hin
    obtain ⟨pq, he⟩ : ∃ e, l.getD j default = e := ⟨_, rfl⟩
    rw [he] at p0 p1 p2 hge
    replace p0 : wr.cell? ⟨b, off + j * 3, none⟩ = some (.int .i64 pq.t) := p0
    replace p1 : wr.cell? ⟨b, off + j * 3 + 1, none⟩ = some (.int .i64 pq.p) := p1
    replace p2 : wr.cell? ⟨b, off + j * 3 + 2, none⟩ = some (.slice pq.a pq.n pq.c) := p2
    have HE := Hk.mk he
    clear he hgd hcc
    have m0 : (0 : Int) ≤ (j : Int) := by omega
    have m1 : (j : Int) < (n : Int) := by omega
    have HJN := Hk.mk hin
    obtain ⟨r, hr⟩ : ∃ r, cfI pq q = r := ⟨_, rfl⟩
    have EC := Hk.mk hr
    obtain ⟨d, hd⟩ : ∃ d, decide (r = 0) = d := ⟨_, rfl⟩
    have hd2 : (r == 0) = d := by rw [← hd]; rfl
    have ED : Hk (d = true ↔ (j < n ∧ ¬ ltI q (l.getD j default))) := ⟨by
     rw [← hd, decide_eq_true_iff, ← hr, cfI_zero, HE.out]
     exact ⟨fun h => ⟨HJN.out, h.2⟩, fun h => ⟨hge, h.2⟩⟩⟩
    clear hge hr hml hd
    go_upto_region 8 with fail
    focus
     refine wp_region_held_drew (S := (fun X => (∀ b o, b < wr.heap.size → X.cell? ⟨b, o, none⟩ = wr.cell? ⟨b, o, none⟩) ∧ Below wr.heap.size wr X)) (by kernel_rfl) ?_ (fun hHeld => ?_)
     ·exact kw_S (kw_drew HV.out)
     have HI : Ix [0, 1, 2, 3, 4, 5, 6, 7, 8, 9, 10] := trivial
     iterate 11 (refine tkA HI (v := ?_) rfl (by kernel_rfl) (fun _ _ _ h => h) (.inl ⟨by rfl, fun wX hSw => ?_⟩) hHeld (fun HJ => ?_); rotate_left; (focus ((try dsimp only at hSw); go_simp; try with_reducible rfl)); clear HI; have HI := HJ; clear HJ; try simp only [Act.put, jjA, jjB, jjC, jjD, jjE, jjF])
     clear HI
     refine wpAnyH_ready (rs := [11]) (by kernel_rfl) (by simp) ?_
     refine AllReadyH.cons rfl (fun K hK => ?_) (AllReadyH.nil)
     go_simp
     ((refine (compI_as pq q r _ EC).mono ?_; rintro e z ⟨rfl, hb⟩; have hB2 : Hk (Below wr.heap.size wr z) := ⟨by first | exact kw_step HV.out (Nat.le_refl _) hb | exact kw_step HV.out.drew (Nat.le_refl _) hb⟩; clear hb; replace HV := hB2; clear hB2))
     refine hK.out _ _ ?_ (fun hHeld => ?_)
     ·exact kw_S HV.out
     clear hK K
     (try simp only [Act.put, jjA, jjB, jjC, jjD, jjE, jjF])
     have HI : Ix [12, 13, 14, 15] := trivial
     iterate 4 (refine tkA HI (v := ?_) rfl (by kernel_rfl) (fun _ _ _ h => h) (.inl ⟨by rfl, fun wX hSw => ?_⟩) hHeld (fun HJ => ?_); rotate_left; (focus ((try dsimp only at hSw); go_simp; try with_reducible rfl)); clear HI; have HI := HJ; clear HJ; try simp only [Act.put, jjA, jjB, jjC, jjD, jjE, jjF])
     clear HI
     refine wpAnyH_done (by kernel_rfl) ?_ _
     have HB2 := Hk.mk (HB.out.trans (HV.out.mono (kw_size HB.out hNW)))
     go_wp2_with fail
     go_ret2
     exact ⟨⟨j, d, rfl, Nat.le_of_lt HJN.out, HLo.out, HHi.out, ED.out⟩, HTR.out _ HB2.out⟩
   ·have HJN := Hk.mk hin
    go_upto_region 8 with fail
    focus
     refine wp_region_held_drew (S := (fun X => (∀ b o, b < wr.heap.size → X.cell? ⟨b, o, none⟩ = wr.cell? ⟨b, o, none⟩) ∧ Below wr.heap.size wr X)) (by kernel_rfl) ?_ (fun hHeld => ?_)
     ·exact kw_S (kw_drew HV.out)
     have HI : Ix [0, 1, 2, 3, 4] := trivial
     iterate 5 (refine tkA HI (v := ?_) rfl (by kernel_rfl) (fun _ _ _ h => h) (.inl ⟨by rfl, fun wX hSw => ?_⟩) hHeld (fun HJ => ?_); rotate_left; (focus ((try dsimp only at hSw); go_simp; try with_reducible rfl)); clear HI; have HI := HJ; clear HJ; try simp only [Act.put, jjA, jjB, jjC, jjD, jjE, jjF])
     clear HI
     have HI : Ix [5, 6, 7, 8, 9, 10, 11, 12] := trivial
     iterate 8 (refine tkA HI (v := undef) rfl (by kernel_rfl) (fun _ _ _ h => h) (.inr ⟨by rfl, rfl⟩) hHeld (fun HJ => ?_); clear HI; have HI := HJ; clear HJ; try simp only [Act.put, jjA, jjB, jjC, jjD, jjE, jjF])
     clear HI
     have HI : Ix [13, 14, 15] := trivial
     iterate 3 (refine tkA HI (v := ?_) rfl (by kernel_rfl) (fun _ _ _ h => h) (.inl ⟨by rfl, fun wX hSw => ?_⟩) hHeld (fun HJ => ?_); rotate_left; (focus ((try dsimp only at hSw); go_simp; try with_reducible rfl)); clear HI; have HI := HJ; clear HJ; try simp only [Act.put, jjA, jjB, jjC, jjD, jjE, jjF])
     clear HI
     refine wpAnyH_done (by kernel_rfl) ?_ _
     have HB2 := Hk.mk (HB.out.trans (HV.out.mono (kw_size HB.out hNW)))
     go_wp2_with fail
     go_ret2
     exact ⟨⟨j, false, rfl, hjn, HLo.out, HHi.out, ⟨fun h => (by cases h), fun h => absurd h.1 HJN.out⟩⟩, by first | exact HTR.out _ HB2.out | exact HTR.out _ HB2.out.drew⟩
end Go.Proofs.YtdpblimhfmfbnaaGreat
namespace Go.Proofs.YtdpblimhfmfbnaaGreat
open List renaming getElem_toArray → jjA, getElem_cons_succ → jjB, getElem_cons_zero → jjC, setIfInBounds_toArray → jjD, set_cons_zero → jjE, set_cons_succ → jjF
open Go.ChangeShapes Go.WideShapes Go.ChangeAt Go.RowKit Go.Deep
theorem smI_take {l : List Iv} (h : SmI l) (k : Nat) : SmI (l.take k) := ⟨Nat.le_trans (by rw [List.length_take]; exact Nat.min_le_right _ _) h.n, fun x hx => h.m x (List.mem_of_mem_take hx)⟩
theorem smI_drop {l : List Iv} (h : SmI l) (k : Nat) : SmI (l.drop k) := ⟨Nat.le_trans (by rw [List.length_drop]; exact Nat.sub_le _ _) h.n, fun x hx => h.m x (List.mem_of_mem_drop hx)⟩
theorem ind_tail {w : World} {B n b off : Nat} {l : List Iv} (h : InD w B (some ⟨b, off, none⟩) n l) {k : Nat} (hk : k ≤ n) : InD w B (some ⟨b, off + k * 3, none⟩) (n - k) (l.drop k) := ⟨h.q.tail hk, fun x hx => h.u x (List.mem_of_mem_drop hx)⟩
theorem abI_drp (l : List Iv) (k : Nat) : abI (l.drop k) = (abI l).drop k := by unfold abI; rw [List.map_drop]
theorem abI_tk (l : List Iv) (k : Nat) : abI (l.take k) = (abI l).take k := by unfold abI; rw [List.map_take]
structure OwA (w : World) (B : Nat) (v : Value) (n : Nat) (L : List Iv) (F : List In) : Prop where
 o : OwN w B v n L
 f : abI L = F
theorem OwA.below {w z : World} {B n : Nat} {v : Value} {L : List Iv} {F : List In} (h : OwA w B v n L F) (hb : Below w.heap.size w z) : OwA z B v n L F := ⟨h.o.below hb, h.f⟩
structure OcA (w : World) (B : Nat) (v : Value) (n : Nat) (L : List Cv) (F : List Cm) : Prop where
 o : OwC w B v n L
 f : abC L = F
theorem OcA.below {w z : World} {B n : Nat} {v : Value} {L : List Cv} {F : List Cm} (h : OcA w B v n L F) (hb : Below w.heap.size w z) : OcA z B v n L F := ⟨h.o.below hb, h.f⟩
theorem not_ti {z : World} {B n : Nat} {v : Value} {l : List Iv} (h : OwN z B v n l) (T : TypeId) (hT : T ≠ 40) : ∀ j cur fr, z.heap[j]? = some (.cells cur T fr) → ¬ v.ownBlock = some j := fun j cur fr e hj => by
 obtain ⟨cur', fr', e'⟩ := h.o.typ hj
 rw [e] at e'
 injection e' with e'
 injection e' with _ e'
 exact hT e'
theorem OwN.app1 {z z2 : World} {B n : Nat} {v v2 : Value} {l : List Iv} {q : Iv} (h : OwN z B v n l) (hq : OwC z B (.slice q.a q.n q.c) q.n q.l) (ho : z2.ownsRow B 40 3 v2 (n + 1) (flt shI l ++ q.cs)) (hg : z.grownBy z2 v.ownBlock) : OwN z2 B v2 (n + 1) (l ++ [q]) := by
 have hFr : Fr (fun j => v.ownBlock = some j) z z2 := (Fr.refl _ z).grown hg (fun j _ h => h)
 exact OwN.snoc h ho (fun x hx => (h.u x hx).keep hFr (not_ti h _ (by decide)) (not_ti h _ (by decide))) (.inl (hq.keep hFr (not_ti h _ (by decide)) (not_ti h _ (by decide))))
theorem OwN.appN {z z2 : World} {B n n' : Nat} {v v' v2 : Value} {l l' : List Iv} (h : OwN z B v n l) (h' : OwN z B v' n' l') (ho : z2.ownsRow B 40 3 v2 (n + n') (flt shI l ++ flt shI l')) (hg : z.grownBy z2 v.ownBlock) : OwN z2 B v2 (n + n') (l ++ l') := by
 have hFr : Fr (fun j => v.ownBlock = some j) z z2 := (Fr.refl _ z).grown hg (fun j _ h => h)
 refine ⟨⟨by rw [List.length_append, h.o.len, h'.o.len], by rw [flt_app]; exact ho⟩, fun x hx => ?_⟩
 rcases List.mem_append.1 hx with hx | hx
 ·exact (h.u x hx).keep hFr (not_ti h _ (by decide)) (not_ti h _ (by decide))
 ·exact (h'.u x hx).keep hFr (not_ti h _ (by decide)) (not_ti h _ (by decide))
theorem bk_news27 {w : World} {S : Nat} {cs : List Value} (h : Bk w S cs.toArray) : ∀ (j : Nat) u, cs[j]? = some u → w.cell? ((⟨S, 0, none⟩ : Addr).add j) = some u := fun j u hj => by
 rw [Addr.add_lit, Nat.zero_add, h.c j]
 simpa using hj
theorem step_append27 {P : Program} {w : World} {ops : Array Oper} {o : Oper} {a : Act} {K : Act → World → Prop} {Q : Exit → Act → World → Prop} {E : Prop} (hw : Region.wanted o (yielded ops a.tmps) = true) (s x : Operand) (t : TypeId)
  (ho : o.op = .call { callee := .builtin .append, args := #[s, x], argTypes := #[t, t] })
  (base : Nat) (e : TypeId) (i : TypeInfo) (z : Value) (size bytes : Nat) (ht : P.underlying t = some (.slice e)) (hi : P.info? e = some i) (hz : i.zero = some z)
  (hsize : i.size = size) (hby : i.bytes = bytes) (hzs : z.cells.size = size) (hsz : 0 < size)
  (v : Value) (n : Nat) (xs : List Value) (hs : a.eval s = v) (hown : w.ownsRow base e size v n xs)
  (ad : Addr) (m c : Nat) (news : List Value) (hx : a.eval x = .slice (some ad) m c) (hl : news.length = m * size) (hnews : ∀ j u, news[j]? = some u → w.cell? (ad.add j) = some u) (h1 : ∀ u ∈ news, u.oneCell' = true)
  (h63 : n + m ≤ maxLen) (hbytes : (n + m) * bytes ≤ 140737488355328) (hbase : base ≤ w.heap.size)
  (h : ∀ v' w', w'.ownsRow base e size v' (n + m) (xs ++ news) → w.grownBy w' v.ownBlock → K (a.put o.dst v') w') :
  if Region.wanted o (yielded ops a.tmps) = true then Oper.wp P o a w K Q else E := by
 rw [if_pos hw]
 exact wp_append_own w s x t ho base e i z size bytes ht hi hz hsize hby hzs hsz v n xs hs hown ad m c news hx hl hnews h1 h63 hbytes hbase fun v' w' h2 h3 _ => h v' w' h2 h3
structure PutR (res : Option (List In)) (w : World) (e : Ending) (z : World) : Prop where
 bl : Below w.heap.size w z
 no : res = none → e = .returned (.tuple #[.slice none 0 0, .int .i64 12])
 yes : ∀ m, res = some m → ∃ a n c L, e = .returned (.tuple #[.slice a n c, .int .i64 0]) ∧ OwN z w.heap.size (.slice a n c) n L ∧ abI L = m
set_option maxRecDepth 100000 in
set_option maxHeartbeats 3200000 in
theorem rput_any (q : Iv) (res : Option (List In)) (a : Option Addr) (n c : Nat) (l : List Iv) (w : World) (h : InD w w.heap.size a n l) (hs : SmI l) (hq : CmD w w.heap.size q.a q.n q.l) (hsq : SmC q.l) (hnc : n ≤ c) (hcm : c ≤ 9223372036854775807) (hfm : (a = none ∧ n = 0 ∧ c = 0) ∨ ∃ g off, a = some ⟨g, off, none⟩) (E : Hk (putN q.ab (abI l) = res)) :
  Calls Tryz.prog 69 #[.slice a n c, .agg #[.int .i64 q.t, .int .i64 q.p, .slice q.a q.n q.c]] w (PutR res w) := by
 obtain ⟨i0, hi, hz0, hz1, hz2⟩ := info_parts info_in
 have HWB : Hk (Below w.heap.size w (w.alloc (.cells #[.int .i64 q.t, .int .i64 q.p, .slice q.a q.n q.c] 40))) := ⟨(Below.refl _ _).alloc (Nat.le_refl _) _⟩
 have hNW : (w.heap.size + 1) ≤ (w.alloc (.cells #[.int .i64 q.t, .int .i64 q.p, .slice q.a q.n q.c] 40)).heap.size := by simp
 have HB : Hk (Below (w.heap.size + 1) (w.alloc (.cells #[.int .i64 q.t, .int .i64 q.p, .slice q.a q.n q.c] 40)) (w.alloc (.cells #[.int .i64 q.t, .int .i64 q.p, .slice q.a q.n q.c] 40))) := ⟨Below.refl _ _⟩
 have HTR : Hk (∀ X, Below (w.heap.size + 1) (w.alloc (.cells #[.int .i64 q.t, .int .i64 q.p, .slice q.a q.n q.c] 40)) X → Below w.heap.size w X) := ⟨fun X hX => HWB.out.trans (hX.mono (by omega))⟩
 have HP := Hk.mk (Bk.new w #[.int .i64 q.t, .int .i64 q.p, .slice q.a q.n q.c] 40)
 have HVF : Hk (∀ X, Below (w.heap.size + 1) (w.alloc (.cells #[.int .i64 q.t, .int .i64 q.p, .slice q.a q.n q.c] 40)) X → X.cell? ⟨w.heap.size, 0, none⟩ = some (.int .i64 q.t) ∧ X.cell? ⟨w.heap.size, 1, none⟩ = some (.int .i64 q.p) ∧ X.cell? ⟨w.heap.size, 2, none⟩ = some (.slice q.a q.n q.c) ∧ w.heap.size < X.heap.size) := ⟨fun X hX => by
  have h0 := (hX.cell (p := ⟨w.heap.size, 0, none⟩) (Nat.lt_succ_self _)).trans (HP.out.c 0)
  exact ⟨h0, (hX.cell (p := ⟨w.heap.size, 1, none⟩) (Nat.lt_succ_self _)).trans (HP.out.c 1), (hX.cell (p := ⟨w.heap.size, 2, none⟩) (Nat.lt_succ_self _)).trans (HP.out.c 2), World.block_lt_of_cell? _ _ h0⟩⟩
 have HI : Hk (∀ X, Below (w.heap.size + 1) (w.alloc (.cells #[.int .i64 q.t, .int .i64 q.p, .slice q.a q.n q.c] 40)) X → InD X w.heap.size a n l) := ⟨fun X hX => h.below (HTR.out X hX) (Nat.le_refl _)⟩
 have HQ : Hk (∀ X, Below (w.heap.size + 1) (w.alloc (.cells #[.int .i64 q.t, .int .i64 q.p, .slice q.a q.n q.c] 40)) X → CmD X X.heap.size q.a q.n q.l) := ⟨fun X hX => (hq.below (HTR.out X hX) (Nat.le_refl _)).mono (HTR.out X hX).size⟩
 have HL := Hk.mk h.q.len
 have hn20 : n ≤ 1048576 := by have := hs.n; have := h.q.len; omega
 have HS := Hk.mk hs
 have HSQ := Hk.mk hsq
 clear h hq hs hsq HP
 go_enter Tryz.func69, Tryz.ntmps69
 go_wp2
 go_loopw [6] (fun i wr => ∃ (k : Nat), i = .int .i64 k ∧ k ≤ n ∧ Hk (∀ y, y ∈ (abI l).take k → ltB y q.ab = true) ∧ Hk (Below (w.heap.size + 1) (w.alloc (.cells #[.int .i64 q.t, .int .i64 q.p, .slice q.a q.n q.c] 40)) wr)) (fun i _ => n - (intOf i).toNat)
 case atStart => exact ⟨0, rfl, Nat.zero_le _, ⟨fun y hy => by simp at hy⟩, HB⟩
 case round =>
  clear HB
  obtain ⟨k, rfl, hk, HA, HB⟩ := hrel
  obtain ⟨x0, x1, x2, xl⟩ := HVF.out _ HB.out
  have HV : Hk (Below wr.heap.size wr wr) := ⟨Below.refl _ _⟩
  by_cases hlt : k < n
  ·obtain ⟨b, off, rfl, hbl, ⟨p0, p1, p2⟩, hnq⟩ := (HI.out _ HB.out).three hlt
   have hkl : k < l.length := by rw [HL.out]; exact hlt
   have HAB : Hk ((abI l)[k]? = some (l.getD k default).ab) := ⟨by unfold abI; rw [List.getElem?_map, List.getElem?_eq_getElem hkl]; simp [List.getD, hkl]⟩
   obtain ⟨pq, hpq⟩ : ∃ pq, l.getD k default = pq := ⟨_, rfl⟩
   rw [hpq] at p0 p1 p2 HAB
   have hbr : b < wr.heap.size := Nat.lt_of_lt_of_le hbl (HTR.out _ HB.out).size
   have t0 : (0 : Int) ≤ (k : Int) := by omega
   have t1 : (k : Int) < (n : Int) := by omega
   have HLT := Hk.mk hlt
   have gk : IntKind.i64.wrap ((k : Int) + 1) = ((k + 1 : Nat) : Int) := by push_cast; exact wr27 (by omega) (by omega)
   clear hnq hpq hkl hbl
   by_cases hl : ltI pq q
   ·have EA : Hk (ltI pq q ↔ true = true) := ⟨⟨fun _ => rfl, fun _ => hl⟩⟩
    have HA2 : Hk (∀ y, y ∈ (abI l).take (k + 1) → ltB y q.ab = true) := ⟨fun y hy => by
     rw [List.take_add_one, HAB.out] at hy
     rcases List.mem_append.1 hy with hy | hy
     ·exact HA.out y hy
     ·have : y = pq.ab := by simpa using hy
      rw [this]; exact (ltB_iff pq q).2 hl⟩
    clear hl hlt hk
    focus
     go_upto_region 2 with fail
     refine wp_region_held_drew (S := (fun X => (∀ b o, b < wr.heap.size → X.cell? ⟨b, o, none⟩ = wr.cell? ⟨b, o, none⟩) ∧ Below wr.heap.size wr X)) (by kernel_rfl) ?_ (fun hHeld => ?_)
     ·exact kw_S (kw_drew HV.out)
     have HI : Ix [0, 1, 2, 3, 4, 5, 6, 7, 8, 9] := trivial
     iterate 10 (refine tkA HI (v := ?_) rfl (by kernel_rfl) (fun _ _ _ h => h) (.inl ⟨by rfl, fun wX hSw => ?_⟩) hHeld (fun HJ => ?_); rotate_left; (focus ((try dsimp only at hSw); go_simp; try with_reducible rfl)); clear HI; have HI := HJ; clear HJ; try simp only [Act.put, jjA, jjB, jjC, jjD, jjE, jjF])
     clear HI
     refine wpAnyH_ready (rs := [10]) (by kernel_rfl) (by simp) ?_
     refine AllReadyH.cons rfl (fun K hK => ?_) (AllReadyH.nil)
     go_simp
     ((go_at_call 66; (with_reducible refine (rahead_as true pq q _ EA).mono ?_); rintro e z ⟨rfl, hb⟩; have hB2 : Hk (Below wr.heap.size wr z) := ⟨by first | exact kw_step HV.out (Nat.le_refl _) hb | exact kw_step HV.out.drew (Nat.le_refl _) hb⟩; clear hb; replace HV := hB2; clear hB2))
     refine hK.out _ _ ?_ (fun hHeld => ?_)
     ·exact kw_S HV.out
     clear hK K
     (try simp only [Act.put, jjA, jjB, jjC, jjD, jjE, jjF])
     have HI : Ix [11] := trivial
     (refine tkA HI (v := ?_) rfl (by kernel_rfl) (fun _ _ _ h => h) (.inl ⟨by rfl, fun wX hSw => ?_⟩) hHeld (fun HJ => ?_); rotate_left; (focus ((try dsimp only at hSw); go_simp; try with_reducible rfl)); clear HI; have HI := HJ; clear HJ; try simp only [Act.put, jjA, jjB, jjC, jjD, jjE, jjF])
     clear HI
     refine wpAnyH_done (by kernel_rfl) ?_ _
     have HB2 := Hk.mk (HB.out.trans (HV.out.mono (kw_size HB.out hNW)))
     go_wp2
     exact ⟨⟨k + 1, by go_num, HLT.out, HA2, HB2⟩, by first | exact nx_ms HLT.out | exact nx_ms' HLT.out⟩
   ·have EA : Hk (ltI pq q ↔ false = true) := ⟨⟨fun h => absurd h hl, fun h => by cases h⟩⟩
    have HN1 : Hk (ltB pq.ab q.ab = false) := ⟨by cases h : ltB pq.ab q.ab; rfl; exact absurd ((ltB_iff pq q).1 h) hl⟩
    clear hl hlt hk
    focus
     go_upto_region 2 with fail
     refine wp_region_held_drew (S := (fun X => (∀ b o, b < wr.heap.size → X.cell? ⟨b, o, none⟩ = wr.cell? ⟨b, o, none⟩) ∧ Below wr.heap.size wr X)) (by kernel_rfl) ?_ (fun hHeld => ?_)
     ·exact kw_S (kw_drew HV.out)
     have HI : Ix [0, 1, 2, 3, 4, 5, 6, 7, 8, 9] := trivial
     iterate 10 (refine tkA HI (v := ?_) rfl (by kernel_rfl) (fun _ _ _ h => h) (.inl ⟨by rfl, fun wX hSw => ?_⟩) hHeld (fun HJ => ?_); rotate_left; (focus ((try dsimp only at hSw); go_simp; try with_reducible rfl)); clear HI; have HI := HJ; clear HJ; try simp only [Act.put, jjA, jjB, jjC, jjD, jjE, jjF])
     clear HI
     refine wpAnyH_ready (rs := [10]) (by kernel_rfl) (by simp) ?_
     refine AllReadyH.cons rfl (fun K hK => ?_) (AllReadyH.nil)
     go_simp
     ((go_at_call 66; (with_reducible refine (rahead_as false pq q _ EA).mono ?_); rintro e z ⟨rfl, hb⟩; have hB2 : Hk (Below wr.heap.size wr z) := ⟨by first | exact kw_step HV.out (Nat.le_refl _) hb | exact kw_step HV.out.drew (Nat.le_refl _) hb⟩; clear hb; replace HV := hB2; clear hB2))
     refine hK.out _ _ ?_ (fun hHeld => ?_)
     ·exact kw_S HV.out
     clear hK K
     (try simp only [Act.put, jjA, jjB, jjC, jjD, jjE, jjF])
     have HI : Ix [11] := trivial
     (refine tkA HI (v := ?_) rfl (by kernel_rfl) (fun _ _ _ h => h) (.inl ⟨by rfl, fun wX hSw => ?_⟩) hHeld (fun HJ => ?_); rotate_left; (focus ((try dsimp only at hSw); go_simp; try with_reducible rfl)); clear HI; have HI := HJ; clear HJ; try simp only [Act.put, jjA, jjB, jjC, jjD, jjE, jjF])
     clear HI
     refine wpAnyH_done (by kernel_rfl) ?_ _
     go_upto_region 4 with fail
     by_cases hl2 : ltI q pq
     ·have EB : Hk (ltI q pq ↔ true = true) := ⟨⟨fun _ => rfl, fun _ => hl2⟩⟩
      refine wp_region_held_drew (S := (fun X => (∀ b o, b < wr.heap.size → X.cell? ⟨b, o, none⟩ = wr.cell? ⟨b, o, none⟩) ∧ Below wr.heap.size wr X)) (by kernel_rfl) ?_ (fun hHeld => ?_)
      ·exact kw_S (kw_drew HV.out)
      have HI : Ix [0, 1, 2, 3, 4, 5, 6, 7, 8, 9] := trivial
      iterate 10 (refine tkA HI (v := ?_) rfl (by kernel_rfl) (fun _ _ _ h => h) (.inl ⟨by rfl, fun wX hSw => ?_⟩) hHeld (fun HJ => ?_); rotate_left; (focus ((try dsimp only at hSw); go_simp; try with_reducible rfl)); clear HI; have HI := HJ; clear HJ; try simp only [Act.put, jjA, jjB, jjC, jjD, jjE, jjF])
      clear HI
      refine wpAnyH_ready (rs := [10]) (by kernel_rfl) (by simp) ?_
      refine AllReadyH.cons rfl (fun K hK => ?_) (AllReadyH.nil)
      go_simp
      ((go_at_call 66; (with_reducible refine (rahead_as true q pq _ EB).mono ?_); rintro e z ⟨rfl, hb⟩; have hB2 : Hk (Below wr.heap.size wr z) := ⟨by first | exact kw_step HV.out (Nat.le_refl _) hb | exact kw_step HV.out.drew (Nat.le_refl _) hb⟩; clear hb; replace HV := hB2; clear hB2))
      refine hK.out _ _ ?_ (fun hHeld => ?_)
      ·exact kw_S HV.out
      clear hK K
      (try simp only [Act.put, jjA, jjB, jjC, jjD, jjE, jjF])
      have HI : Ix [11, 12] := trivial
      iterate 2 (refine tkA HI (v := ?_) rfl (by kernel_rfl) (fun _ _ _ h => h) (.inl ⟨by rfl, fun wX hSw => ?_⟩) hHeld (fun HJ => ?_); rotate_left; (focus ((try dsimp only at hSw); go_simp; try with_reducible rfl)); clear HI; have HI := HJ; clear HJ; try simp only [Act.put, jjA, jjB, jjC, jjD, jjE, jjF])
      clear HI
      refine wpAnyH_done (by kernel_rfl) ?_ _
      rename World => VA
      have HB0 := Hk.mk (HB.out.trans (HV.out.mono (kw_size HB.out hNW)))
      clear x0 x1 x2 xl p0 p1 p2 HB HV hHeld
      obtain ⟨x0, x1, x2, xl⟩ := HVF.out _ HB0.out
      have HKN : Hk (k ≤ n) := ⟨Nat.le_of_lt HLT.out⟩
      have HRS : Hk (res = some ((abI l).take k ++ q.ab :: (abI l).drop k)) := ⟨by
       rw [← E.out]
       have hkl : k < (abI l).length := by rw [abI_len, HL.out]; exact HLT.out
       have e1 : (abI l)[k] = pq.ab := by have := HAB.out; rw [List.getElem?_eq_getElem hkl] at this; injection this
       rw [put_mid hkl HA.out (by rw [e1]; exact HN1.out), e1, if_pos ((ltB_iff q pq).2 hl2)]⟩
      have k1 : (k : Int) ≤ (c : Int) := by omega
      go_upto_region 6 with fail
      have L0V : VA.heap.size ≤ VA.heap.size := Nat.le_refl _
      apply reg_merge
      intro HG4
      apply reg_merge
      intro HG3
      apply reg_merge
      intro HG2
      apply reg_merge
      intro HG1
      refine wp_region_held_drew (S := fun Z => (∀ b o, b < VA.heap.size → Z.cell? ⟨b, o, none⟩ = VA.cell? ⟨b, o, none⟩)) (by kernel_rfl) (fun _ _ _ => rfl) (fun hHeld => ?_)
      have HB : Hk (Below VA.heap.size VA VA.drew) := ⟨(Below.refl _ _).drew⟩
      obtain ⟨WZ, hWe⟩ : ∃ WZ, VA.drew = WZ := ⟨_, rfl⟩
      rw [hWe] at HB hHeld ⊢
      clear hWe
      have HI : Ix [0, 1, 2, 4] := trivial
      iterate 4 (refine tkA HI (v := ?_) rfl (by kernel_rfl) (fun _ _ _ h => h) (.inl ⟨by rfl, fun wX hSw => ?_⟩) hHeld (fun HJ => ?_); rotate_left; (focus ((try dsimp only at hSw); go_simp; try with_reducible rfl)); clear HI; have HI := HJ; clear HJ; try simp only [Act.put, jjA, jjB, jjC, jjD, jjE, jjF])
      clear HI
      refine wpAnyH_ready (rs := [3]) (by kernel_rfl) (by simp) ?_
      refine AllReadyH.cons rfl (fun K hK => ?_) (AllReadyH.nil)
      ·skip
       go_simp
       (first | (go_at_call 26; (with_reducible refine (copyins_any (some ⟨b, off, none⟩) k c (l.take k) _ (((HI.out _ (HB0.out.trans (HB.out.mono (kw_size HB0.out hNW)))).head (Nat.le_of_lt_succ (Nat.lt_succ_of_le HKN.out))).mono (HTR.out _ (HB0.out.trans (HB.out.mono (kw_size HB0.out hNW)))).size) (smI_take HS.out k)).mono ?_); rintro e z ⟨v, L1, rfl, ho, hab, hb⟩; have HV1 : Hk (OwA z VA.heap.size v k L1 (abI (l.take k))) := ⟨⟨ho.weak (kw_le HB.out L0V), hab⟩⟩; clear ho hab) | (go_at_call 64; (with_reducible refine (copyin_any q.t q.p q.a q.n q.c q.l _ (HQ.out _ (HB0.out.trans (HB.out.mono (kw_size HB0.out hNW)))) HSQ.out).mono ?_); rintro e z ⟨a2, c2, L2, rfl, ho, hab, hb⟩; have HOC : Hk (OcA z VA.heap.size (.slice a2 q.n c2) q.n L2 (abC q.l)) := ⟨⟨ho.weak (kw_le HB.out L0V), hab⟩⟩; clear ho hab))
       replace HB := Hk.mk (kw_step HB.out L0V hb)
       clear hb
       refine hK.out _ _ ?_ (fun hHeld2 => ?_)
       ·exact kw_s HB.out
       clear hK K hHeld
       have hHeld := hHeld2
       clear hHeld2
       (try simp only [Act.put, jjA, jjB, jjC, jjD, jjE, jjF])
       refine reg_cast (l' := #[true, true, true, true, true, false, false, false, false]) (by kernel_rfl) ?_
       revert hHeld
       revert HV1
       revert HB
       revert L1
       revert v
       revert z
       exact HG1.out
      intro WZ v L1 HB HV1 hHeld
      refine wpAnyH_ready (rs := [5]) (by kernel_rfl) (by simp) ?_
      refine AllReadyH.cons rfl (fun K hK => ?_) (AllReadyH.nil)
      ·skip
       go_simp
       (first | (go_at_call 26; (with_reducible refine (copyins_any (some ⟨b, off, none⟩) k c (l.take k) _ (((HI.out _ (HB0.out.trans (HB.out.mono (kw_size HB0.out hNW)))).head (Nat.le_of_lt_succ (Nat.lt_succ_of_le HKN.out))).mono (HTR.out _ (HB0.out.trans (HB.out.mono (kw_size HB0.out hNW)))).size) (smI_take HS.out k)).mono ?_); rintro e z ⟨v, L1, rfl, ho, hab, hb⟩; have HV1 : Hk (OwA z VA.heap.size v k L1 (abI (l.take k))) := ⟨⟨ho.weak (kw_le HB.out L0V), hab⟩⟩; clear ho hab) | (go_at_call 64; (with_reducible refine (copyin_any q.t q.p q.a q.n q.c q.l _ (HQ.out _ (HB0.out.trans (HB.out.mono (kw_size HB0.out hNW)))) HSQ.out).mono ?_); rintro e z ⟨a2, c2, L2, rfl, ho, hab, hb⟩; have HOC : Hk (OcA z VA.heap.size (.slice a2 q.n c2) q.n L2 (abC q.l)) := ⟨⟨ho.weak (kw_le HB.out L0V), hab⟩⟩; clear ho hab))
       replace HV1 := Hk.mk (HV1.out.below hb)
       replace HB := Hk.mk (kw_step HB.out L0V hb)
       clear hb
       refine hK.out _ _ ?_ (fun hHeld2 => ?_)
       ·exact kw_s HB.out
       clear hK K hHeld
       have hHeld := hHeld2
       clear hHeld2
       (try simp only [Act.put, jjA, jjB, jjC, jjD, jjE, jjF])
       refine reg_cast (l' := #[true, true, true, true, true, true, false, false, false]) (by kernel_rfl) ?_
       revert hHeld
       revert HOC
       revert HV1
       revert HB
       revert L2
       revert c2
       revert a2
       revert L1
       revert v
       revert z
       exact HG2.out
      intro WZ v L1 a2 c2 L2 HB HV1 HOC hHeld
      refine wpAnyH_ready (rs := [6]) (by kernel_rfl) (by simp) ?_
      refine AllReadyH.cons rfl (fun K hK => ?_) (AllReadyH.nil)
      ·skip
       go_simp
       have hb := kw_al (Below.refl WZ.heap.size WZ) (Nat.le_refl _) (.cells #[.int .i64 q.t, .int .i64 q.p, .slice a2 q.n c2] 40)
       replace HV1 := Hk.mk (HV1.out.below hb)
       replace HOC := Hk.mk (HOC.out.below hb)
       clear hb
       have L_S := kw_le HB.out L0V
       have HP_S : Hk (Bk _ _ #[.int .i64 q.t, .int .i64 q.p, .slice a2 q.n c2]) := ⟨Bk.new WZ #[.int .i64 q.t, .int .i64 q.p, .slice a2 q.n c2] 40⟩
       replace HB := Hk.mk (kw_al HB.out L0V (.cells #[.int .i64 q.t, .int .i64 q.p, .slice a2 q.n c2] 40))
       refine hK.out _ _ ?_ (fun hHeld2 => ?_)
       ·exact kw_s HB.out
       clear hK K hHeld
       have hHeld := hHeld2
       clear hHeld2
       (try simp only [Act.put, jjA, jjB, jjC, jjD, jjE, jjF])
       generalize WZ.heap.size = S at *
       generalize WZ.alloc (.cells #[.int .i64 q.t, .int .i64 q.p, .slice a2 q.n c2] 40) = WZx at *
       refine reg_cast (l' := #[true, true, true, true, true, true, true, false, false]) (by kernel_rfl) ?_
       revert hHeld
       revert HOC
       revert HV1
       revert L_S
       revert HP_S
       revert HB
       revert L2
       revert c2
       revert a2
       revert L1
       revert v
       revert S
       revert WZx
       exact HG3.out
      intro WZ S v L1 a2 c2 L2 HB HP_S L_S HV1 HOC hHeld
      refine wpAnyH_ready (rs := [7]) (by kernel_rfl) (by simp) ?_
      refine AllReadyH.cons rfl (fun K hK => ?_) (AllReadyH.nil)
      ·skip
       (refine step_append27 (by rfl) (.tmp 38) (.tmp 41) 22 (by rfl) VA.heap.size 40 i0 (.agg #[.int .i64 0, .int .i64 0, .slice none 0 0]) 3 40 Tryz.underlying22 hi hz0 hz1 hz2 (by rfl) (by decide) v k (flt shI L1) (by rfl) HV1.out.o.o.row ⟨S, 0, none⟩ 1 1 (({ q with a := a2, c := c2, l := L2 } : Iv).cs) (by rfl) (by rfl) (bk_news27 HP_S.out) (is_one _) (by unfold maxLen; omega) (by omega) (kw_le HB.out L0V) ?_; intro v2 z hown hgrow; have HV2 : Hk (OwA z VA.heap.size v2 (k + 1) (L1 ++ [{ q with a := a2, c := c2, l := L2 }]) (abI (l.take k) ++ [q.ab])) := ⟨⟨HV1.out.o.app1 (q := { q with a := a2, c := c2, l := L2 }) HOC.out.o hown hgrow, by rw [abI_app, HV1.out.f]; show _ ++ [(⟨q.t, q.p, abC L2⟩ : In)] = _ ++ [(⟨q.t, q.p, abC q.l⟩ : In)]; rw [HOC.out.f]⟩⟩; replace HB := Hk.mk (HB.out.grown hgrow (kw_le HB.out L0V) (fun g hg => (HV1.out.o.o.lt g hg).1)); clear hown hgrow)
       refine hK.out _ _ ?_ (fun hHeld2 => ?_)
       ·exact kw_s HB.out
       clear hK K hHeld
       have hHeld := hHeld2
       clear hHeld2
       (try simp only [Act.put, jjA, jjB, jjC, jjD, jjE, jjF])
       clear HV1
       clear HOC
       clear HP_S L_S
       have HI : Ix [8] := trivial
       (refine tkA HI (v := ?_) rfl (by kernel_rfl) (fun _ _ _ h => h) (.inl ⟨by rfl, fun wX hSw => ?_⟩) hHeld (fun HJ => ?_); rotate_left; (focus ((try dsimp only at hSw); go_simp; try with_reducible rfl)); clear HI; have HI := HJ; clear HJ; try simp only [Act.put, jjA, jjB, jjC, jjD, jjE, jjF])
       clear HI
       refine reg_cast (l' := #[true, true, true, true, true, true, true, true, true]) (by kernel_rfl) ?_
       revert hHeld
       revert HV2
       revert HB
       revert v2
       revert L2
       revert c2
       revert a2
       revert L1
       revert v
       revert S
       revert z
       exact HG4.out
      intro WZ S v L1 a2 c2 L2 v2 HB HV2 hHeld
      refine wpAnyH_done (by kernel_rfl) ?_ _
      have hci : ¬ (c = k) := by have := HLT.out; omega
      have k2 : (k : Int) ≤ (n : Int) := by have := HKN.out; omega
      have HB7 := Hk.mk (HB0.out.trans (HB.out.mono (kw_size HB0.out hNW)))
      have HVA := Hk.mk HB.out.size
      have HWV := Hk.mk (HTR.out _ HB0.out).size
      clear x0 x1 x2 xl hHeld L0V
      go_wp2_with (first
       | (go_at_call 26; (with_reducible refine (copyins_any (some ⟨b, off + k * 3, none⟩) (n - k) (c - k) (l.drop k) _ ((ind_tail (HI.out _ HB7.out) HKN.out).mono (HTR.out _ HB7.out).size) (smI_drop HS.out k)).mono ?_); rintro e z ⟨v3, L3, rfl, ho3, hab3, hb3⟩; have HV3 := Hk.mk ho3; have HA3 := Hk.mk hab3; have HZ2 := Hk.mk (HV2.out.below hb3); have HB8 := Hk.mk (kw_step HB7.out hNW hb3); have HZS := Hk.mk (Nat.le_trans HVA.out hb3.size); clear ho3 hab3 hb3)
       | (at_builtin; go_must (refine append_row27 rfl _ _ 22 rfl VA.heap.size 40 i0 (.agg #[.int .i64 0, .int .i64 0, .slice none 0 0]) 3 40 Tryz.underlying22 hi hz0 hz1 hz2 rfl (by decide) v2 (k + 1) (flt shI (L1 ++ [({ q with a := a2, c := c2, l := L2 } : Iv)])) rfl HZ2.out.o.o.row v3 (n - k) (flt shI L3) rfl _ HV3.out.o.row (flt_one shI L3) (by unfold maxLen; omega) (by omega) HZS.out ?_); intro v4 z4 hown hgrow; have HV4 := Hk.mk (OwN.appN HZ2.out.o (HV3.out.weak HVA.out) hown hgrow); have HB9 := Hk.mk (HB8.out.grown hgrow (Nat.le_trans (kw_size HB0.out hNW) HZS.out) (fun g hg => Nat.le_trans (kw_size HB0.out hNW) (HZ2.out.o.o.lt g hg).1)); clear hown hgrow))
      obtain ⟨a4, c4, rfl, -⟩ := HV4.out.o.form
      go_ret2
      refine ⟨HTR.out _ HB9.out, fun h => ?_, fun m hm => ⟨_, _, _, _, rfl, HV4.out.weak HWV.out, ?_⟩⟩
      ·rw [HRS.out] at h; cases h
      ·rw [HRS.out] at hm
       injection hm with hm
       rw [abI_app, HZ2.out.f, HA3.out, ← hm, abI_drp, abI_tk, List.append_assoc]; rfl
     ·have EB : Hk (ltI q pq ↔ false = true) := ⟨⟨fun h => absurd h hl2, fun h => by cases h⟩⟩
      have HR : Hk (res = none) := ⟨by
       rw [← E.out]
       have hkl : k < (abI l).length := by rw [abI_len, HL.out]; exact HLT.out
       have e1 : (abI l)[k] = pq.ab := by have := HAB.out; rw [List.getElem?_eq_getElem hkl] at this; injection this
       rw [put_mid hkl HA.out (by rw [e1]; exact HN1.out), e1, if_neg (fun h => hl2 ((ltB_iff q pq).1 h))]⟩
      refine wp_region_held_drew (S := (fun X => (∀ b o, b < wr.heap.size → X.cell? ⟨b, o, none⟩ = wr.cell? ⟨b, o, none⟩) ∧ Below wr.heap.size wr X)) (by kernel_rfl) ?_ (fun hHeld => ?_)
      ·exact kw_S (kw_drew HV.out)
      have HI : Ix [0, 1, 2, 3, 4, 5, 6, 7, 8, 9] := trivial
      iterate 10 (refine tkA HI (v := ?_) rfl (by kernel_rfl) (fun _ _ _ h => h) (.inl ⟨by rfl, fun wX hSw => ?_⟩) hHeld (fun HJ => ?_); rotate_left; (focus ((try dsimp only at hSw); go_simp; try with_reducible rfl)); clear HI; have HI := HJ; clear HJ; try simp only [Act.put, jjA, jjB, jjC, jjD, jjE, jjF])
      clear HI
      refine wpAnyH_ready (rs := [10]) (by kernel_rfl) (by simp) ?_
      refine AllReadyH.cons rfl (fun K hK => ?_) (AllReadyH.nil)
      go_simp
      ((go_at_call 66; (with_reducible refine (rahead_as false q pq _ EB).mono ?_); rintro e z ⟨rfl, hb⟩; have hB2 : Hk (Below wr.heap.size wr z) := ⟨by first | exact kw_step HV.out (Nat.le_refl _) hb | exact kw_step HV.out.drew (Nat.le_refl _) hb⟩; clear hb; replace HV := hB2; clear hB2))
      refine hK.out _ _ ?_ (fun hHeld => ?_)
      ·exact kw_S HV.out
      clear hK K
      (try simp only [Act.put, jjA, jjB, jjC, jjD, jjE, jjF])
      have HI : Ix [11, 12] := trivial
      iterate 2 (refine tkA HI (v := ?_) rfl (by kernel_rfl) (fun _ _ _ h => h) (.inl ⟨by rfl, fun wX hSw => ?_⟩) hHeld (fun HJ => ?_); rotate_left; (focus ((try dsimp only at hSw); go_simp; try with_reducible rfl)); clear HI; have HI := HJ; clear HJ; try simp only [Act.put, jjA, jjB, jjC, jjD, jjE, jjF])
      clear HI
      refine wpAnyH_done (by kernel_rfl) ?_ _
      have HB2 := Hk.mk (HB.out.trans (HV.out.mono (kw_size HB.out hNW)))
      go_wp2
      go_ret2
      exact ⟨HTR.out _ HB2.out, fun _ => rfl, fun m hm => by rw [HR.out] at hm; cases hm⟩
  ·obtain rfl : k = n := by omega
   have HTK : Hk (l.take k = l) := ⟨List.take_of_length_le (by rw [HL.out]; exact Nat.le_refl _)⟩
   have HRS : Hk (res = some (abI l ++ [q.ab])) := ⟨by rw [← E.out]; exact put_end (fun y hy => HA.out y (by rwa [← abI_tk, HTK.out]))⟩
   clear hlt hk HA
   rcases hfm with ⟨rfl, rfl, rfl⟩ | ⟨g, off, rfl⟩
   ·focus
     have HKN : Hk (0 ≤ 0) := ⟨Nat.le_refl _⟩
     go_upto_region 2 with fail
     go_quiet (fail)
     replace HB := Hk.mk (below_drewN HB.out nq)
     clear x0 x1 x2 xl HV
     generalize World.drewN wr nq = WQ at *
     go_upto_region 4 with fail
     go_quiet (fail)
     have HB0 := Hk.mk (below_drewN HB.out nq)
     clear HB
     generalize World.drewN WQ nq = VA at *
     obtain ⟨x0, x1, x2, xl⟩ := HVF.out _ HB0.out
     go_upto_region 6 with fail
     have L0V : VA.heap.size ≤ VA.heap.size := Nat.le_refl _
     apply reg_merge
     intro HG4
     apply reg_merge
     intro HG3
     apply reg_merge
     intro HG2
     apply reg_merge
     intro HG1
     refine wp_region_held_drew (S := fun Z => (∀ b o, b < VA.heap.size → Z.cell? ⟨b, o, none⟩ = VA.cell? ⟨b, o, none⟩)) (by kernel_rfl) (fun _ _ _ => rfl) (fun hHeld => ?_)
     have HB : Hk (Below VA.heap.size VA VA.drew) := ⟨(Below.refl _ _).drew⟩
     obtain ⟨WZ, hWe⟩ : ∃ WZ, VA.drew = WZ := ⟨_, rfl⟩
     rw [hWe] at HB hHeld ⊢
     clear hWe
     have HI : Ix [0, 1, 2, 4] := trivial
     iterate 4 (refine tkA HI (v := ?_) rfl (by kernel_rfl) (fun _ _ _ h => h) (.inl ⟨by rfl, fun wX hSw => ?_⟩) hHeld (fun HJ => ?_); rotate_left; (focus ((try dsimp only at hSw); go_simp; try with_reducible rfl)); clear HI; have HI := HJ; clear HJ; try simp only [Act.put, jjA, jjB, jjC, jjD, jjE, jjF])
     clear HI
     refine wpAnyH_ready (rs := [3]) (by kernel_rfl) (by simp) ?_
     refine AllReadyH.cons rfl (fun K hK => ?_) (AllReadyH.nil)
     ·skip
      go_simp
      (first | (go_at_call 26; (with_reducible refine (copyins_any none 0 0 (l.take 0) _ (((HI.out _ (HB0.out.trans (HB.out.mono (kw_size HB0.out hNW)))).head (Nat.le_of_lt_succ (Nat.lt_succ_of_le HKN.out))).mono (HTR.out _ (HB0.out.trans (HB.out.mono (kw_size HB0.out hNW)))).size) (smI_take HS.out 0)).mono ?_); rintro e z ⟨v, L1, rfl, ho, hab, hb⟩; have HV1 : Hk (OwA z VA.heap.size v 0 L1 (abI (l.take 0))) := ⟨⟨ho.weak (kw_le HB.out L0V), hab⟩⟩; clear ho hab) | (go_at_call 64; (with_reducible refine (copyin_any q.t q.p q.a q.n q.c q.l _ (HQ.out _ (HB0.out.trans (HB.out.mono (kw_size HB0.out hNW)))) HSQ.out).mono ?_); rintro e z ⟨a2, c2, L2, rfl, ho, hab, hb⟩; have HOC : Hk (OcA z VA.heap.size (.slice a2 q.n c2) q.n L2 (abC q.l)) := ⟨⟨ho.weak (kw_le HB.out L0V), hab⟩⟩; clear ho hab))
      replace HB := Hk.mk (kw_step HB.out L0V hb)
      clear hb
      refine hK.out _ _ ?_ (fun hHeld2 => ?_)
      ·exact kw_s HB.out
      clear hK K hHeld
      have hHeld := hHeld2
      clear hHeld2
      (try simp only [Act.put, jjA, jjB, jjC, jjD, jjE, jjF])
      refine reg_cast (l' := #[true, true, true, true, true, false, false, false, false]) (by kernel_rfl) ?_
      revert hHeld
      revert HV1
      revert HB
      revert L1
      revert v
      revert z
      exact HG1.out
     intro WZ v L1 HB HV1 hHeld
     refine wpAnyH_ready (rs := [5]) (by kernel_rfl) (by simp) ?_
     refine AllReadyH.cons rfl (fun K hK => ?_) (AllReadyH.nil)
     ·skip
      go_simp
      (first | (go_at_call 26; (with_reducible refine (copyins_any none 0 0 (l.take 0) _ (((HI.out _ (HB0.out.trans (HB.out.mono (kw_size HB0.out hNW)))).head (Nat.le_of_lt_succ (Nat.lt_succ_of_le HKN.out))).mono (HTR.out _ (HB0.out.trans (HB.out.mono (kw_size HB0.out hNW)))).size) (smI_take HS.out 0)).mono ?_); rintro e z ⟨v, L1, rfl, ho, hab, hb⟩; have HV1 : Hk (OwA z VA.heap.size v 0 L1 (abI (l.take 0))) := ⟨⟨ho.weak (kw_le HB.out L0V), hab⟩⟩; clear ho hab) | (go_at_call 64; (with_reducible refine (copyin_any q.t q.p q.a q.n q.c q.l _ (HQ.out _ (HB0.out.trans (HB.out.mono (kw_size HB0.out hNW)))) HSQ.out).mono ?_); rintro e z ⟨a2, c2, L2, rfl, ho, hab, hb⟩; have HOC : Hk (OcA z VA.heap.size (.slice a2 q.n c2) q.n L2 (abC q.l)) := ⟨⟨ho.weak (kw_le HB.out L0V), hab⟩⟩; clear ho hab))
      replace HV1 := Hk.mk (HV1.out.below hb)
      replace HB := Hk.mk (kw_step HB.out L0V hb)
      clear hb
      refine hK.out _ _ ?_ (fun hHeld2 => ?_)
      ·exact kw_s HB.out
      clear hK K hHeld
      have hHeld := hHeld2
      clear hHeld2
      (try simp only [Act.put, jjA, jjB, jjC, jjD, jjE, jjF])
      refine reg_cast (l' := #[true, true, true, true, true, true, false, false, false]) (by kernel_rfl) ?_
      revert hHeld
      revert HOC
      revert HV1
      revert HB
      revert L2
      revert c2
      revert a2
      revert L1
      revert v
      revert z
      exact HG2.out
     intro WZ v L1 a2 c2 L2 HB HV1 HOC hHeld
     refine wpAnyH_ready (rs := [6]) (by kernel_rfl) (by simp) ?_
     refine AllReadyH.cons rfl (fun K hK => ?_) (AllReadyH.nil)
     ·skip
      go_simp
      have hb := kw_al (Below.refl WZ.heap.size WZ) (Nat.le_refl _) (.cells #[.int .i64 q.t, .int .i64 q.p, .slice a2 q.n c2] 40)
      replace HV1 := Hk.mk (HV1.out.below hb)
      replace HOC := Hk.mk (HOC.out.below hb)
      clear hb
      have L_S := kw_le HB.out L0V
      have HP_S : Hk (Bk _ _ #[.int .i64 q.t, .int .i64 q.p, .slice a2 q.n c2]) := ⟨Bk.new WZ #[.int .i64 q.t, .int .i64 q.p, .slice a2 q.n c2] 40⟩
      replace HB := Hk.mk (kw_al HB.out L0V (.cells #[.int .i64 q.t, .int .i64 q.p, .slice a2 q.n c2] 40))
      refine hK.out _ _ ?_ (fun hHeld2 => ?_)
      ·exact kw_s HB.out
      clear hK K hHeld
      have hHeld := hHeld2
      clear hHeld2
      (try simp only [Act.put, jjA, jjB, jjC, jjD, jjE, jjF])
      generalize WZ.heap.size = S at *
      generalize WZ.alloc (.cells #[.int .i64 q.t, .int .i64 q.p, .slice a2 q.n c2] 40) = WZx at *
      refine reg_cast (l' := #[true, true, true, true, true, true, true, false, false]) (by kernel_rfl) ?_
      revert hHeld
      revert HOC
      revert HV1
      revert L_S
      revert HP_S
      revert HB
      revert L2
      revert c2
      revert a2
      revert L1
      revert v
      revert S
      revert WZx
      exact HG3.out
     intro WZ S v L1 a2 c2 L2 HB HP_S L_S HV1 HOC hHeld
     refine wpAnyH_ready (rs := [7]) (by kernel_rfl) (by simp) ?_
     refine AllReadyH.cons rfl (fun K hK => ?_) (AllReadyH.nil)
     ·skip
      (refine step_append27 (by rfl) (.tmp 38) (.tmp 41) 22 (by rfl) VA.heap.size 40 i0 (.agg #[.int .i64 0, .int .i64 0, .slice none 0 0]) 3 40 Tryz.underlying22 hi hz0 hz1 hz2 (by rfl) (by decide) v 0 (flt shI L1) (by rfl) HV1.out.o.o.row ⟨S, 0, none⟩ 1 1 (({ q with a := a2, c := c2, l := L2 } : Iv).cs) (by rfl) (by rfl) (bk_news27 HP_S.out) (is_one _) (by unfold maxLen; omega) (by omega) (kw_le HB.out L0V) ?_; intro v2 z hown hgrow; have HV2 : Hk (OwA z VA.heap.size v2 (0 + 1) (L1 ++ [{ q with a := a2, c := c2, l := L2 }]) (abI (l.take 0) ++ [q.ab])) := ⟨⟨HV1.out.o.app1 (q := { q with a := a2, c := c2, l := L2 }) HOC.out.o hown hgrow, by rw [abI_app, HV1.out.f]; show _ ++ [(⟨q.t, q.p, abC L2⟩ : In)] = _ ++ [(⟨q.t, q.p, abC q.l⟩ : In)]; rw [HOC.out.f]⟩⟩; replace HB := Hk.mk (HB.out.grown hgrow (kw_le HB.out L0V) (fun g hg => (HV1.out.o.o.lt g hg).1)); clear hown hgrow)
      refine hK.out _ _ ?_ (fun hHeld2 => ?_)
      ·exact kw_s HB.out
      clear hK K hHeld
      have hHeld := hHeld2
      clear hHeld2
      (try simp only [Act.put, jjA, jjB, jjC, jjD, jjE, jjF])
      clear HV1
      clear HOC
      clear HP_S L_S
      have HI : Ix [8] := trivial
      (refine tkA HI (v := ?_) rfl (by kernel_rfl) (fun _ _ _ h => h) (.inl ⟨by rfl, fun wX hSw => ?_⟩) hHeld (fun HJ => ?_); rotate_left; (focus ((try dsimp only at hSw); go_simp; try with_reducible rfl)); clear HI; have HI := HJ; clear HJ; try simp only [Act.put, jjA, jjB, jjC, jjD, jjE, jjF])
      clear HI
      refine reg_cast (l' := #[true, true, true, true, true, true, true, true, true]) (by kernel_rfl) ?_
      revert hHeld
      revert HV2
      revert HB
      revert v2
      revert L2
      revert c2
      revert a2
      revert L1
      revert v
      revert S
      revert z
      exact HG4.out
     intro WZ S v L1 a2 c2 L2 v2 HB HV2 hHeld
     refine wpAnyH_done (by kernel_rfl) ?_ _
     have HB7 := Hk.mk (HB0.out.trans (HB.out.mono (kw_size HB0.out hNW)))
     have HVA := Hk.mk HB.out.size
     have HWV := Hk.mk (HTR.out _ HB0.out).size
     clear x0 x1 x2 xl hHeld L0V
     go_wp2_with (first
      | (go_at_call 26; (with_reducible refine (copyins_any _ 0 _ [] _ (InD.nil _ _ _) SmI.nil).mono ?_); rintro e z ⟨v3, L3, rfl, ho3, hab3, hb3⟩; have HV3 := Hk.mk ho3; have HA3 := Hk.mk hab3; have HZ2 := Hk.mk (HV2.out.below hb3); have HB8 := Hk.mk (kw_step HB7.out hNW hb3); have HZS := Hk.mk (Nat.le_trans HVA.out hb3.size); clear ho3 hab3 hb3)
      | (at_builtin; go_must (refine append_row27 rfl _ _ 22 rfl VA.heap.size 40 i0 (.agg #[.int .i64 0, .int .i64 0, .slice none 0 0]) 3 40 Tryz.underlying22 hi hz0 hz1 hz2 rfl (by decide) v2 (0 + 1) (flt shI (L1 ++ [({ q with a := a2, c := c2, l := L2 } : Iv)])) rfl HZ2.out.o.o.row v3 0 (flt shI L3) rfl _ HV3.out.o.row (flt_one shI L3) (by unfold maxLen; omega) (by omega) HZS.out ?_); intro v4 z4 hown hgrow; have HV4 := Hk.mk (OwN.appN HZ2.out.o (HV3.out.weak HVA.out) hown hgrow); have HB9 := Hk.mk (HB8.out.grown hgrow (Nat.le_trans (kw_size HB0.out hNW) HZS.out) (fun g hg => Nat.le_trans (kw_size HB0.out hNW) (HZ2.out.o.o.lt g hg).1)); clear hown hgrow))
     obtain ⟨a4, c4, rfl, -⟩ := HV4.out.o.form
     go_ret2
     refine ⟨HTR.out _ HB9.out, fun h => ?_, fun m hm => ⟨_, _, _, _, rfl, HV4.out.weak HWV.out, ?_⟩⟩
     ·rw [HRS.out] at h; cases h
     ·rw [HRS.out] at hm
      injection hm with hm
      rw [abI_app, HZ2.out.f, HA3.out, ← hm, HTK.out]; exact List.append_nil _
   ·have k1 : (k : Int) ≤ (c : Int) := by omega
    have k0 : (0 : Int) ≤ (k : Int) := by omega
    by_cases hck : c = k
    ·obtain rfl : k = c := hck.symm
     focus
      have HKN : Hk (k ≤ k) := ⟨Nat.le_refl _⟩
      go_upto_region 2 with fail
      go_quiet (fail)
      replace HB := Hk.mk (below_drewN HB.out nq)
      clear x0 x1 x2 xl HV
      generalize World.drewN wr nq = WQ at *
      go_upto_region 4 with fail
      go_quiet (fail)
      have HB0 := Hk.mk (below_drewN HB.out nq)
      clear HB
      generalize World.drewN WQ nq = VA at *
      obtain ⟨x0, x1, x2, xl⟩ := HVF.out _ HB0.out
      go_upto_region 6 with fail
      have L0V : VA.heap.size ≤ VA.heap.size := Nat.le_refl _
      apply reg_merge
      intro HG4
      apply reg_merge
      intro HG3
      apply reg_merge
      intro HG2
      apply reg_merge
      intro HG1
      refine wp_region_held_drew (S := fun Z => (∀ b o, b < VA.heap.size → Z.cell? ⟨b, o, none⟩ = VA.cell? ⟨b, o, none⟩)) (by kernel_rfl) (fun _ _ _ => rfl) (fun hHeld => ?_)
      have HB : Hk (Below VA.heap.size VA VA.drew) := ⟨(Below.refl _ _).drew⟩
      obtain ⟨WZ, hWe⟩ : ∃ WZ, VA.drew = WZ := ⟨_, rfl⟩
      rw [hWe] at HB hHeld ⊢
      clear hWe
      have HI : Ix [0, 1, 2, 4] := trivial
      iterate 4 (refine tkA HI (v := ?_) rfl (by kernel_rfl) (fun _ _ _ h => h) (.inl ⟨by rfl, fun wX hSw => ?_⟩) hHeld (fun HJ => ?_); rotate_left; (focus ((try dsimp only at hSw); go_simp; try with_reducible rfl)); clear HI; have HI := HJ; clear HJ; try simp only [Act.put, jjA, jjB, jjC, jjD, jjE, jjF])
      clear HI
      refine wpAnyH_ready (rs := [3]) (by kernel_rfl) (by simp) ?_
      refine AllReadyH.cons rfl (fun K hK => ?_) (AllReadyH.nil)
      ·skip
       go_simp
       (first | (go_at_call 26; (with_reducible refine (copyins_any (some ⟨g, off, none⟩) k k (l.take k) _ (((HI.out _ (HB0.out.trans (HB.out.mono (kw_size HB0.out hNW)))).head (Nat.le_of_lt_succ (Nat.lt_succ_of_le HKN.out))).mono (HTR.out _ (HB0.out.trans (HB.out.mono (kw_size HB0.out hNW)))).size) (smI_take HS.out k)).mono ?_); rintro e z ⟨v, L1, rfl, ho, hab, hb⟩; have HV1 : Hk (OwA z VA.heap.size v k L1 (abI (l.take k))) := ⟨⟨ho.weak (kw_le HB.out L0V), hab⟩⟩; clear ho hab) | (go_at_call 64; (with_reducible refine (copyin_any q.t q.p q.a q.n q.c q.l _ (HQ.out _ (HB0.out.trans (HB.out.mono (kw_size HB0.out hNW)))) HSQ.out).mono ?_); rintro e z ⟨a2, c2, L2, rfl, ho, hab, hb⟩; have HOC : Hk (OcA z VA.heap.size (.slice a2 q.n c2) q.n L2 (abC q.l)) := ⟨⟨ho.weak (kw_le HB.out L0V), hab⟩⟩; clear ho hab))
       replace HB := Hk.mk (kw_step HB.out L0V hb)
       clear hb
       refine hK.out _ _ ?_ (fun hHeld2 => ?_)
       ·exact kw_s HB.out
       clear hK K hHeld
       have hHeld := hHeld2
       clear hHeld2
       (try simp only [Act.put, jjA, jjB, jjC, jjD, jjE, jjF])
       refine reg_cast (l' := #[true, true, true, true, true, false, false, false, false]) (by kernel_rfl) ?_
       revert hHeld
       revert HV1
       revert HB
       revert L1
       revert v
       revert z
       exact HG1.out
      intro WZ v L1 HB HV1 hHeld
      refine wpAnyH_ready (rs := [5]) (by kernel_rfl) (by simp) ?_
      refine AllReadyH.cons rfl (fun K hK => ?_) (AllReadyH.nil)
      ·skip
       go_simp
       (first | (go_at_call 26; (with_reducible refine (copyins_any (some ⟨g, off, none⟩) k k (l.take k) _ (((HI.out _ (HB0.out.trans (HB.out.mono (kw_size HB0.out hNW)))).head (Nat.le_of_lt_succ (Nat.lt_succ_of_le HKN.out))).mono (HTR.out _ (HB0.out.trans (HB.out.mono (kw_size HB0.out hNW)))).size) (smI_take HS.out k)).mono ?_); rintro e z ⟨v, L1, rfl, ho, hab, hb⟩; have HV1 : Hk (OwA z VA.heap.size v k L1 (abI (l.take k))) := ⟨⟨ho.weak (kw_le HB.out L0V), hab⟩⟩; clear ho hab) | (go_at_call 64; (with_reducible refine (copyin_any q.t q.p q.a q.n q.c q.l _ (HQ.out _ (HB0.out.trans (HB.out.mono (kw_size HB0.out hNW)))) HSQ.out).mono ?_); rintro e z ⟨a2, c2, L2, rfl, ho, hab, hb⟩; have HOC : Hk (OcA z VA.heap.size (.slice a2 q.n c2) q.n L2 (abC q.l)) := ⟨⟨ho.weak (kw_le HB.out L0V), hab⟩⟩; clear ho hab))
       replace HV1 := Hk.mk (HV1.out.below hb)
       replace HB := Hk.mk (kw_step HB.out L0V hb)
       clear hb
       refine hK.out _ _ ?_ (fun hHeld2 => ?_)
       ·exact kw_s HB.out
       clear hK K hHeld
       have hHeld := hHeld2
       clear hHeld2
       (try simp only [Act.put, jjA, jjB, jjC, jjD, jjE, jjF])
       refine reg_cast (l' := #[true, true, true, true, true, true, false, false, false]) (by kernel_rfl) ?_
       revert hHeld
       revert HOC
       revert HV1
       revert HB
       revert L2
       revert c2
       revert a2
       revert L1
       revert v
       revert z
       exact HG2.out
      intro WZ v L1 a2 c2 L2 HB HV1 HOC hHeld
      refine wpAnyH_ready (rs := [6]) (by kernel_rfl) (by simp) ?_
      refine AllReadyH.cons rfl (fun K hK => ?_) (AllReadyH.nil)
      ·skip
       go_simp
       have hb := kw_al (Below.refl WZ.heap.size WZ) (Nat.le_refl _) (.cells #[.int .i64 q.t, .int .i64 q.p, .slice a2 q.n c2] 40)
       replace HV1 := Hk.mk (HV1.out.below hb)
       replace HOC := Hk.mk (HOC.out.below hb)
       clear hb
       have L_S := kw_le HB.out L0V
       have HP_S : Hk (Bk _ _ #[.int .i64 q.t, .int .i64 q.p, .slice a2 q.n c2]) := ⟨Bk.new WZ #[.int .i64 q.t, .int .i64 q.p, .slice a2 q.n c2] 40⟩
       replace HB := Hk.mk (kw_al HB.out L0V (.cells #[.int .i64 q.t, .int .i64 q.p, .slice a2 q.n c2] 40))
       refine hK.out _ _ ?_ (fun hHeld2 => ?_)
       ·exact kw_s HB.out
       clear hK K hHeld
       have hHeld := hHeld2
       clear hHeld2
       (try simp only [Act.put, jjA, jjB, jjC, jjD, jjE, jjF])
       generalize WZ.heap.size = S at *
       generalize WZ.alloc (.cells #[.int .i64 q.t, .int .i64 q.p, .slice a2 q.n c2] 40) = WZx at *
       refine reg_cast (l' := #[true, true, true, true, true, true, true, false, false]) (by kernel_rfl) ?_
       revert hHeld
       revert HOC
       revert HV1
       revert L_S
       revert HP_S
       revert HB
       revert L2
       revert c2
       revert a2
       revert L1
       revert v
       revert S
       revert WZx
       exact HG3.out
      intro WZ S v L1 a2 c2 L2 HB HP_S L_S HV1 HOC hHeld
      refine wpAnyH_ready (rs := [7]) (by kernel_rfl) (by simp) ?_
      refine AllReadyH.cons rfl (fun K hK => ?_) (AllReadyH.nil)
      ·skip
       (refine step_append27 (by rfl) (.tmp 38) (.tmp 41) 22 (by rfl) VA.heap.size 40 i0 (.agg #[.int .i64 0, .int .i64 0, .slice none 0 0]) 3 40 Tryz.underlying22 hi hz0 hz1 hz2 (by rfl) (by decide) v k (flt shI L1) (by rfl) HV1.out.o.o.row ⟨S, 0, none⟩ 1 1 (({ q with a := a2, c := c2, l := L2 } : Iv).cs) (by rfl) (by rfl) (bk_news27 HP_S.out) (is_one _) (by unfold maxLen; omega) (by omega) (kw_le HB.out L0V) ?_; intro v2 z hown hgrow; have HV2 : Hk (OwA z VA.heap.size v2 (k + 1) (L1 ++ [{ q with a := a2, c := c2, l := L2 }]) (abI (l.take k) ++ [q.ab])) := ⟨⟨HV1.out.o.app1 (q := { q with a := a2, c := c2, l := L2 }) HOC.out.o hown hgrow, by rw [abI_app, HV1.out.f]; show _ ++ [(⟨q.t, q.p, abC L2⟩ : In)] = _ ++ [(⟨q.t, q.p, abC q.l⟩ : In)]; rw [HOC.out.f]⟩⟩; replace HB := Hk.mk (HB.out.grown hgrow (kw_le HB.out L0V) (fun g hg => (HV1.out.o.o.lt g hg).1)); clear hown hgrow)
       refine hK.out _ _ ?_ (fun hHeld2 => ?_)
       ·exact kw_s HB.out
       clear hK K hHeld
       have hHeld := hHeld2
       clear hHeld2
       (try simp only [Act.put, jjA, jjB, jjC, jjD, jjE, jjF])
       clear HV1
       clear HOC
       clear HP_S L_S
       have HI : Ix [8] := trivial
       (refine tkA HI (v := ?_) rfl (by kernel_rfl) (fun _ _ _ h => h) (.inl ⟨by rfl, fun wX hSw => ?_⟩) hHeld (fun HJ => ?_); rotate_left; (focus ((try dsimp only at hSw); go_simp; try with_reducible rfl)); clear HI; have HI := HJ; clear HJ; try simp only [Act.put, jjA, jjB, jjC, jjD, jjE, jjF])
       clear HI
       refine reg_cast (l' := #[true, true, true, true, true, true, true, true, true]) (by kernel_rfl) ?_
       revert hHeld
       revert HV2
       revert HB
       revert v2
       revert L2
       revert c2
       revert a2
       revert L1
       revert v
       revert S
       revert z
       exact HG4.out
      intro WZ S v L1 a2 c2 L2 v2 HB HV2 hHeld
      refine wpAnyH_done (by kernel_rfl) ?_ _
      have HB7 := Hk.mk (HB0.out.trans (HB.out.mono (kw_size HB0.out hNW)))
      have HVA := Hk.mk HB.out.size
      have HWV := Hk.mk (HTR.out _ HB0.out).size
      clear x0 x1 x2 xl hHeld L0V
      go_wp2_with (first
       | (go_at_call 26; (with_reducible refine (copyins_any _ 0 _ [] _ (InD.nil _ _ _) SmI.nil).mono ?_); rintro e z ⟨v3, L3, rfl, ho3, hab3, hb3⟩; have HV3 := Hk.mk ho3; have HA3 := Hk.mk hab3; have HZ2 := Hk.mk (HV2.out.below hb3); have HB8 := Hk.mk (kw_step HB7.out hNW hb3); have HZS := Hk.mk (Nat.le_trans HVA.out hb3.size); clear ho3 hab3 hb3)
       | (at_builtin; go_must (refine append_row27 rfl _ _ 22 rfl VA.heap.size 40 i0 (.agg #[.int .i64 0, .int .i64 0, .slice none 0 0]) 3 40 Tryz.underlying22 hi hz0 hz1 hz2 rfl (by decide) v2 (k + 1) (flt shI (L1 ++ [({ q with a := a2, c := c2, l := L2 } : Iv)])) rfl HZ2.out.o.o.row v3 0 (flt shI L3) rfl _ HV3.out.o.row (flt_one shI L3) (by unfold maxLen; omega) (by omega) HZS.out ?_); intro v4 z4 hown hgrow; have HV4 := Hk.mk (OwN.appN HZ2.out.o (HV3.out.weak HVA.out) hown hgrow); have HB9 := Hk.mk (HB8.out.grown hgrow (Nat.le_trans (kw_size HB0.out hNW) HZS.out) (fun g hg => Nat.le_trans (kw_size HB0.out hNW) (HZ2.out.o.o.lt g hg).1)); clear hown hgrow))
      obtain ⟨a4, c4, rfl, -⟩ := HV4.out.o.form
      go_ret2
      refine ⟨HTR.out _ HB9.out, fun h => ?_, fun m hm => ⟨_, _, _, _, rfl, HV4.out.weak HWV.out, ?_⟩⟩
      ·rw [HRS.out] at h; cases h
      ·rw [HRS.out] at hm
       injection hm with hm
       rw [abI_app, HZ2.out.f, HA3.out, ← hm, HTK.out]; exact List.append_nil _
    ·focus
      have HKN : Hk (k ≤ k) := ⟨Nat.le_refl _⟩
      go_upto_region 2 with fail
      go_quiet (fail)
      replace HB := Hk.mk (below_drewN HB.out nq)
      clear x0 x1 x2 xl HV
      generalize World.drewN wr nq = WQ at *
      go_upto_region 4 with fail
      go_quiet (fail)
      have HB0 := Hk.mk (below_drewN HB.out nq)
      clear HB
      generalize World.drewN WQ nq = VA at *
      obtain ⟨x0, x1, x2, xl⟩ := HVF.out _ HB0.out
      go_upto_region 6 with fail
      have L0V : VA.heap.size ≤ VA.heap.size := Nat.le_refl _
      apply reg_merge
      intro HG4
      apply reg_merge
      intro HG3
      apply reg_merge
      intro HG2
      apply reg_merge
      intro HG1
      refine wp_region_held_drew (S := fun Z => (∀ b o, b < VA.heap.size → Z.cell? ⟨b, o, none⟩ = VA.cell? ⟨b, o, none⟩)) (by kernel_rfl) (fun _ _ _ => rfl) (fun hHeld => ?_)
      have HB : Hk (Below VA.heap.size VA VA.drew) := ⟨(Below.refl _ _).drew⟩
      obtain ⟨WZ, hWe⟩ : ∃ WZ, VA.drew = WZ := ⟨_, rfl⟩
      rw [hWe] at HB hHeld ⊢
      clear hWe
      have HI : Ix [0, 1, 2, 4] := trivial
      iterate 4 (refine tkA HI (v := ?_) rfl (by kernel_rfl) (fun _ _ _ h => h) (.inl ⟨by rfl, fun wX hSw => ?_⟩) hHeld (fun HJ => ?_); rotate_left; (focus ((try dsimp only at hSw); go_simp; try with_reducible rfl)); clear HI; have HI := HJ; clear HJ; try simp only [Act.put, jjA, jjB, jjC, jjD, jjE, jjF])
      clear HI
      refine wpAnyH_ready (rs := [3]) (by kernel_rfl) (by simp) ?_
      refine AllReadyH.cons rfl (fun K hK => ?_) (AllReadyH.nil)
      ·skip
       go_simp
       (first | (go_at_call 26; (with_reducible refine (copyins_any (some ⟨g, off, none⟩) k c (l.take k) _ (((HI.out _ (HB0.out.trans (HB.out.mono (kw_size HB0.out hNW)))).head (Nat.le_of_lt_succ (Nat.lt_succ_of_le HKN.out))).mono (HTR.out _ (HB0.out.trans (HB.out.mono (kw_size HB0.out hNW)))).size) (smI_take HS.out k)).mono ?_); rintro e z ⟨v, L1, rfl, ho, hab, hb⟩; have HV1 : Hk (OwA z VA.heap.size v k L1 (abI (l.take k))) := ⟨⟨ho.weak (kw_le HB.out L0V), hab⟩⟩; clear ho hab) | (go_at_call 64; (with_reducible refine (copyin_any q.t q.p q.a q.n q.c q.l _ (HQ.out _ (HB0.out.trans (HB.out.mono (kw_size HB0.out hNW)))) HSQ.out).mono ?_); rintro e z ⟨a2, c2, L2, rfl, ho, hab, hb⟩; have HOC : Hk (OcA z VA.heap.size (.slice a2 q.n c2) q.n L2 (abC q.l)) := ⟨⟨ho.weak (kw_le HB.out L0V), hab⟩⟩; clear ho hab))
       replace HB := Hk.mk (kw_step HB.out L0V hb)
       clear hb
       refine hK.out _ _ ?_ (fun hHeld2 => ?_)
       ·exact kw_s HB.out
       clear hK K hHeld
       have hHeld := hHeld2
       clear hHeld2
       (try simp only [Act.put, jjA, jjB, jjC, jjD, jjE, jjF])
       refine reg_cast (l' := #[true, true, true, true, true, false, false, false, false]) (by kernel_rfl) ?_
       revert hHeld
       revert HV1
       revert HB
       revert L1
       revert v
       revert z
       exact HG1.out
      intro WZ v L1 HB HV1 hHeld
      refine wpAnyH_ready (rs := [5]) (by kernel_rfl) (by simp) ?_
      refine AllReadyH.cons rfl (fun K hK => ?_) (AllReadyH.nil)
      ·skip
       go_simp
       (first | (go_at_call 26; (with_reducible refine (copyins_any (some ⟨g, off, none⟩) k c (l.take k) _ (((HI.out _ (HB0.out.trans (HB.out.mono (kw_size HB0.out hNW)))).head (Nat.le_of_lt_succ (Nat.lt_succ_of_le HKN.out))).mono (HTR.out _ (HB0.out.trans (HB.out.mono (kw_size HB0.out hNW)))).size) (smI_take HS.out k)).mono ?_); rintro e z ⟨v, L1, rfl, ho, hab, hb⟩; have HV1 : Hk (OwA z VA.heap.size v k L1 (abI (l.take k))) := ⟨⟨ho.weak (kw_le HB.out L0V), hab⟩⟩; clear ho hab) | (go_at_call 64; (with_reducible refine (copyin_any q.t q.p q.a q.n q.c q.l _ (HQ.out _ (HB0.out.trans (HB.out.mono (kw_size HB0.out hNW)))) HSQ.out).mono ?_); rintro e z ⟨a2, c2, L2, rfl, ho, hab, hb⟩; have HOC : Hk (OcA z VA.heap.size (.slice a2 q.n c2) q.n L2 (abC q.l)) := ⟨⟨ho.weak (kw_le HB.out L0V), hab⟩⟩; clear ho hab))
       replace HV1 := Hk.mk (HV1.out.below hb)
       replace HB := Hk.mk (kw_step HB.out L0V hb)
       clear hb
       refine hK.out _ _ ?_ (fun hHeld2 => ?_)
       ·exact kw_s HB.out
       clear hK K hHeld
       have hHeld := hHeld2
       clear hHeld2
       (try simp only [Act.put, jjA, jjB, jjC, jjD, jjE, jjF])
       refine reg_cast (l' := #[true, true, true, true, true, true, false, false, false]) (by kernel_rfl) ?_
       revert hHeld
       revert HOC
       revert HV1
       revert HB
       revert L2
       revert c2
       revert a2
       revert L1
       revert v
       revert z
       exact HG2.out
      intro WZ v L1 a2 c2 L2 HB HV1 HOC hHeld
      refine wpAnyH_ready (rs := [6]) (by kernel_rfl) (by simp) ?_
      refine AllReadyH.cons rfl (fun K hK => ?_) (AllReadyH.nil)
      ·skip
       go_simp
       have hb := kw_al (Below.refl WZ.heap.size WZ) (Nat.le_refl _) (.cells #[.int .i64 q.t, .int .i64 q.p, .slice a2 q.n c2] 40)
       replace HV1 := Hk.mk (HV1.out.below hb)
       replace HOC := Hk.mk (HOC.out.below hb)
       clear hb
       have L_S := kw_le HB.out L0V
       have HP_S : Hk (Bk _ _ #[.int .i64 q.t, .int .i64 q.p, .slice a2 q.n c2]) := ⟨Bk.new WZ #[.int .i64 q.t, .int .i64 q.p, .slice a2 q.n c2] 40⟩
       replace HB := Hk.mk (kw_al HB.out L0V (.cells #[.int .i64 q.t, .int .i64 q.p, .slice a2 q.n c2] 40))
       refine hK.out _ _ ?_ (fun hHeld2 => ?_)
       ·exact kw_s HB.out
       clear hK K hHeld
       have hHeld := hHeld2
       clear hHeld2
       (try simp only [Act.put, jjA, jjB, jjC, jjD, jjE, jjF])
       generalize WZ.heap.size = S at *
       generalize WZ.alloc (.cells #[.int .i64 q.t, .int .i64 q.p, .slice a2 q.n c2] 40) = WZx at *
       refine reg_cast (l' := #[true, true, true, true, true, true, true, false, false]) (by kernel_rfl) ?_
       revert hHeld
       revert HOC
       revert HV1
       revert L_S
       revert HP_S
       revert HB
       revert L2
       revert c2
       revert a2
       revert L1
       revert v
       revert S
       revert WZx
       exact HG3.out
      intro WZ S v L1 a2 c2 L2 HB HP_S L_S HV1 HOC hHeld
      refine wpAnyH_ready (rs := [7]) (by kernel_rfl) (by simp) ?_
      refine AllReadyH.cons rfl (fun K hK => ?_) (AllReadyH.nil)
      ·skip
       (refine step_append27 (by rfl) (.tmp 38) (.tmp 41) 22 (by rfl) VA.heap.size 40 i0 (.agg #[.int .i64 0, .int .i64 0, .slice none 0 0]) 3 40 Tryz.underlying22 hi hz0 hz1 hz2 (by rfl) (by decide) v k (flt shI L1) (by rfl) HV1.out.o.o.row ⟨S, 0, none⟩ 1 1 (({ q with a := a2, c := c2, l := L2 } : Iv).cs) (by rfl) (by rfl) (bk_news27 HP_S.out) (is_one _) (by unfold maxLen; omega) (by omega) (kw_le HB.out L0V) ?_; intro v2 z hown hgrow; have HV2 : Hk (OwA z VA.heap.size v2 (k + 1) (L1 ++ [{ q with a := a2, c := c2, l := L2 }]) (abI (l.take k) ++ [q.ab])) := ⟨⟨HV1.out.o.app1 (q := { q with a := a2, c := c2, l := L2 }) HOC.out.o hown hgrow, by rw [abI_app, HV1.out.f]; show _ ++ [(⟨q.t, q.p, abC L2⟩ : In)] = _ ++ [(⟨q.t, q.p, abC q.l⟩ : In)]; rw [HOC.out.f]⟩⟩; replace HB := Hk.mk (HB.out.grown hgrow (kw_le HB.out L0V) (fun g hg => (HV1.out.o.o.lt g hg).1)); clear hown hgrow)
       refine hK.out _ _ ?_ (fun hHeld2 => ?_)
       ·exact kw_s HB.out
       clear hK K hHeld
       have hHeld := hHeld2
       clear hHeld2
       (try simp only [Act.put, jjA, jjB, jjC, jjD, jjE, jjF])
       clear HV1
       clear HOC
       clear HP_S L_S
       have HI : Ix [8] := trivial
       (refine tkA HI (v := ?_) rfl (by kernel_rfl) (fun _ _ _ h => h) (.inl ⟨by rfl, fun wX hSw => ?_⟩) hHeld (fun HJ => ?_); rotate_left; (focus ((try dsimp only at hSw); go_simp; try with_reducible rfl)); clear HI; have HI := HJ; clear HJ; try simp only [Act.put, jjA, jjB, jjC, jjD, jjE, jjF])
       clear HI
       refine reg_cast (l' := #[true, true, true, true, true, true, true, true, true]) (by kernel_rfl) ?_
       revert hHeld
       revert HV2
       revert HB
       revert v2
       revert L2
       revert c2
       revert a2
       revert L1
       revert v
       revert S
       revert z
       exact HG4.out
      intro WZ S v L1 a2 c2 L2 v2 HB HV2 hHeld
      refine wpAnyH_done (by kernel_rfl) ?_ _
      have HB7 := Hk.mk (HB0.out.trans (HB.out.mono (kw_size HB0.out hNW)))
      have HVA := Hk.mk HB.out.size
      have HWV := Hk.mk (HTR.out _ HB0.out).size
      clear x0 x1 x2 xl hHeld L0V
      go_wp2_with (first
       | (go_at_call 26; (with_reducible refine (copyins_any _ 0 _ [] _ (InD.nil _ _ _) SmI.nil).mono ?_); rintro e z ⟨v3, L3, rfl, ho3, hab3, hb3⟩; have HV3 := Hk.mk ho3; have HA3 := Hk.mk hab3; have HZ2 := Hk.mk (HV2.out.below hb3); have HB8 := Hk.mk (kw_step HB7.out hNW hb3); have HZS := Hk.mk (Nat.le_trans HVA.out hb3.size); clear ho3 hab3 hb3)
       | (at_builtin; go_must (refine append_row27 rfl _ _ 22 rfl VA.heap.size 40 i0 (.agg #[.int .i64 0, .int .i64 0, .slice none 0 0]) 3 40 Tryz.underlying22 hi hz0 hz1 hz2 rfl (by decide) v2 (k + 1) (flt shI (L1 ++ [({ q with a := a2, c := c2, l := L2 } : Iv)])) rfl HZ2.out.o.o.row v3 0 (flt shI L3) rfl _ HV3.out.o.row (flt_one shI L3) (by unfold maxLen; omega) (by omega) HZS.out ?_); intro v4 z4 hown hgrow; have HV4 := Hk.mk (OwN.appN HZ2.out.o (HV3.out.weak HVA.out) hown hgrow); have HB9 := Hk.mk (HB8.out.grown hgrow (Nat.le_trans (kw_size HB0.out hNW) HZS.out) (fun g hg => Nat.le_trans (kw_size HB0.out hNW) (HZ2.out.o.o.lt g hg).1)); clear hown hgrow))
      obtain ⟨a4, c4, rfl, -⟩ := HV4.out.o.form
      go_ret2
      refine ⟨HTR.out _ HB9.out, fun h => ?_, fun m hm => ⟨_, _, _, _, rfl, HV4.out.weak HWV.out, ?_⟩⟩
      ·rw [HRS.out] at h; cases h
      ·rw [HRS.out] at hm
       injection hm with hm
       rw [abI_app, HZ2.out.f, HA3.out, ← hm, HTK.out]; exact List.append_nil _
end Go.Proofs.YtdpblimhfmfbnaaGreat
namespace Go.Proofs.YtdpblimhfmfbnaaGreat
open Go.RowKit Go.Deep
theorem flt_drop {α : Type} (S : Sh α) (l : List α) (k : Nat) : flt S (l.drop k) = (flt S l).drop (k * S.z) := by
 by_cases h : k ≤ l.length
 ·have e : flt S l = flt S (l.take k) ++ flt S (l.drop k) := by rw [← flt_app, List.take_append_drop]
  have hl : (flt S (l.take k)).length = k * S.z := by rw [flt_len, List.length_take, Nat.min_eq_left h]
  rw [e]; exact (List.drop_left' hl).symm
 ·have h' : l.length ≤ k := by omega
  rw [List.drop_of_length_le h', List.drop_of_length_le (by rw [flt_len]; exact Nat.mul_le_mul_right _ h')]; rfl
theorem Ow.bqx {α : Type} {S : Sh α} {T : TypeId} {w : World} {base n : Nat} {v : Value} {l : List α} (h : Ow S T w base v n l) : ∃ a c, v = .slice a n c ∧ n ≤ c ∧ c ≤ maxLen ∧ True ∧ (∀ b off, a = some ⟨b, off, none⟩ → base ≤ b ∧ off = 0) := by
 rcases h.row.2 with ⟨e, e2⟩ | ⟨g, cap, cur, e, hg, hh, h1, h2, _⟩
 ·exact ⟨none, 0, by rw [e, e2], by omega, by unfold maxLen; omega, trivial, fun b off h => by cases h⟩
 ·exact ⟨_, _, e, h1, h2, trivial, fun b off h => by injection h with h; injection h with h3 h4; subst h3 h4; exact ⟨hg, rfl⟩⟩
theorem shape_curI {w : World} {g : Nat} {T : TypeId} {cur : Array Value} (h : w.heap[g]? = some (.cells cur T (0, 0))) : w.shape? g = some (T, cur.size) := by simp [World.shape?, h]
theorem drewSet_cellI (X : World) (o : Obj) (b k : Nat) (L : List Value) : ∀ x, (((X.alloc o).drew.setCells b k L).drew).cell? x = ((X.drew.alloc o).setCells b k L).cell? x := fun x => rfl
theorem drewSet_frozI (X : World) (o : Obj) (b k : Nat) (L : List Value) : ∀ x, (((X.alloc o).drew.setCells b k L).drew).frozen? x = ((X.drew.alloc o).setCells b k L).frozen? x := fun x => rfl
end Go.Proofs.YtdpblimhfmfbnaaGreat
namespace Go.Proofs.YtdpblimhfmfbnaaGreat
open Go.RowKit Go.Deep
theorem setCells_heap {g : Nat} {T : TypeId} : ∀ (vs : List Value) (o : Nat) (w : World) (cur : Array Value), w.heap[g]? = some (.cells cur T (0, 0)) → ∃ cur' : Array Value, (w.setCells g o vs).heap[g]? = some (.cells cur' T (0, 0)) ∧ cur'.size = cur.size
 | [], _, w, cur, h => ⟨cur, h, rfl⟩
 | v :: vs, o, w, cur, h => by
  have hlt := lt_of_block h
  have h1 : (w.setCell ⟨g, o, none⟩ v).heap[g]? = some (.cells (cur.setIfInBounds o v) T (0, 0)) := by
   have h' : w.heap[g] = .cells cur T (0, 0) := by simpa [Array.getElem?_eq_getElem hlt] using h
   show (w.heap.modify g _)[g]? = _
   rw [Array.getElem?_eq_getElem (by simpa using hlt), Array.getElem_modify_self, h']
   rfl
  obtain ⟨cur', h2, h3⟩ := setCells_heap vs (o + 1) (w.setCell ⟨g, o, none⟩ v) _ h1
  exact ⟨cur', h2, by rw [h3]; simp⟩
theorem cell_cur {w : World} {g : Nat} {T : TypeId} {cur : Array Value} (h : w.heap[g]? = some (.cells cur T (0, 0))) (k : Nat) : w.cell? ⟨g, k, none⟩ = cur[k]? := by simp [World.cell?, h]
theorem froz_cur {w : World} {g : Nat} {T : TypeId} {cur : Array Value} (h : w.heap[g]? = some (.cells cur T (0, 0))) (k : Nat) : w.frozen? ⟨g, k, none⟩ = false := by simp [World.frozen?, h]
end Go.Proofs.YtdpblimhfmfbnaaGreat
