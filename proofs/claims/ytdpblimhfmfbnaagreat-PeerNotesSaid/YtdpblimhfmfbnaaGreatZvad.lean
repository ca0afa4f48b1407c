import Derived.Laws.IdiomCopy
import Derived.Shelf.Spec.SlicesInsert
import Derived.Shelf.Spec.SlicesInsertGrow
import Derived.Lib.AppendZerosOnto
import Derived.Laws.NewBlocks
import Derived.Deep.QuietTactic
import Derived.BigQuiet
import Derived.Deep.RegionWith
import Derived.Deep.RegionHeld3
import Derived.Deep.DeepCutAuto
import Derived.Deep.DeepFit
import Derived.Outline
import Derived.Test.YtdpblimhfmfbnaaGreatZvac
import Derived.Test.YtdpblimhfmfbnaaGreatZvz
import Derived.Test.YtdpblimhfmfbnaaGreatZva
set_option linter.unusedVariables false
set_option linter.unusedSimpArgs false
namespace Go.Proofs.YtdpblimhfmfbnaaGreat
open Go.RowKit Go.Deep
structure in3_Ow (w : World) (base : Nat) (v : Value) (n : Nat) (l : List Iv) : Prop where
 len : l.length = n
 row : w.ownsRow base 40 3 v n (flt shI l)
theorem in3_to {w : World} {base n : Nat} {v : Value} {l : List Iv} (h : in3_Ow w base v n l) : Ow shI 40 w base v n l := ⟨h.len, h.row⟩
theorem in3_of {w : World} {base n : Nat} {v : Value} {l : List Iv} (h : Ow shI 40 w base v n l) : in3_Ow w base v n l := ⟨h.len, h.row⟩
theorem in3_Ow.weak {w : World} {base base' n : Nat} {v : Value} {l : List Iv} (h : in3_Ow w base v n l) (hb : base' ≤ base) : in3_Ow w base' v n l := in3_of ((in3_to h).weak hb)
end Go.Proofs.YtdpblimhfmfbnaaGreat
namespace Go.Proofs.YtdpblimhfmfbnaaGreat
open Go.ChangeShapes Go.WideShapes Go.ChangeAt Go.RowKit Go.Deep
theorem OwN.ins {X z : World} {B n i : Nat} {v v2 : Value} {L : List Iv} {q : Iv} (h : OwN X B v n L) (hq : OwC X B (.slice q.a q.n q.c) q.n q.l) (ho : Ow shI 40 z B v2 (n + 1) (L.take i ++ [q] ++ L.drop i)) (hfr : Fr (fun j => v.ownBlock = some j) X z) : OwN z B v2 (n + 1) (L.take i ++ [q] ++ L.drop i) := by
 refine ⟨ho, fun x hx => ?_⟩
 rcases List.mem_append.1 hx with hx | hx
 ·rcases List.mem_append.1 hx with hx | hx
  ·exact (h.u x (List.mem_of_mem_take hx)).keep hfr (not_ti h _ (by decide)) (not_ti h _ (by decide))
  ·have := List.mem_singleton.1 hx
   subst this
   exact .inl (hq.keep hfr (not_ti h _ (by decide)) (not_ti h _ (by decide)))
 ·exact (h.u x (List.mem_of_mem_drop hx)).keep hfr (not_ti h _ (by decide)) (not_ti h _ (by decide))
def askN (q : In) (l : List In) : Bool := ordN none l && okN q
end Go.Proofs.YtdpblimhfmfbnaaGreat
namespace Go.Proofs.YtdpblimhfmfbnaaGreat
open Go.RowKit
def rsC (c d : Cm) : Prop := c.p < d.p ∨ (c.p = d.p ∧ c.s < d.s)
def ecR : Option (List In) → Int
 | none => 1
 | some _ => 0
def flR : Option (List In) → List Cm
 | none => []
 | some s => flatN s
theorem merge27_u (res : Option (List In)) (a : Option Addr) (n c : Nat) (l : List Iv) (w : World) (h : InD w w.heap.size a n l) (hs : SmI l) (E : Hk (mergeN (abI l) = res)) :
  Calls Tryz.prog 77 #[.slice a n c] w fun e w' => ∃ a2 c2 M, e = .returned (.tuple #[.slice a2 M.length c2, .int .i64 (ecR res)]) ∧ OwC w' w.heap.size (.slice a2 M.length c2) M.length M ∧ abC M = flR res ∧ Below w.heap.size w w' := by
 refine (merge27_as res a n c l w h hs E).mono ?_
 rintro e z ⟨hb, hm⟩
 cases res with
 | none => exact ⟨none, 0, [], hm, OwC.nil _ _, rfl, hb⟩
 | some s =>
  obtain ⟨v, M, rfl, ho, hab⟩ := hm
  obtain ⟨a2, c2, rfl⟩ := ho.form
  exact ⟨a2, c2, M, rfl, ho, hab, hb⟩
end Go.Proofs.YtdpblimhfmfbnaaGreat
namespace Go.Proofs.YtdpblimhfmfbnaaGreat
open Go.ChangeShapes Go.WideShapes Go.ChangeAt Go.RowKit Go.Deep
structure MrgR (res : Option (List In)) (w : World) (e : Ending) (z : World) : Prop where
 bl : Below w.heap.size w z
 no : res = none → e = .returned (.tuple #[.slice none 0 0, .bool false])
 yes : ∀ m, res = some m → ∃ a n c L, e = .returned (.tuple #[.slice a n c, .bool true]) ∧ OwC z w.heap.size (.slice a n c) n L ∧ abC L = flatN m
theorem mrg_step {t : Int} {s l : List In} {x : In} (h : okN x = true) (ht : x.t = t) {m : List In} (hm : putN x s = some m) : mrgN t s (x :: l) = mrgN t m l := by
 show (if _ then _ else _) = _
 rw [if_pos ⟨h, ht⟩, hm]; rfl
theorem mrg_bad {t : Int} {s l : List In} {x : In} (h : ¬ (okN x = true ∧ x.t = t)) : mrgN t s (x :: l) = none := by
 show (if _ then _ else _) = _
 rw [if_neg h]
theorem mrg_over {t : Int} {s l : List In} {x : In} (hm : putN x s = none) : mrgN t s (x :: l) = none := by
 show (if _ then _ else _) = _
 split
 ·rw [hm]; rfl
 ·rfl
end Go.Proofs.YtdpblimhfmfbnaaGreat
namespace Go.Proofs.YtdpblimhfmfbnaaGreat
open List renaming getElem_toArray → jjA, getElem_cons_succ → jjB, getElem_cons_zero → jjC, setIfInBounds_toArray → jjD, set_cons_zero → jjE, set_cons_succ → jjF
open Go.ChangeShapes Go.WideShapes Go.ChangeAt Go.RowKit Go.Deep
theorem OwN.capf {w : World} {B n c : Nat} {a : Option Addr} {l : List Iv} (h : OwN w B (.slice a n c) n l) : n ≤ c ∧ c ≤ 9223372036854775807 ∧ ((a = none ∧ n = 0 ∧ c = 0) ∨ ∃ g off, a = some ⟨g, off, none⟩) := by
 rcases h.o.row.2 with ⟨e, e2⟩ | ⟨g, cap, cur, e, hg, hh, h1, h2, _⟩
 ·injection e with e1 e3 e4
  exact ⟨by omega, by omega, .inl ⟨e1, e2, e4⟩⟩
 ·injection e with e1 e3 e4
  exact ⟨by omega, by unfold maxLen at h2; omega, .inr ⟨_, _, e1⟩⟩
structure MrgS (w0 w : World) (a : Option Addr) (m c : Nat) (L : List Iv) (tt : Int) (rest : List In) (res : Option (List In)) (all : List In) (k : Nat) : Prop where
 o : OwN w w0.heap.size (.slice a m c) m L
 s : sortedN (abI L)
 e : mrgN tt (abI L) rest = res
 i : ∀ x, x ∈ abI L → x ∈ all
 k : m ≤ k
set_option maxRecDepth 100000 in
set_option maxHeartbeats 3200000 in
theorem rmerge_any (res : Option (List In)) (a : Option Addr) (n c : Nat) (l : List Iv) (w : World) (h : InD w w.heap.size a n l) (hs : SmI l) (E : Hk (mergeN (abI l) = res)) :
  Calls Tryz.prog 76 #[.slice a n c] w (MrgR res w) := by
 obtain ⟨i0, hi, hz0, hz1, hz2⟩ := info_parts info_cm
 have HH := Hk.mk h
 have HL := Hk.mk h.q.len
 have hn20 : n ≤ 1048576 := by have := hs.n; have := h.q.len; omega
 have HS := Hk.mk hs
 have HB : Hk (Below w.heap.size w w) := ⟨Below.refl _ _⟩
 obtain ⟨tt, htt⟩ : ∃ tt, (l.getD 0 default).t = tt := ⟨_, rfl⟩
 have ER : Hk (mrgN tt [] (abI (l.drop 0)) = res) := ⟨by
  rw [← E.out, List.drop_zero, ← htt]
  cases l with
  | nil => rfl
  | cons x l => rfl⟩
 have HTT := Hk.mk htt
 clear h hs htt
 go_enter Tryz.func76, Tryz.ntmps76
 go_wp2
 go_loopw [4, 5] (fun v i wr => ∃ (k m sc : Nat) (sa : Option Addr) (L : List Iv), v = .slice sa m sc ∧ i = .int .i64 k ∧ k ≤ n ∧ Hk (MrgS w wr sa m sc L tt (abI (l.drop k)) res (abI l) k) ∧ Hk (Below w.heap.size w wr)) (fun _ i _ => n - (intOf i).toNat)
 case atStart => exact ⟨0, 0, 0, none, [], rfl, rfl, Nat.zero_le _, ⟨⟨OwN.nil _ _, List.Pairwise.nil, ER.out, fun x hx => by simp [abI] at hx, Nat.le_refl _⟩⟩, HB⟩
 case round =>
  clear ER HB
  obtain ⟨k, m, sc, sa, L, rfl, rfl, hk, HO, HB⟩ := hrel
  by_cases hlt : k < n
  ·obtain ⟨b, off, rfl, hbl, ⟨p0, p1, p2⟩, hnq⟩ := (HH.out.below HB.out (Nat.le_refl _)).three hlt
   have hkl : k < l.length := by rw [HL.out]; exact hlt
   obtain ⟨b', off', eb, _, ⟨r0, -, -⟩, -⟩ := (HH.out.below HB.out (Nat.le_refl _)).three (show 0 < n by omega)
   injection eb with eb
   injection eb with eb1 eb2
   subst eb1 eb2
   rw [HTT.out, Nat.zero_mul, Nat.add_zero] at r0
   have HM := Hk.mk (HS.out.m _ (getD_memI hkl))
   have hes := HO.out.e
   rw [abI_drop hkl] at hes
   have HMEM : Hk ((l.getD k default).ab ∈ abI l) := ⟨List.mem_map.2 ⟨_, getD_memI hkl, rfl⟩⟩
   obtain ⟨q, hqq⟩ : ∃ q, l.getD k default = q := ⟨_, rfl⟩
   rw [hqq] at p0 p1 p2 hnq HM hes HMEM
   clear hqq
   have HDQ := Hk.mk (hnq.mono HB.out.size)
   have hbr : b < wr.heap.size := Nat.lt_of_lt_of_le hbl HB.out.size
   have t0 : (0 : Int) ≤ (k : Int) := by omega
   have t1 : (k : Int) < (n : Int) := by omega
   have t2 : (0 : Int) < (n : Int) := by omega
   have t3 : 0 < n := by omega
   have HLT := Hk.mk hlt
   have gk : IntKind.i64.wrap ((k : Int) + 1) = ((k + 1 : Nat) : Int) := by push_cast; exact wr27 (by omega) (by omega)
   have HV : Hk (Below wr.heap.size wr wr) := ⟨Below.refl _ _⟩
   have HES := Hk.mk hes
   clear hnq hkl hk hlt hes hbl
   go_upto_region 5 with fail
   cases hv : okN q.ab
   ·have EQ : Hk (okN ⟨q.t, q.p, abC q.l⟩ = false) := ⟨hv⟩
    have R : Hk (res = none) := ⟨by rw [← HES.out]; exact mrg_bad (fun h => by rw [hv] at h; cases h.1)⟩
    clear HES hv
    focus
     refine wp_region_held_drew (S := (fun X => (∀ b o, b < wr.heap.size → X.cell? ⟨b, o, none⟩ = wr.cell? ⟨b, o, none⟩) ∧ Below wr.heap.size wr X)) (by kernel_rfl) ?_ (fun hHeld => ?_)
     ·exact kw_S (kw_drew HV.out)
     have HI : Ix [0, 1, 2, 3] := trivial
     iterate 4 (refine tkA HI (v := ?_) rfl (by kernel_rfl) (fun _ _ _ h => h) (.inl ⟨by rfl, fun wX hSw => ?_⟩) hHeld (fun HJ => ?_); rotate_left; (focus ((try dsimp only at hSw); go_simp; try with_reducible rfl)); clear HI; have HI := HJ; clear HJ; try simp only [Act.put, jjA, jjB, jjC, jjD, jjE, jjF])
     clear HI
     refine wpAnyH_ready (rs := [4]) (by kernel_rfl) (by simp) ?_
     refine AllReadyH.cons rfl (fun K hK => ?_) (AllReadyH.nil)
     go_simp
     ((go_at_call 65; (with_reducible refine (rmay27_as false q.t q.p q.a q.n q.c q.l _ (by first | exact (HDQ.out.below HV.out (Nat.le_refl _)).mono HV.out.size | exact (HDQ.out.below HV.out.drew (Nat.le_refl _)).mono HV.out.drew.size) HM.out EQ).mono ?_); rintro e z ⟨rfl, hb⟩; have hB2 : Hk (Below wr.heap.size wr z) := ⟨by first | exact kw_step HV.out (Nat.le_refl _) hb | exact kw_step HV.out.drew (Nat.le_refl _) hb⟩; clear hb; replace HV := hB2; clear hB2))
     refine hK.out _ _ ?_ (fun hHeld => ?_)
     ·exact kw_S HV.out
     clear hK K
     (try simp only [Act.put, jjA, jjB, jjC, jjD, jjE, jjF])
     have HI : Ix [5, 6] := trivial
     iterate 2 (refine tkA HI (v := ?_) rfl (by kernel_rfl) (fun _ _ _ h => h) (.inl ⟨by rfl, fun wX hSw => ?_⟩) hHeld (fun HJ => ?_); rotate_left; (focus ((try dsimp only at hSw); go_simp; try with_reducible rfl)); clear HI; have HI := HJ; clear HJ; try simp only [Act.put, jjA, jjB, jjC, jjD, jjE, jjF])
     clear HI
     have HI : Ix [7, 8, 9, 10, 11, 12, 13, 14, 15, 16] := trivial
     iterate 10 (refine tkA HI (v := undef) rfl (by kernel_rfl) (fun _ _ _ h => h) (.inr ⟨by rfl, rfl⟩) hHeld (fun HJ => ?_); clear HI; have HI := HJ; clear HJ; try simp only [Act.put, jjA, jjB, jjC, jjD, jjE, jjF])
     clear HI
     have HI : Ix [17] := trivial
     (refine tkA HI (v := ?_) rfl (by kernel_rfl) (fun _ _ _ h => h) (.inl ⟨by rfl, fun wX hSw => ?_⟩) hHeld (fun HJ => ?_); rotate_left; (focus ((try dsimp only at hSw); go_simp; try with_reducible rfl)); clear HI; have HI := HJ; clear HJ; try simp only [Act.put, jjA, jjB, jjC, jjD, jjE, jjF])
     clear HI
     refine wpAnyH_done (by kernel_rfl) ?_ _
     have HB2 := Hk.mk (HB.out.trans (HV.out.mono HB.out.size))
     go_wp2
     go_ret2
     exact ⟨HB2.out, fun _ => rfl, fun m hm => by rw [R.out] at hm; cases hm⟩
   ·have EQ : Hk (okN ⟨q.t, q.p, abC q.l⟩ = true) := ⟨hv⟩
    cases hd : (q.t != tt)
    ·have HSS : Hk (∀ m', putN q.ab (abI L) = some m' → mrgN tt m' (abI (l.drop (k + 1))) = res) := ⟨fun m' hm' => by rw [← HES.out]; exact (mrg_step hv (show q.t = tt by simpa using hd) hm').symm⟩
     have HSN : Hk (putN q.ab (abI L) = none → res = none) := ⟨fun hm' => by rw [← HES.out]; exact mrg_over hm'⟩
     clear HES hv
     focus
      refine wp_region_held_drew (S := (fun X => (∀ b o, b < wr.heap.size → X.cell? ⟨b, o, none⟩ = wr.cell? ⟨b, o, none⟩) ∧ Below wr.heap.size wr X)) (by kernel_rfl) ?_ (fun hHeld => ?_)
      ·exact kw_S (kw_drew HV.out)
      have HI : Ix [0, 1, 2, 3] := trivial
      iterate 4 (refine tkA HI (v := ?_) rfl (by kernel_rfl) (fun _ _ _ h => h) (.inl ⟨by rfl, fun wX hSw => ?_⟩) hHeld (fun HJ => ?_); rotate_left; (focus ((try dsimp only at hSw); go_simp; try with_reducible rfl)); clear HI; have HI := HJ; clear HJ; try simp only [Act.put, jjA, jjB, jjC, jjD, jjE, jjF])
      clear HI
      refine wpAnyH_ready (rs := [4]) (by kernel_rfl) (by simp) ?_
      refine AllReadyH.cons rfl (fun K hK => ?_) (AllReadyH.nil)
      go_simp
      ((go_at_call 65; (with_reducible refine (rmay27_as true q.t q.p q.a q.n q.c q.l _ (by first | exact (HDQ.out.below HV.out (Nat.le_refl _)).mono HV.out.size | exact (HDQ.out.below HV.out.drew (Nat.le_refl _)).mono HV.out.drew.size) HM.out EQ).mono ?_); rintro e z ⟨rfl, hb⟩; have hB2 : Hk (Below wr.heap.size wr z) := ⟨by first | exact kw_step HV.out (Nat.le_refl _) hb | exact kw_step HV.out.drew (Nat.le_refl _) hb⟩; clear hb; replace HV := hB2; clear hB2))
      refine hK.out _ _ ?_ (fun hHeld => ?_)
      ·exact kw_S HV.out
      clear hK K
      (try simp only [Act.put, jjA, jjB, jjC, jjD, jjE, jjF])
      have HI : Ix [5, 6, 7, 8, 9, 10, 11, 12, 13, 14, 15, 16, 17] := trivial
      iterate 13 (refine tkA HI (v := ?_) rfl (by kernel_rfl) (fun _ _ _ h => h) (.inl ⟨by rfl, fun wX hSw => ?_⟩) hHeld (fun HJ => ?_); rotate_left; (focus ((try dsimp only at hSw); go_simp; try with_reducible rfl)); clear HI; have HI := HJ; clear HJ; try simp only [Act.put, jjA, jjB, jjC, jjD, jjE, jjF])
      clear HI
      refine wpAnyH_done (by kernel_rfl) ?_ _
      rename World => VA
      have HBV : Hk (Below w.heap.size w VA) := ⟨HB.out.trans (HV.out.mono HB.out.size)⟩
      have HOV : Hk (OwN VA w.heap.size (.slice sa m sc) m L) := ⟨HO.out.o.below HV.out⟩
      have HDV : Hk (CmD VA VA.heap.size q.a q.n q.l) := ⟨(HDQ.out.below HV.out (Nat.le_refl _)).mono HV.out.size⟩
      have HMK : Hk (m ≤ k) := ⟨HO.out.k⟩
      have HSL : Hk (SmI L) := ⟨smI_of HOV.out.d HH.out HS.out HO.out.i (by rw [HOV.out.o.len, HL.out]; have := HMK.out; have := HLT.out; omega)⟩
      obtain ⟨hcap1, hcap2, hcap⟩ := HOV.out.capf
      have HCAP := Hk.mk hcap
      have HVS := Hk.mk HBV.out.size
      have p0' := (HV.out.cell (p := ⟨b, off + k * 3, none⟩) hbr).trans p0
      have p1' := (HV.out.cell (p := ⟨b, off + k * 3 + 1, none⟩) hbr).trans p1
      have p2' := (HV.out.cell (p := ⟨b, off + k * 3 + 2, none⟩) hbr).trans p2
      have hbV : b < VA.heap.size := Nat.lt_of_lt_of_le hbr HV.out.size
      clear p0 p1 p2 r0 hcap HB HV HDQ hHeld
      cases hp : putN q.ab (abI L) with
      | none =>
       have EP := Hk.mk hp
       have R := HSN.out hp
       have HR := Hk.mk R
       clear hp R
       go_upto_region 8 with ((go_at_call 69; (with_reducible refine (rput_any q none sa m sc L _ HOV.out.d HSL.out HDV.out HM.out hcap1 hcap2 HCAP.out EP).mono ?_); rintro e z hpr); obtain rfl := hpr.no rfl; have HBZ := Hk.mk hpr.bl; clear hpr)
       go_wp2
       go_ret2
       exact ⟨HBV.out.trans (HBZ.out.mono HVS.out), fun _ => rfl, fun m hm => by rw [HR.out] at hm; cases hm⟩
      | some m2 =>
       have EP := Hk.mk hp
       have HE2 := Hk.mk (HSS.out m2 hp)
       have HPS := Hk.mk (put_some HO.out.s hp)
       clear hp
       go_upto_region 8 with ((go_at_call 69; (with_reducible refine (rput_any q (some m2) sa m sc L _ HOV.out.d HSL.out HDV.out HM.out hcap1 hcap2 HCAP.out EP).mono ?_); rintro e z hpr); obtain ⟨a2, n2, c2, L2, rfl, ho2, hab2⟩ := hpr.yes m2 rfl; have HBZ := Hk.mk hpr.bl; have HO2 := Hk.mk ho2; have HA2 := Hk.mk hab2; clear hpr ho2 hab2)
       have hn2 : n2 = m + 1 := by
        have h1 := HPS.out.2.length_eq
        rw [← HA2.out, abI_len, HO2.out.o.len, List.length_cons, abI_len, HOV.out.o.len] at h1
        exact h1
       have HFS : Hk (MrgS w z a2 n2 c2 L2 tt (abI (l.drop (k + 1))) res (abI l) (k + 1)) := ⟨HO2.out.weak HVS.out, by rw [HA2.out]; exact HPS.out.1, by rw [HA2.out]; exact HE2.out, fun x hx => by
        rw [HA2.out] at hx
        rcases List.mem_cons.1 (HPS.out.2.mem_iff.1 hx) with e | e
        ·rw [e]; exact HMEM.out
        ·exact HO.out.i x e, by have := HMK.out; omega⟩
       have HBF : Hk (Below w.heap.size w z) := ⟨HBV.out.trans (HBZ.out.mono HVS.out)⟩
       go_wp2
       exact ⟨⟨k + 1, n2, c2, a2, L2, rfl, by go_num, HLT.out, HFS, HBF⟩, by first | exact nx_ms HLT.out | exact nx_ms' HLT.out⟩
    ·have R : Hk (res = none) := ⟨by rw [← HES.out]; exact mrg_bad (fun h => by have := h.2; rw [bne_iff_ne] at hd; exact hd this)⟩
     clear HES hv
     focus
      refine wp_region_held_drew (S := (fun X => (∀ b o, b < wr.heap.size → X.cell? ⟨b, o, none⟩ = wr.cell? ⟨b, o, none⟩) ∧ Below wr.heap.size wr X)) (by kernel_rfl) ?_ (fun hHeld => ?_)
      ·exact kw_S (kw_drew HV.out)
      have HI : Ix [0, 1, 2, 3] := trivial
      iterate 4 (refine tkA HI (v := ?_) rfl (by kernel_rfl) (fun _ _ _ h => h) (.inl ⟨by rfl, fun wX hSw => ?_⟩) hHeld (fun HJ => ?_); rotate_left; (focus ((try dsimp only at hSw); go_simp; try with_reducible rfl)); clear HI; have HI := HJ; clear HJ; try simp only [Act.put, jjA, jjB, jjC, jjD, jjE, jjF])
      clear HI
      refine wpAnyH_ready (rs := [4]) (by kernel_rfl) (by simp) ?_
      refine AllReadyH.cons rfl (fun K hK => ?_) (AllReadyH.nil)
      go_simp
      ((go_at_call 65; (with_reducible refine (rmay27_as true q.t q.p q.a q.n q.c q.l _ (by first | exact (HDQ.out.below HV.out (Nat.le_refl _)).mono HV.out.size | exact (HDQ.out.below HV.out.drew (Nat.le_refl _)).mono HV.out.drew.size) HM.out EQ).mono ?_); rintro e z ⟨rfl, hb⟩; have hB2 : Hk (Below wr.heap.size wr z) := ⟨by first | exact kw_step HV.out (Nat.le_refl _) hb | exact kw_step HV.out.drew (Nat.le_refl _) hb⟩; clear hb; replace HV := hB2; clear hB2))
      refine hK.out _ _ ?_ (fun hHeld => ?_)
      ·exact kw_S HV.out
      clear hK K
      (try simp only [Act.put, jjA, jjB, jjC, jjD, jjE, jjF])
      have HI : Ix [5, 6, 7, 8, 9, 10, 11, 12, 13, 14, 15, 16, 17] := trivial
      iterate 13 (refine tkA HI (v := ?_) rfl (by kernel_rfl) (fun _ _ _ h => h) (.inl ⟨by rfl, fun wX hSw => ?_⟩) hHeld (fun HJ => ?_); rotate_left; (focus ((try dsimp only at hSw); go_simp; try with_reducible rfl)); clear HI; have HI := HJ; clear HJ; try simp only [Act.put, jjA, jjB, jjC, jjD, jjE, jjF])
      clear HI
      refine wpAnyH_done (by kernel_rfl) ?_ _
      have HB2 := Hk.mk (HB.out.trans (HV.out.mono HB.out.size))
      go_wp2
      go_ret2
      exact ⟨HB2.out, fun _ => rfl, fun m hm => by rw [R.out] at hm; cases hm⟩
  ·obtain rfl : k = n := by omega
   have HLD : Hk (l.drop k = []) := ⟨List.drop_of_length_le (by rw [HL.out]; exact Nat.le_refl _)⟩
   have HRS : Hk (res = some (abI L)) := ⟨by have := HO.out.e; rw [HLD.out] at this; exact this.symm⟩
   have HOK : Hk (∀ x, x ∈ L → okN x.ab = true) := ⟨fun x hx => by
    obtain ⟨a1, a2, t, a3⟩ := merge_some (E.out.trans HRS.out)
    exact (a3 x.ab (a2.mem_iff.1 (List.mem_map.2 ⟨x, hx, rfl⟩))).1⟩
   have HOL : Hk (OwN wr w.heap.size (.slice sa m sc) m L) := ⟨HO.out.o⟩
   have HSL : Hk (SmI L) := ⟨smI_of HO.out.o.d HH.out HS.out HO.out.i (by rw [HO.out.o.o.len, HL.out]; exact HO.out.k)⟩
   have hml : L.length = m := HO.out.o.o.len
   have hmk : m ≤ k := HO.out.k
   have HID := Hk.mk HO.out.o.d
   have HBW := HB
   clear hlt hk HO HB
   obtain ⟨wo, rfl⟩ : ∃ wo : World, wo = wr := ⟨wr, rfl⟩
   have HB : Hk (Below wo.heap.size wo wo) := ⟨Below.refl _ _⟩
   go_wp2
   go_loopw [8, 9] (fun mm i wr => ∃ (j : Nat) (M : List Cv) (na : Option Addr) (nc : Nat), mm = .slice na M.length nc ∧ i = .int .i64 j ∧ j ≤ m ∧ Hk (OwC wr wo.heap.size (.slice na M.length nc) M.length M ∧ abC M = flatN (abI (L.take j)) ∧ M.length ≤ 64 * j) ∧ Hk (Below wo.heap.size wo wr)) (fun _ i _ => m - (intOf i).toNat)
   case atStart => exact ⟨0, [], none, 0, rfl, rfl, Nat.zero_le _, ⟨OwC.nil _ _, rfl, Nat.le_refl _⟩, HB⟩
   case round =>
    clear HB
    obtain ⟨j, M, na, nc, rfl, rfl, hk, HM, HB⟩ := hrel
    by_cases hlt : j < m
    ·obtain ⟨b, off, ea, hbl, ⟨p0, p1, p2⟩, hd⟩ := (HID.out.below HB.out (Nat.le_refl _)).three hlt
     have hkl : j < L.length := by rw [hml]; exact hlt
     have HSQ := Hk.mk (HSL.out.m _ (getD_memI hkl))
     have hok := HOK.out (L.getD j default) (getD_memI hkl)
     have HSN : Hk (abI (L.take (j + 1)) = abI (L.take j) ++ [(L.getD j default).ab]) := ⟨abI_snoc hkl⟩
     obtain ⟨q, hqq⟩ : ∃ q, L.getD j default = q := ⟨_, rfl⟩
     rw [hqq] at p0 p1 p2 hd HSQ hok HSN
     have hq64 : q.n ≤ 64 := by
      unfold okN at hok
      simp only [Bool.and_eq_true, decide_eq_true_eq] at hok
      have := hok.1.2.2.2.2
      rw [show q.ab.l = abC q.l from rfl, abC_len] at this
      rw [← hd.q.len]; exact this
     have HD : Hk (CmD wr wr.heap.size q.a q.n q.l) := ⟨hd.mono HB.out.size⟩
     have t0 : (0 : Int) ≤ (j : Int) := by omega
     have t1 : (j : Int) < (m : Int) := by omega
     have HLT := Hk.mk hlt
     have gk : IntKind.i64.wrap ((j : Int) + 1) = ((j + 1 : Nat) : Int) := by push_cast; exact wr27 (by omega) (by omega)
     have hM64 : M.length ≤ 64 * j := HM.out.2.2
     have hk20 : j < 1048576 := by omega
     clear hd hqq hkl hok hlt hk
     subst ea
     go_wp2_with (first
      | (go_at_call 51; (with_reducible refine (copycs_any q.a q.n q.c q.l _ HD.out HSQ.out).mono ?_); rintro e z ⟨v2, L2, rfl, ho2, hab2, hb⟩; obtain ⟨a2, c2, rfl⟩ := ho2.form; have HOC := Hk.mk ho2; have HAB := Hk.mk hab2; have HOM := Hk.mk (HM.out.1.below hb); have HB2 := Hk.mk (kw_step HB.out (Nat.le_refl _) hb); have HSZ := Hk.mk hb.size; clear ho2 hab2 hb)
      | (at_builtin; go_must (refine append_row27 rfl _ _ 38 rfl wo.heap.size 95 i0 (.agg #[.int .i64 0, .int .i64 0, .int .i64 0, .int .i64 0, .slice none 0 0, .int .i64 0, .int .i64 0, .int .i64 0, .int .i64 0, .int .i64 0]) 10 96 Tryz.underlying38 hi hz0 hz1 hz2 rfl (by decide) _ M.length (flt shC M) rfl HOM.out.o.row (.slice a2 q.n c2) q.n (flt shC L2) rfl wr.heap.size HOC.out.o.row (flt_one shC L2) (by unfold maxLen; omega) (by omega) HB2.out.size ?_)))
     intro v3 z2 hown2 hgrow
     have hty : ∀ j, (Value.slice na M.length nc).ownBlock = some j → ∃ cur fr, z.heap[j]? = some (.cells cur 95 fr) := fun j hj => HOM.out.o.typ hj
     have hI : ∀ j cur fr, z.heap[j]? = some (.cells cur 3 fr) → ¬ (Value.slice na M.length nc).ownBlock = some j := fun j cur fr e hj => by
      obtain ⟨cur', fr', e'⟩ := hty j hj
      rw [e] at e'
      injection e' with e'
      injection e' with _ e'
      exact absurd e' (by decide)
     have hFr : Fr (fun j => (Value.slice na M.length nc).ownBlock = some j) z z2 := (Fr.refl _ z).grown hgrow (fun j _ h => h)
     have hl2 : L2.length = q.n := HOC.out.o.len
     have HO3 : Hk (OwC z2 wo.heap.size v3 (M ++ L2).length (M ++ L2) ∧ abC (M ++ L2) = flatN (abI (L.take (j + 1))) ∧ (M ++ L2).length ≤ 64 * (j + 1)) := ⟨⟨⟨rfl, by rw [List.length_append, hl2, flt_app]; exact hown2⟩, fun x hx => by
      rcases List.mem_append.1 hx with hx | hx
      ·exact (HOM.out.u x hx).keep hFr hI
      ·exact ((HOC.out.u x hx).weak HB.out.size).keep hFr hI⟩, by rw [abC_app, HM.out.2.1, HSN.out, flatN_app, HAB.out]; show _ = _ ++ (abC q.l ++ []); rw [List.append_nil], by rw [List.length_append, hl2]; omega⟩
     obtain ⟨sa2, sc2, rfl, -⟩ := HO3.out.1.o.form
     have HB3 : Hk (Below wo.heap.size wo z2) := ⟨HB2.out.grown hgrow HB2.out.size (fun g hg => (HOM.out.o.lt g hg).1)⟩
     have hnx : j + 1 ≤ m := HLT.out
     clear hown2 hgrow hty hI hFr HM HB HOM HOC HB2 HSZ hM64
     go_wp2
     exact ⟨⟨j + 1, M ++ L2, sa2, sc2, rfl, by go_num, hnx, HO3, HB3⟩, by first | exact nx_ms HLT.out | exact nx_ms' HLT.out⟩
    ·obtain rfl : j = m := by omega
     have hab : abC M = flatN (abI L) := by have := HM.out.2.1; rwa [List.take_of_length_le (by omega)] at this
     have HAB := Hk.mk hab
     have HBX : Hk (Below w.heap.size w wr) := ⟨HBW.out.trans (HB.out.mono HBW.out.size)⟩
     clear hab
     go_wp2
     go_ret2
     exact ⟨HBX.out, fun h => (by rw [HRS.out] at h; cases h), fun s hs => ⟨_, _, _, M, rfl, HM.out.1.weak HBW.out.size, by rw [HRS.out] at hs; injection hs with hs; rw [HAB.out, hs]⟩⟩
theorem rmerge_u (res : Option (List In)) (a : Option Addr) (n c : Nat) (l : List Iv) (w : World) (h : InD w w.heap.size a n l) (hs : SmI l) (E : Hk (mergeN (abI l) = res)) :
  Calls Tryz.prog 76 #[.slice a n c] w fun e w' => ∃ a2 n2 c2 M, e = .returned (.tuple #[.slice a2 n2 c2, .bool res.isSome]) ∧ OwC w' w.heap.size (.slice a2 n2 c2) n2 M ∧ abC M = flR res ∧ Below w.heap.size w w' := by
 refine (rmerge_any res a n c l w h hs E).mono ?_
 rintro e z ⟨hb, hn, hy⟩
 cases res with
 | none => exact ⟨none, 0, 0, [], hn rfl, OwC.nil _ _, rfl, hb⟩
 | some s =>
  obtain ⟨a2, n2, c2, L, rfl, ho, hab⟩ := hy s rfl
  exact ⟨a2, n2, c2, L, rfl, ho, hab, hb⟩
end Go.Proofs.YtdpblimhfmfbnaaGreat
namespace Go.Proofs.YtdpblimhfmfbnaaGreat
open Go.ChangeShapes Go.WideShapes Go.ChangeAt Go.RowKit Go.Deep
def SmNc (c : List Cm) : Prop := c.length ≤ 1048576 ∧ ∀ d, d ∈ c → d.f.u.length ≤ 1048576
def SmN (x : In) : Prop := SmNc x.l
end Go.Proofs.YtdpblimhfmfbnaaGreat
