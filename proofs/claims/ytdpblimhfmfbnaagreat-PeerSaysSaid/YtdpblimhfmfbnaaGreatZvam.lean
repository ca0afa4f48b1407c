import Derived.Deep.QuietTactic
import Derived.BigQuiet
import Derived.Deep.RegionWith
import Derived.Deep.RegionHeld3
import Derived.Deep.DeepCutAuto
import Derived.Deep.DeepFit
import Derived.Outline
import Derived.Test.YtdpblimhfmfbnaaGreatZval
import Derived.Deep.RegionLaw
import Derived.Lib.SlBuf
import Derived.Deep.Upon
import Derived.Test.YtdpblimhfmfbnaaGreatZvae
import Derived.Test.YtdpblimhfmfbnaaGreatZvac
import Derived.Test.YtdpblimhfmfbnaaGreatZvab
import Derived.Test.YtdpblimhfmfbnaaGreatZvaf
import Derived.Test.YtdpblimhfmfbnaaGreatZvad
set_option linter.unusedVariables false
set_option linter.unusedSimpArgs false
namespace Go.Proofs.YtdpblimhfmfbnaaGreat
open Go.ChangeShapes Go.WideShapes Go.ChangeAt Go.RowKit Go.Deep
theorem within_zero (w : World) : Calls Tryz.prog 18 #[.int .i64 0, .int .i64 9] w fun e w' => e = .returned (.int .i64 0) ∧ ∃ m, w' = w.drewN m := by
 go_enter Tryz.func18, Tryz.ntmps18
 go_wp2
 go_ret
 exact ⟨rfl, 0, rfl⟩
end Go.Proofs.YtdpblimhfmfbnaaGreat
namespace Go.Proofs.YtdpblimhfmfbnaaGreat
open Go.ChangeShapes Go.WideShapes Go.ChangeAt Go.RowKit Go.Deep
end Go.Proofs.YtdpblimhfmfbnaaGreat
namespace Go.Proofs.YtdpblimhfmfbnaaGreat
open Go.ChangeShapes Go.WideShapes Go.ChangeAt Go.RowKit Go.Deep
structure Sj (B : Nat) (w z : World) : Prop where
 s : Si B w z
 p : ∀ a n c u, OwnI w B (.slice a n c) n u → ∃ u', OwnI z B (.slice a n c) n u'
 ty : ∀ (j : Nat) (cur : Array Value) (T : TypeId) fr, w.heap[j]? = some (Obj.cells cur T fr) → T ≠ 3 → T ≠ 95 → T ≠ 40 → z.heap[j]? = some (Obj.cells cur T fr)
theorem Sj.refl (B : Nat) (w : World) : Sj B w w := ⟨Si.refl _ _, fun a n c u h => ⟨u, h⟩, fun _ _ _ _ h _ _ _ => h⟩
theorem Sj.trans {B : Nat} {w y z : World} (h : Sj B w y) (k : Sj B y z) : Sj B w z := ⟨h.s.trans k.s, fun a n c u o => by
 obtain ⟨u', o'⟩ := h.p a n c u o
 exact k.p a n c u' o', fun j cur T fr e n1 n2 n3 => k.ty j cur T fr (h.ty j cur T fr e n1 n2 n3) n1 n2 n3⟩
theorem Sj.of_sc {B : Nat} {w z : World} (h : Sc B w z) : Sj B w z := ⟨Si.of_sc h, h.p, fun j cur T fr e n1 n2 _ => h.ty j cur T fr e n1 n2⟩
theorem Sj.of_all {B : Nat} {w z : World} (hB : B ≤ w.heap.size) (h : Below w.heap.size w z) : Sj B w z := Sj.of_sc (Sc.of_all hB h)
theorem Sj.setI {B n c g : Nat} {w : World} {l : List Iv} (h : Ow shI 40 w B (.slice (some ⟨g, 0, none⟩) n c) n l) (k : Nat) (y : Int) : Sj B w (w.setCells g (k * 3) (zrI y).cs) := by
 obtain ⟨cur, fr, e⟩ := h.typ (j := g) rfl
 have hF : Fr (fun j => j = g) w (w.setCells g (k * 3) (zrI y).cs) := Fr.setCells (M := fun j => j = g) rfl _ _ (Fr.refl (fun j => j = g) w)
 have hI : ∀ (T : TypeId), T ≠ 40 → ∀ j cur fr, w.heap[j]? = some (.cells cur T fr) → ¬ j = g := fun T hT j cur' fr' e' hj => by
  subst hj
  rw [e] at e'
  injection e' with e'
  injection e' with _ e'
  exact hT e'.symm
 refine ⟨Si.setI h k y, fun a n' c' u o => ⟨u, Fr.owni o hF fun j hj => ?_⟩, fun j cur' T fr' e' _ _ n3 => ?_⟩
 ·obtain ⟨cur', fr', e'⟩ := o.typ hj
  exact hI _ (by decide) j cur' fr' e'
 ·rw [hF.block j (cells_lt e') (hI T n3 j cur' fr' e')]
  exact e'
theorem Sj.ow {α : Type} {S : Sh α} {T : TypeId} {B n : Nat} {v : Value} {w z : World} {l : List α} (h : Sj B w z) (o : Ow S T w B v n l) (ne : T ≠ 3) (ne2 : T ≠ 95) (ne3 : T ≠ 40) : Ow S T z B v n l := ⟨o.len, by
 refine ⟨o.row.1, ?_⟩
 rcases o.row.2 with e | ⟨g, cap, cur, e, hg, hh, r⟩
 ·exact .inl e
 ·exact .inr ⟨g, cap, cur, e, hg, h.ty _ _ _ _ hh ne ne2 ne3, r⟩⟩
set_option maxRecDepth 100000 in
set_option maxHeartbeats 1600000 in
theorem inps_sj (B n c : Nat) (a : Option Addr) (w : World) (h : ShI w B a n c) (hB : B ≤ w.heap.size) :
  Calls Tryz.prog 80 #[.slice a n c] w fun e z => e = .returned (.tuple #[]) ∧ Sj B w z := by
 obtain ⟨ii, hii, hiz0, hiz1, hiz2⟩ := info_parts info_in
 have HO := Hk.mk h
 have hn := h.1
 clear h
 go_enter Tryz.func80, Tryz.ntmps80
 go_wp2
 go_loopw [2] (fun i wr => ∃ (k : Nat), i = .int .i64 k ∧ k ≤ n ∧ Hk (ShI wr B a n c) ∧ Hk (Sj B w wr)) (fun i _ => n - (intOf i).toNat)
 case atStart => exact ⟨0, rfl, by omega, HO, ⟨Sj.refl _ _⟩⟩
 case round =>
  clear HO
  obtain ⟨k, rfl, hk, HO, HS⟩ := hrel
  obtain ⟨l, ho, hu⟩ := HO.out.2
  by_cases hlt : k < n
  ·obtain ⟨g, rfl, hg1, hg2, -⟩ := ho.blk.resolve_left (fun h => by omega)
   have hkl : k < l.length := by have := ho.len; omega
   have HOW := Hk.mk ho
   have HOH := Hk.mk HO.out
   have HNU := Hk.mk (hu _ (List.getElem_mem hkl))
   have hcc : ∀ X : World, Ow shI 40 X B (.slice (some ⟨g, 0, none⟩) n c) n l → X.cell? ⟨g, k * 3, none⟩ = some (.int .i64 l[k].t) ∧ X.cell? ⟨g, k * 3 + 1, none⟩ = some (.int .i64 l[k].p) ∧ X.cell? ⟨g, k * 3 + 2, none⟩ = some (.slice l[k].a l[k].n l[k].c) := fun X hX => by
    obtain ⟨b', off', e, _, hc⟩ := hX.qv.rd (by omega)
    injection e with e
    injection e with e1 e2
    subst e1 e2
    have h := hc k hkl
    rw [Nat.zero_add] at h
    exact ⟨h 0 (by decide), h 1 (by decide), h 2 (by decide)⟩
   generalize l[k] = q at *
   have HCC := Hk.mk hcc
   obtain ⟨p0, p1, p2⟩ := hcc wr ho
   have j1 : (0 : Int) ≤ (k : Int) := by omega
   have j2 : (k : Int) < (n : Int) := by omega
   have HLT := Hk.mk hlt
   have HBW := Hk.mk (Nat.le_trans hB HS.out.s.bl.size)
   have HG := Hk.mk hg1
   have HN := Hk.mk hn
   clear hcc hu ho hkl HO p0 p1
   focus
    go_wp2_with (go_at_call 40; (with_reducible refine (cmds_own B q.n q.c q.a _ HNU.out HBW.out).mono ?_); rintro e z ⟨rfl, hs⟩; have HSC := Hk.mk hs; have hoz := hs.ow HOW.out (by decide) (by decide); obtain ⟨p0, p1, p2z⟩ := HCC.out z hoz; have hgz := World.block_lt_of_cell? _ _ p0; have f0 := hoz.row.frozenAt (k * 3); have f1 := hoz.row.frozenAt (k * 3 + 1); have f2 := hoz.row.frozenAt (k * 3 + 2); have HOZ := Hk.mk hoz; clear hs hoz)
    have H1 : Hk (Sj B wr (((z.setCell ⟨g, k * 3, none⟩ (.int .i64 (-9))).setCell ⟨g, k * 3 + 1, none⟩ (.int .i64 0)).setCell ⟨g, k * 3 + 2, none⟩ (.slice none 0 0))) := ⟨(Sj.of_sc HSC.out).trans (Sj.setI HOZ.out k (-9))⟩
    have H4 := Hk.mk (HS.out.trans H1.out)
    have H3 := Hk.mk (H1.out.s.i _ _ _ HOH.out)
    exact ⟨⟨k + 1, by go_num, HLT.out, H3, H4⟩, by first | exact nx_ms HLT.out | exact nx_ms' HLT.out⟩
  ·obtain rfl : k = n := by omega
   have HAL := Hk.mk (Sj.of_all (Nat.le_trans hB HS.out.s.bl.size) (below_al wr (.cells #[.int .i64 0, .int .i64 0, .slice none 0 0] 40)))
   have hoa := ho.alloc (.cells #[.int .i64 0, .int .i64 0, .slice none 0 0] 40)
   obtain ⟨hkc, hnone, hcs⟩ := hoa.fin
   have HLO : Hk ((flt shI l).length = k * 3) := ⟨by rw [flt_len, ho.len]; rfl⟩
   have HCS := Hk.mk hcs
   have HNN := Hk.mk hnone
   clear hcs hnone
   by_cases hc : k < c
   ·obtain ⟨g, rfl, -⟩ := hoa.blk.resolve_left (fun h => by omega)
    have HSP := Hk.mk (own_spare hoa.row 1 hc)
    have HHO := Hk.mk (own_holds hoa.row)
    have H4 : Hk (Sj B w ((wr.alloc (.cells #[.int .i64 0, .int .i64 0, .slice none 0 0] 40)).setCells g (k * 3) (zrI 0).cs)) := ⟨(HS.out.trans HAL.out).trans (Sj.setI hoa k 0)⟩
    clear hoa ho HO HS HAL hu
    focus
     go_wp2_with (at_builtin; go_must (refine wpList_append_arg _ rfl _ _ 22 rfl 40 ii (.agg #[.int .i64 0, .int .i64 0, .slice none 0 0]) 3 40 Tryz.underlying22 hii hiz0 hiz1 hiz2 rfl (by decide) g 0 k c (flt shI l) rfl HLO.out HHO.out ⟨wr.heap.size, 0, none⟩ 1 1 [.int .i64 0, .int .i64 0, .slice none 0 0] rfl rfl (lit_at wr _ _) (is_one (zrI 0)) (fun _ => HSP.out) (by unfold maxLen; omega) (by omega) (fun _ => ?_) (fun h => absurd h (by omega))); generalize hW : World.setCells (wr.alloc (.cells #[.int .i64 0, .int .i64 0, .slice none 0 0] 40)) g _ _ = W9; have H9 : Hk (Sj B w W9) := ⟨by rw [← hW, Nat.zero_add]; exact H4.out⟩; clear hW H4)
     go_end0
     exact ⟨rfl, H9.out⟩
   ·have hcn : c < k + 1 := by omega
    clear hoa ho HO hu
    focus
     go_wp2_with (at_builtin; go_must (refine wpList_append_grows _ rfl _ _ 22 rfl 40 ii (.agg #[.int .i64 0, .int .i64 0, .slice none 0 0]) 3 40 Tryz.underlying22 hii hiz0 hiz1 hiz2 rfl (by decide) a k c (flt shI l) rfl HNN.out HLO.out HCS.out ⟨wr.heap.size, 0, none⟩ 1 1 [.int .i64 0, .int .i64 0, .slice none 0 0] rfl rfl (lit_at wr _ _) (is_one (zrI 0)) hcn (by unfold maxLen; omega) (by omega) ?_); intro v8 z8 hown hgrow; have H8 := Hk.mk (HS.out.trans (Sj.of_all (Nat.le_trans hB HS.out.s.bl.size) (below_gr hgrow))); clear hown hgrow)
     go_end0
     exact ⟨rfl, H8.out⟩
set_option maxRecDepth 100000 in
theorem hashes_own (B n c : Nat) (a : Option Addr) (l : List Int) (w : World) (h : Ow shU 41 w B (.slice a n c) n l) (hB : B ≤ w.heap.size) (hn : n ≤ 1048576) :
  Calls Tryz.prog 81 #[.slice a n c] w fun e z => e = .returned (.tuple #[]) ∧ Below B w z := by
 have HO := Hk.mk h
 clear h
 go_enter Tryz.func81, Tryz.ntmps81
 go_wp2
 go_loopw [2] (fun i wr => ∃ (k : Nat) (l : List Int), i = .int .i64 k ∧ k ≤ n ∧ Hk (Ow shU 41 wr B (.slice a n c) n l) ∧ Hk (Below B w wr)) (fun i _ => n - (intOf i).toNat)
 case atStart => exact ⟨0, l, rfl, by omega, HO, ⟨Below.refl _ _⟩⟩
 case round =>
  clear HO
  obtain ⟨k, ys, rfl, hk, HO, HB⟩ := hrel
  by_cases hlt : k < n
  ·obtain ⟨g, rfl, hg1, hg2, -⟩ := HO.out.blk.resolve_left (fun h => by omega)
   have hkl : k < ys.length := by have := HO.out.len; omega
   obtain ⟨b', off', e, _, hc⟩ := HO.out.qv.rd (by omega)
   injection e with e
   injection e with e1 e2
   subst e1 e2
   have hcx : wr.cell? ⟨g, k, none⟩ = some (.int .u64 ys[k]) := by
    have h := hc k hkl 0 (by decide)
    rw [show 0 + k * shU.z + 0 = k by show 0 + k * 1 + 0 = k; omega] at h
    exact h
   have hfz := HO.out.row.frozenAt k
   have j1 : (0 : Int) ≤ (k : Int) := by omega
   have j2 : (k : Int) < (n : Int) := by omega
   have H3 : Hk (Ow shU 41 (wr.setCell ⟨g, k, none⟩ (.int .u64 99)) B (.slice (some ⟨g, 0, none⟩) n c) n (ys.set k 99)) := ⟨by
    have := HO.out.setx k 99
    rw [show k * shU.z = k by show k * 1 = k; omega] at this
    exact this⟩
   have H4 := Hk.mk (HB.out.setCell (p := ⟨g, k, none⟩) hg1 (.int .u64 99))
   generalize ys[k] = y at *
   clear HO HB hc
   focus
    go_wp2
    exact ⟨⟨k + 1, _, by go_num, by omega, H3, H4⟩, by simp [intOf]; omega⟩
  ·go_wp2
   go_end0
   exact ⟨rfl, HB.out⟩
end Go.Proofs.YtdpblimhfmfbnaaGreat
namespace Go.Proofs.YtdpblimhfmfbnaaGreat
open Go.ChangeShapes Go.WideShapes Go.ChangeAt Go.RowKit Go.Deep
theorem shn_of {w : World} {B n c : Nat} {a : Option Addr} (hn : n ≤ 1048576) (h : ∃ u, OwnI w B (.slice a n c) n u) : ShN w B a n c := ⟨hn, h.imp fun u o => .inl o⟩
set_option maxRecDepth 100000 in
set_option maxHeartbeats 1600000 in
theorem spoilp_any (B : Nat) (p : Pv) (w : World) (h : PvO w B p) (hs : PvS p) (hB : B ≤ w.heap.size) :
  Calls Tryz.prog 52 #[.agg (jjP p)] w fun e z => e = .returned (.tuple #[]) ∧ Below B w z := by
 have HBW : Hk (Below w.heap.size w (w.alloc (.cells (jjP p) 26))) := ⟨(Below.refl _ _).alloc (Nat.le_refl _) _⟩
 have hblk := heap_alloc_new w (.cells (jjP p) 26)
 have HO := Hk.mk (h.below HBW.out)
 have HBS := Hk.mk (Nat.le_trans hB HBW.out.size)
 have HWB : Hk (B ≤ w.heap.size) := ⟨hB⟩
 have HS := Hk.mk hs
 clear h hs hB
 go_enter Tryz.func52, Tryz.ntmps52
 go_upto_region 1 with fail
 generalize (w.alloc (.cells (jjP p) 26)) = V at *
 have HVF : Hk (∀ X, Sj B V X → X.cell? ⟨w.heap.size, 5, none⟩ = some (.slice p.ma p.mn p.mc) ∧ X.cell? ⟨w.heap.size, 6, none⟩ = some (.slice p.la p.ln p.lc) ∧ X.cell? ⟨w.heap.size, 7, none⟩ = some (.slice p.ha p.hn p.hc) ∧ X.cell? ⟨w.heap.size, 8, none⟩ = some (.slice p.aa p.an p.ac) ∧ X.cell? ⟨w.heap.size, 9, none⟩ = some (.slice p.xa p.xn p.xc) ∧ w.heap.size < X.heap.size) := ⟨fun X hX => by
  have hb : Bk X w.heap.size (jjP p) := ⟨26, hX.ty _ _ _ _ hblk (by decide) (by decide) (by decide)⟩
  exact ⟨hb.c 5, hb.c 6, hb.c 7, hb.c 8, hb.c 9, hb.lt⟩⟩
 have HSZ : Hk (∀ X, Sj B V X → B ≤ X.heap.size) := ⟨fun X hX => Nat.le_trans HBS.out hX.s.bl.size⟩
 have HJ : Hk (Sj B V V) := ⟨Sj.refl _ _⟩
 clear hblk
 obtain ⟨y5, y6, y7, y8, y9, yl⟩ := HVF.out _ HJ.out
 go_wp2_with (first
  | (go_at_call 80; (with_reducible refine (inps_sj B p.mn p.mc p.ma _ (HO.out.m.shi HS.out.m) (HSZ.out _ HJ.out)).mono ?_); rintro e z1 ⟨rfl, hs⟩; have HJ9 := Hk.mk (HJ.out.trans hs); clear y5 y6 y7 y8 y9 yl; replace HJ := HJ9; clear HJ9; obtain ⟨y5, y6, y7, y8, y9, yl⟩ := HVF.out _ HJ.out; clear hs)
  | (go_at_call 80; (with_reducible refine (inps_sj B p.ln p.lc p.la _ (HJ.out.s.i _ _ _ (HO.out.l.shi HS.out.l)) (HSZ.out _ HJ.out)).mono ?_); rintro e z2 ⟨rfl, hs⟩; have HJ9 := Hk.mk (HJ.out.trans hs); clear y5 y6 y7 y8 y9 yl; replace HJ := HJ9; clear HJ9; obtain ⟨y5, y6, y7, y8, y9, yl⟩ := HVF.out _ HJ.out; clear hs)
  | (go_at_call 70; (with_reducible refine (nums_own B p.hn p.hc p.ha _ (shn_of HS.out.h (HJ.out.p _ _ _ _ HO.out.h)) (HSZ.out _ HJ.out)).mono ?_); rintro e z3 ⟨rfl, hs⟩; have HJ9 := Hk.mk (HJ.out.trans (Sj.of_sc (Sc.of_sn hs))); clear y5 y6 y7 y8 y9 yl; replace HJ := HJ9; clear HJ9; obtain ⟨y5, y6, y7, y8, y9, yl⟩ := HVF.out _ HJ.out; clear hs)
  | (go_at_call 70; (with_reducible refine (nums_own B p.an p.ac p.aa _ (shn_of HS.out.a (HJ.out.p _ _ _ _ HO.out.a)) (HSZ.out _ HJ.out)).mono ?_); rintro e z4 ⟨rfl, hs⟩; have HJ9 := Hk.mk (HJ.out.trans (Sj.of_sc (Sc.of_sn hs))); clear y5 y6 y7 y8 y9 yl; replace HJ := HJ9; clear HJ9; obtain ⟨y5, y6, y7, y8, y9, yl⟩ := HVF.out _ HJ.out; clear hs)
  | (go_at_call 81; (with_reducible refine (hashes_own B p.xn p.xc p.xa p.xl _ (HJ.out.ow HO.out.x (by decide) (by decide) (by decide)) (HSZ.out _ HJ.out) HS.out.x).mono ?_); rintro e z5 ⟨rfl, hb⟩; have HB5 := Hk.mk (HJ.out.s.bl.trans hb); clear hb))
 go_end0
 exact ⟨rfl, (HBW.out.mono HWB.out).trans HB5.out⟩
end Go.Proofs.YtdpblimhfmfbnaaGreat
namespace Go.Proofs.YtdpblimhfmfbnaaGreat
open Go.ChangeShapes Go.WideShapes Go.ChangeAt Go.RowKit Go.Deep
theorem Qv.re {α : Type} {S : Sh α} {w : World} {B N n : Nat} {a : Option Addr} {l : List α} (h : Qv S w B a n l) (h' : ∃ W0, Qv S W0 N a n l) : Qv S w N a n l := ⟨h.len, fun hn => by
 obtain ⟨W0, h'⟩ := h'
 obtain ⟨b, off, e, hb, hc⟩ := h.rd hn
 obtain ⟨b', off', e', hb', _⟩ := h'.rd hn
 rw [e] at e'
 injection e' with e'
 injection e' with e1 e2
 subst e1
 exact ⟨b, off, e, hb', hc⟩⟩
theorem Nq.re {w : World} {B N n : Nat} {a : Option Addr} {l : List Int} (h : Nq w B a n l) (h' : ∃ W0, Nq W0 N a n l) : Nq w N a n l := ⟨h.len, fun hn => by
 obtain ⟨W0, h'⟩ := h'
 obtain ⟨b, off, e, hb, hc⟩ := h.rd hn
 obtain ⟨b', off', e', hb', _⟩ := h'.rd hn
 rw [e] at e'
 injection e' with e'
 injection e' with e1 e2
 subst e1
 exact ⟨b, off, e, hb', hc⟩⟩
theorem CmD.re {w : World} {B N n : Nat} {a : Option Addr} {l : List Cv} (h : CmD w B a n l) (h' : ∃ W0, CmD W0 N a n l) : CmD w N a n l := by
 obtain ⟨W0, h'⟩ := h'
 exact ⟨h.q.re ⟨W0, h'.q⟩, fun x hx => (h.u x hx).re ⟨W0, h'.u x hx⟩⟩
theorem InD.re {w : World} {B N n : Nat} {a : Option Addr} {l : List Iv} (h : InD w B a n l) (h' : ∃ W0, InD W0 N a n l) : InD w N a n l := by
 obtain ⟨W0, h'⟩ := h'
 exact ⟨h.q.re ⟨W0, h'.q⟩, fun x hx => (h.u x hx).re ⟨W0, h'.u x hx⟩⟩
theorem chn_lt {w : World} {P B : Nat} (q : Pv) (h : P < B) : Fr (fun j => j < B) w (((((((((((World.setCell w ⟨P, 0, none⟩ (.int .i64 q.i)).setCell ⟨P, 1, none⟩ (.int .i64 q.n)).setCell ⟨P, 2, none⟩ (.int .i64 q.d)).setCell ⟨P, 3, none⟩ (.int .i64 q.t)).setCell ⟨P, 4, none⟩ (.int .i64 q.s)).setCell ⟨P, 5, none⟩ (.slice q.ma q.mn q.mc)).setCell ⟨P, 6, none⟩ (.slice q.la q.ln q.lc)).setCell ⟨P, 7, none⟩ (.slice q.ha q.hn q.hc)).setCell ⟨P, 8, none⟩ (.slice q.aa q.an q.ac)).setCell ⟨P, 9, none⟩ (.slice q.xa q.xn q.xc)).setCell ⟨P, 10, none⟩ (.bool q.b)) := by
 iterate 11 refine Fr.setCell (p := ⟨P, _, none⟩) ?_ (fun _ => h) _
 exact Fr.refl _ _
theorem chn_bl {w0 w : World} {P B : Nat} (h : Below B w0 w) (q : Pv) (hP : B ≤ P) : Below B w0 (((((((((((World.setCell w ⟨P, 0, none⟩ (.int .i64 q.i)).setCell ⟨P, 1, none⟩ (.int .i64 q.n)).setCell ⟨P, 2, none⟩ (.int .i64 q.d)).setCell ⟨P, 3, none⟩ (.int .i64 q.t)).setCell ⟨P, 4, none⟩ (.int .i64 q.s)).setCell ⟨P, 5, none⟩ (.slice q.ma q.mn q.mc)).setCell ⟨P, 6, none⟩ (.slice q.la q.ln q.lc)).setCell ⟨P, 7, none⟩ (.slice q.ha q.hn q.hc)).setCell ⟨P, 8, none⟩ (.slice q.aa q.an q.ac)).setCell ⟨P, 9, none⟩ (.slice q.xa q.xn q.xc)).setCell ⟨P, 10, none⟩ (.bool q.b)) := by
 iterate 11 refine Below.setCell ?_ (p := ⟨P, _, none⟩) hP _
 exact h
structure LayP (z : World) (q : Pv) (N3 N4 : Nat) : Prop where
 m : InD z N3 q.ma q.mn q.ml
 l : InD z N3 q.la q.ln q.ll
 h : OwnI z N3 (.slice q.ha q.hn q.hc) q.hn q.hl
 hq : Nq z N4 q.ha q.hn q.hl
 a : OwnI z N4 (.slice q.aa q.an q.ac) q.an q.al
 le : N3 ≤ N4
 dj : ∀ j, Value.ownBlock (.slice q.ma q.mn q.mc) = some j → ¬ Value.ownBlock (.slice q.la q.ln q.lc) = some j
def CpQ (w : World) (p : Pv) (e : Ending) (z : World) : Prop := ∃ (q : Pv) (N3 N4 : Nat), e = .returned (.agg (jjP q)) ∧ PvO z w.heap.size q ∧ LayP z q N3 N4 ∧ w.heap.size ≤ N3 ∧ q.ab = p.ab ∧ q.mn = p.mn ∧ q.ln = p.ln ∧ q.hn = p.hn ∧ q.an = p.an ∧ q.xn = p.xn ∧ Below w.heap.size w z
set_option maxRecDepth 100000 in
set_option maxHeartbeats 3200000 in
theorem copyq_any (p : Pv) (w : World) (h : PvD w w.heap.size p) (hs : PvS p) :
  Calls Tryz.prog 11 #[.agg (jjP p)] w (CpQ w p) := by
 have HH := Hk.mk h
 have HS := Hk.mk hs
 have hhn : p.hn ≤ 1048576 := hs.h
 have han : p.an ≤ 1048576 := hs.a
 have hxn : p.xn ≤ 1048576 := hs.x
 have HB : Hk (Below w.heap.size w (((w.alloc (.cells (jjP p) 26)).alloc (.cells jjZ 26)).alloc (.cells (jjP p) 26))) := ⟨(((Below.refl _ _).alloc (Nat.le_refl _) _).alloc (by simp) _).alloc (by simp <;> omega) _⟩
 have HP : Hk (Bk (((w.alloc (.cells (jjP p) 26)).alloc (.cells jjZ 26)).alloc (.cells (jjP p) 26)) w.heap.size (jjP p)) := ⟨((Bk.new w (jjP p) 26).al _).al _⟩
 have HZ : Hk (Bk (((w.alloc (.cells (jjP p) 26)).alloc (.cells jjZ 26)).alloc (.cells (jjP p) 26)) (w.heap.size + 1) jjZ) := ⟨by have := (Bk.new (w.alloc (.cells (jjP p) 26)) jjZ 26).al (.cells (jjP p) 26); simpa using this⟩
 have HX : Hk (Bk (((w.alloc (.cells (jjP p) 26)).alloc (.cells jjZ 26)).alloc (.cells (jjP p) 26)) (w.heap.size + 1 + 1) (jjP p)) := ⟨by have := Bk.new ((w.alloc (.cells (jjP p) 26)).alloc (.cells jjZ 26)) (jjP p) 26; simpa using this⟩
 have hsz : (w.heap.size + 3) ≤ (((w.alloc (.cells (jjP p) 26)).alloc (.cells jjZ 26)).alloc (.cells (jjP p) 26)).heap.size := by simp
 clear h hs
 go_enter Tryz.func11, Tryz.ntmps11
 go_upto_region 2 with fail
 generalize (((w.alloc (.cells (jjP p) 26)).alloc (.cells jjZ 26)).alloc (.cells (jjP p) 26)) = V at *
 have HSV := Hk.mk hsz
 clear hsz
 have r5 := HP.out.c 5
 have rl := HP.out.lt
 try simp at r5
 go_upto_region 3 with (go_at_call 26; (with_reducible refine (copyins_any p.ma p.mn p.mc p.ml _ (HH.out.later HB.out).m HS.out.m).mono ?_); rintro e z ⟨v, Q1, rfl, ho, hab, hb⟩; obtain ⟨a1, c1, rfl, -⟩ := ho.o.form; have HA1 := Hk.mk hab; clear hab; have HO1 : Hk (OwN z (w.heap.size + 3) (.slice a1 p.mn c1) p.mn Q1) := ⟨(ho).weak (HSV.out)⟩; have HB2 := Hk.mk (HB.out.trans (hb.mono HB.out.size)); have HX2 := Hk.mk (HX.out.below hb); have HZ2 := Hk.mk (HZ.out.below hb); have HP2 := Hk.mk (HP.out.below hb); have cx := HX2.out.c 5; have fx := HX2.out.f 5; have lx := HX2.out.lt; have HSZ := Hk.mk (Nat.le_trans HSV.out hb.size); clear ho hb)
 have HX3 : Hk (Bk (z.setCell ⟨(w.heap.size + 1 + 1), 5, none⟩ (.slice a1 p.mn c1)) (w.heap.size + 1 + 1) #[.int .i64 p.i, .int .i64 p.n, .int .i64 p.d, .int .i64 p.t, .int .i64 p.s, .slice a1 p.mn c1, .slice p.la p.ln p.lc, .slice p.ha p.hn p.hc, .slice p.aa p.an p.ac, .slice p.xa p.xn p.xc, .bool p.b]) := ⟨HX2.out.set 5 (.slice a1 p.mn c1)⟩
 have HZ3 : Hk (Bk (z.setCell ⟨(w.heap.size + 1 + 1), 5, none⟩ (.slice a1 p.mn c1)) (w.heap.size + 1) jjZ) := ⟨HZ2.out.oth (by omega) 5 (.slice a1 p.mn c1)⟩
 have HP3 : Hk (Bk (z.setCell ⟨(w.heap.size + 1 + 1), 5, none⟩ (.slice a1 p.mn c1)) w.heap.size (jjP p)) := ⟨HP2.out.oth (by omega) 5 (.slice a1 p.mn c1)⟩
 have HB3 : Hk (Below w.heap.size w (z.setCell ⟨(w.heap.size + 1 + 1), 5, none⟩ (.slice a1 p.mn c1))) := ⟨HB2.out.setCell (p := ⟨(w.heap.size + 1 + 1), 5, none⟩) (by show w.heap.size ≤ (w.heap.size + 1 + 1); omega) (.slice a1 p.mn c1)⟩
 have HF3 : Hk (Fr (fun j => j < (w.heap.size + 3)) z (z.setCell ⟨(w.heap.size + 1 + 1), 5, none⟩ (.slice a1 p.mn c1))) := ⟨Fr.setCell (p := ⟨(w.heap.size + 1 + 1), 5, none⟩) (Fr.refl _ z) (fun _ => by show (w.heap.size + 1 + 1) < (w.heap.size + 3); omega) (.slice a1 p.mn c1)⟩
 replace HO1 : Hk (OwN (z.setCell ⟨(w.heap.size + 1 + 1), 5, none⟩ (.slice a1 p.mn c1)) (w.heap.size + 3) (.slice a1 p.mn c1) p.mn Q1) := ⟨OwN.up HO1.out HF3.out (fun j hj e => by omega)⟩
 have HSV2 : Hk ((w.heap.size + 3) ≤ (z.setCell ⟨(w.heap.size + 1 + 1), 5, none⟩ (.slice a1 p.mn c1)).heap.size) := ⟨by simpa using HSZ.out⟩
 clear HX HZ HB cx fx lx r5 rl HX2 HZ2 HB2 HSZ HSV HF3 HP HP2
 generalize (z.setCell ⟨(w.heap.size + 1 + 1), 5, none⟩ (.slice a1 p.mn c1)) = V2 at *
 obtain ⟨HX, HZ, HB, HSV, HP⟩ : (Hk (Bk V2 (w.heap.size + 1 + 1) #[.int .i64 p.i, .int .i64 p.n, .int .i64 p.d, .int .i64 p.t, .int .i64 p.s, .slice a1 p.mn c1, .slice p.la p.ln p.lc, .slice p.ha p.hn p.hc, .slice p.aa p.an p.ac, .slice p.xa p.xn p.xc, .bool p.b])) ∧ (Hk (Bk V2 (w.heap.size + 1) jjZ)) ∧ (Hk (Below w.heap.size w V2)) ∧ (Hk ((w.heap.size + 3) ≤ V2.heap.size)) ∧ (Hk (Bk V2 w.heap.size (jjP p))) := ⟨HX3, HZ3, HB3, HSV2, HP3⟩
 clear HX3 HZ3 HB3 HSV2 HP3 V z
 rename World => V
 have HMJ : Hk (∀ j, Value.ownBlock (.slice a1 p.mn c1) = some j → j < V.heap.size) := ⟨fun j hj => (HO1.out.o.lt j hj).2⟩
 have r6 := HP.out.c 6
 have rl := HP.out.lt
 try simp at r6
 go_upto_region 4 with (go_at_call 26; (with_reducible refine (copyins_any p.la p.ln p.lc p.ll _ (HH.out.later HB.out).l HS.out.l).mono ?_); rintro e z ⟨v, Q2, rfl, ho, hab, hb⟩; obtain ⟨a2, c2, rfl, -⟩ := ho.o.form; have HA2 := Hk.mk hab; clear hab; have HO2 : Hk (OwN z (w.heap.size + 3) (.slice a2 p.ln c2) p.ln Q2) := ⟨(ho).weak (HSV.out)⟩; have HDJ : Hk (∀ j, Value.ownBlock (.slice a1 p.mn c1) = some j → ¬ Value.ownBlock (.slice a2 p.ln c2) = some j) := ⟨fun j h1 h2 => by have h3 := HMJ.out j h1; have h4 := (ho.o.lt j h2).1; omega⟩; clear HMJ; replace HO1 := Hk.mk (HO1.out.below hb); have HB2 := Hk.mk (HB.out.trans (hb.mono HB.out.size)); have HX2 := Hk.mk (HX.out.below hb); have HZ2 := Hk.mk (HZ.out.below hb); have HP2 := Hk.mk (HP.out.below hb); have cx := HX2.out.c 6; have fx := HX2.out.f 6; have lx := HX2.out.lt; have HSZ := Hk.mk (Nat.le_trans HSV.out hb.size); clear ho hb)
 have HX3 : Hk (Bk (z.setCell ⟨(w.heap.size + 1 + 1), 6, none⟩ (.slice a2 p.ln c2)) (w.heap.size + 1 + 1) #[.int .i64 p.i, .int .i64 p.n, .int .i64 p.d, .int .i64 p.t, .int .i64 p.s, .slice a1 p.mn c1, .slice a2 p.ln c2, .slice p.ha p.hn p.hc, .slice p.aa p.an p.ac, .slice p.xa p.xn p.xc, .bool p.b]) := ⟨HX2.out.set 6 (.slice a2 p.ln c2)⟩
 have HZ3 : Hk (Bk (z.setCell ⟨(w.heap.size + 1 + 1), 6, none⟩ (.slice a2 p.ln c2)) (w.heap.size + 1) jjZ) := ⟨HZ2.out.oth (by omega) 6 (.slice a2 p.ln c2)⟩
 have HP3 : Hk (Bk (z.setCell ⟨(w.heap.size + 1 + 1), 6, none⟩ (.slice a2 p.ln c2)) w.heap.size (jjP p)) := ⟨HP2.out.oth (by omega) 6 (.slice a2 p.ln c2)⟩
 have HB3 : Hk (Below w.heap.size w (z.setCell ⟨(w.heap.size + 1 + 1), 6, none⟩ (.slice a2 p.ln c2))) := ⟨HB2.out.setCell (p := ⟨(w.heap.size + 1 + 1), 6, none⟩) (by show w.heap.size ≤ (w.heap.size + 1 + 1); omega) (.slice a2 p.ln c2)⟩
 have HF3 : Hk (Fr (fun j => j < (w.heap.size + 3)) z (z.setCell ⟨(w.heap.size + 1 + 1), 6, none⟩ (.slice a2 p.ln c2))) := ⟨Fr.setCell (p := ⟨(w.heap.size + 1 + 1), 6, none⟩) (Fr.refl _ z) (fun _ => by show (w.heap.size + 1 + 1) < (w.heap.size + 3); omega) (.slice a2 p.ln c2)⟩
 replace HO1 : Hk (OwN (z.setCell ⟨(w.heap.size + 1 + 1), 6, none⟩ (.slice a2 p.ln c2)) (w.heap.size + 3) (.slice a1 p.mn c1) p.mn Q1) := ⟨OwN.up HO1.out HF3.out (fun j hj e => by omega)⟩
 replace HO2 : Hk (OwN (z.setCell ⟨(w.heap.size + 1 + 1), 6, none⟩ (.slice a2 p.ln c2)) (w.heap.size + 3) (.slice a2 p.ln c2) p.ln Q2) := ⟨OwN.up HO2.out HF3.out (fun j hj e => by omega)⟩
 have HSV2 : Hk ((w.heap.size + 3) ≤ (z.setCell ⟨(w.heap.size + 1 + 1), 6, none⟩ (.slice a2 p.ln c2)).heap.size) := ⟨by simpa using HSZ.out⟩
 clear HX HZ HB cx fx lx r6 rl HX2 HZ2 HB2 HSZ HSV HF3 HP HP2
 generalize (z.setCell ⟨(w.heap.size + 1 + 1), 6, none⟩ (.slice a2 p.ln c2)) = V2 at *
 obtain ⟨HX, HZ, HB, HSV, HP⟩ : (Hk (Bk V2 (w.heap.size + 1 + 1) #[.int .i64 p.i, .int .i64 p.n, .int .i64 p.d, .int .i64 p.t, .int .i64 p.s, .slice a1 p.mn c1, .slice a2 p.ln c2, .slice p.ha p.hn p.hc, .slice p.aa p.an p.ac, .slice p.xa p.xn p.xc, .bool p.b])) ∧ (Hk (Bk V2 (w.heap.size + 1) jjZ)) ∧ (Hk (Below w.heap.size w V2)) ∧ (Hk ((w.heap.size + 3) ≤ V2.heap.size)) ∧ (Hk (Bk V2 w.heap.size (jjP p))) := ⟨HX3, HZ3, HB3, HSV2, HP3⟩
 clear HX3 HZ3 HB3 HSV2 HP3 V z
 rename World => V
 obtain ⟨N3, hN3⟩ : ∃ N, N = V.heap.size := ⟨_, rfl⟩
 have HN3 : Hk ((w.heap.size + 3) ≤ N3) := ⟨by rw [hN3]; exact HSV.out⟩
 have HD1 : Hk (∃ W0, InD W0 N3 a1 p.mn Q1) := ⟨V, by rw [hN3]; exact HO1.out.d⟩
 have HD2 : Hk (∃ W0, InD W0 N3 a2 p.ln Q2) := ⟨V, by rw [hN3]; exact HO2.out.d⟩
 clear HSV
 have HSV : Hk (N3 ≤ V.heap.size) := ⟨by rw [hN3]; exact Nat.le_refl _⟩
 clear hN3
 have r7 := HP.out.c 7
 have rl := HP.out.lt
 try simp at r7
 go_upto_region 5 with (go_at_call 27; (with_reducible refine (copyi_any p.ha p.hn p.hc p.hl _ (HH.out.later HB.out).h (by omega)).mono ?_); rintro e z ⟨v, rfl, ho, hb⟩; obtain ⟨a3, c3, rfl, -, -⟩ := ho.nq; have HO3 : Hk (OwnI z N3 (.slice a3 p.hn c3) p.hn p.hl) := ⟨(ho).weak (HSV.out)⟩; replace HO1 := Hk.mk (HO1.out.below hb); replace HO2 := Hk.mk (HO2.out.below hb); have HB2 := Hk.mk (HB.out.trans (hb.mono HB.out.size)); have HX2 := Hk.mk (HX.out.below hb); have HZ2 := Hk.mk (HZ.out.below hb); have HP2 := Hk.mk (HP.out.below hb); have cx := HX2.out.c 7; have fx := HX2.out.f 7; have lx := HX2.out.lt; have HSZ := Hk.mk (Nat.le_trans HSV.out hb.size); clear ho hb)
 have HX3 : Hk (Bk (z.setCell ⟨(w.heap.size + 1 + 1), 7, none⟩ (.slice a3 p.hn c3)) (w.heap.size + 1 + 1) #[.int .i64 p.i, .int .i64 p.n, .int .i64 p.d, .int .i64 p.t, .int .i64 p.s, .slice a1 p.mn c1, .slice a2 p.ln c2, .slice a3 p.hn c3, .slice p.aa p.an p.ac, .slice p.xa p.xn p.xc, .bool p.b]) := ⟨HX2.out.set 7 (.slice a3 p.hn c3)⟩
 have HZ3 : Hk (Bk (z.setCell ⟨(w.heap.size + 1 + 1), 7, none⟩ (.slice a3 p.hn c3)) (w.heap.size + 1) jjZ) := ⟨HZ2.out.oth (by omega) 7 (.slice a3 p.hn c3)⟩
 have HP3 : Hk (Bk (z.setCell ⟨(w.heap.size + 1 + 1), 7, none⟩ (.slice a3 p.hn c3)) w.heap.size (jjP p)) := ⟨HP2.out.oth (by omega) 7 (.slice a3 p.hn c3)⟩
 have HB3 : Hk (Below w.heap.size w (z.setCell ⟨(w.heap.size + 1 + 1), 7, none⟩ (.slice a3 p.hn c3))) := ⟨HB2.out.setCell (p := ⟨(w.heap.size + 1 + 1), 7, none⟩) (by show w.heap.size ≤ (w.heap.size + 1 + 1); omega) (.slice a3 p.hn c3)⟩
 have HF3 : Hk (Fr (fun j => j < (w.heap.size + 3)) z (z.setCell ⟨(w.heap.size + 1 + 1), 7, none⟩ (.slice a3 p.hn c3))) := ⟨Fr.setCell (p := ⟨(w.heap.size + 1 + 1), 7, none⟩) (Fr.refl _ z) (fun _ => by show (w.heap.size + 1 + 1) < (w.heap.size + 3); omega) (.slice a3 p.hn c3)⟩
 replace HO1 : Hk (OwN (z.setCell ⟨(w.heap.size + 1 + 1), 7, none⟩ (.slice a3 p.hn c3)) (w.heap.size + 3) (.slice a1 p.mn c1) p.mn Q1) := ⟨OwN.up HO1.out HF3.out (fun j hj e => by omega)⟩
 replace HO2 : Hk (OwN (z.setCell ⟨(w.heap.size + 1 + 1), 7, none⟩ (.slice a3 p.hn c3)) (w.heap.size + 3) (.slice a2 p.ln c2) p.ln Q2) := ⟨OwN.up HO2.out HF3.out (fun j hj e => by omega)⟩
 replace HO3 : Hk (OwnI (z.setCell ⟨(w.heap.size + 1 + 1), 7, none⟩ (.slice a3 p.hn c3)) N3 (.slice a3 p.hn c3) p.hn p.hl) := ⟨Fr.owni HO3.out HF3.out (fun j hj e => by have := (HO3.out.lt j hj).1; have := HN3.out; omega)⟩
 have HSV2 : Hk (N3 ≤ (z.setCell ⟨(w.heap.size + 1 + 1), 7, none⟩ (.slice a3 p.hn c3)).heap.size) := ⟨by simpa using HSZ.out⟩
 clear HX HZ HB cx fx lx r7 rl HX2 HZ2 HB2 HSZ HSV HF3 HP HP2
 generalize (z.setCell ⟨(w.heap.size + 1 + 1), 7, none⟩ (.slice a3 p.hn c3)) = V2 at *
 obtain ⟨HX, HZ, HB, HSV, HP⟩ : (Hk (Bk V2 (w.heap.size + 1 + 1) #[.int .i64 p.i, .int .i64 p.n, .int .i64 p.d, .int .i64 p.t, .int .i64 p.s, .slice a1 p.mn c1, .slice a2 p.ln c2, .slice a3 p.hn c3, .slice p.aa p.an p.ac, .slice p.xa p.xn p.xc, .bool p.b])) ∧ (Hk (Bk V2 (w.heap.size + 1) jjZ)) ∧ (Hk (Below w.heap.size w V2)) ∧ (Hk (N3 ≤ V2.heap.size)) ∧ (Hk (Bk V2 w.heap.size (jjP p))) := ⟨HX3, HZ3, HB3, HSV2, HP3⟩
 clear HX3 HZ3 HB3 HSV2 HP3 V z
 rename World => V
 obtain ⟨N4, hN4⟩ : ∃ N, N = V.heap.size := ⟨_, rfl⟩
 have HN4 : Hk (N3 ≤ N4) := ⟨by rw [hN4]; exact HSV.out⟩
 have HD3 : Hk (∃ W0, Nq W0 N4 a3 p.hn p.hl) := ⟨V, by rw [hN4]; exact HO3.out.nq2⟩
 clear HSV
 have HSV : Hk (N4 ≤ V.heap.size) := ⟨by rw [hN4]; exact Nat.le_refl _⟩
 clear hN4
 have r8 := HP.out.c 8
 have rl := HP.out.lt
 try simp at r8
 go_upto_region 6 with (go_at_call 27; (with_reducible refine (copyi_any p.aa p.an p.ac p.al _ (HH.out.later HB.out).a (by omega)).mono ?_); rintro e z ⟨v, rfl, ho, hb⟩; obtain ⟨a4, c4, rfl, -, -⟩ := ho.nq; have HO4 : Hk (OwnI z N4 (.slice a4 p.an c4) p.an p.al) := ⟨(ho).weak (HSV.out)⟩; replace HO1 := Hk.mk (HO1.out.below hb); replace HO2 := Hk.mk (HO2.out.below hb); replace HO3 := Hk.mk (HO3.out.below hb); have HB2 := Hk.mk (HB.out.trans (hb.mono HB.out.size)); have HX2 := Hk.mk (HX.out.below hb); have HZ2 := Hk.mk (HZ.out.below hb); have HP2 := Hk.mk (HP.out.below hb); have cx := HX2.out.c 8; have fx := HX2.out.f 8; have lx := HX2.out.lt; have HSZ := Hk.mk (Nat.le_trans HSV.out hb.size); clear ho hb)
 have HX3 : Hk (Bk (z.setCell ⟨(w.heap.size + 1 + 1), 8, none⟩ (.slice a4 p.an c4)) (w.heap.size + 1 + 1) #[.int .i64 p.i, .int .i64 p.n, .int .i64 p.d, .int .i64 p.t, .int .i64 p.s, .slice a1 p.mn c1, .slice a2 p.ln c2, .slice a3 p.hn c3, .slice a4 p.an c4, .slice p.xa p.xn p.xc, .bool p.b]) := ⟨HX2.out.set 8 (.slice a4 p.an c4)⟩
 have HZ3 : Hk (Bk (z.setCell ⟨(w.heap.size + 1 + 1), 8, none⟩ (.slice a4 p.an c4)) (w.heap.size + 1) jjZ) := ⟨HZ2.out.oth (by omega) 8 (.slice a4 p.an c4)⟩
 have HP3 : Hk (Bk (z.setCell ⟨(w.heap.size + 1 + 1), 8, none⟩ (.slice a4 p.an c4)) w.heap.size (jjP p)) := ⟨HP2.out.oth (by omega) 8 (.slice a4 p.an c4)⟩
 have HB3 : Hk (Below w.heap.size w (z.setCell ⟨(w.heap.size + 1 + 1), 8, none⟩ (.slice a4 p.an c4))) := ⟨HB2.out.setCell (p := ⟨(w.heap.size + 1 + 1), 8, none⟩) (by show w.heap.size ≤ (w.heap.size + 1 + 1); omega) (.slice a4 p.an c4)⟩
 have HF3 : Hk (Fr (fun j => j < (w.heap.size + 3)) z (z.setCell ⟨(w.heap.size + 1 + 1), 8, none⟩ (.slice a4 p.an c4))) := ⟨Fr.setCell (p := ⟨(w.heap.size + 1 + 1), 8, none⟩) (Fr.refl _ z) (fun _ => by show (w.heap.size + 1 + 1) < (w.heap.size + 3); omega) (.slice a4 p.an c4)⟩
 replace HO1 : Hk (OwN (z.setCell ⟨(w.heap.size + 1 + 1), 8, none⟩ (.slice a4 p.an c4)) (w.heap.size + 3) (.slice a1 p.mn c1) p.mn Q1) := ⟨OwN.up HO1.out HF3.out (fun j hj e => by omega)⟩
 replace HO2 : Hk (OwN (z.setCell ⟨(w.heap.size + 1 + 1), 8, none⟩ (.slice a4 p.an c4)) (w.heap.size + 3) (.slice a2 p.ln c2) p.ln Q2) := ⟨OwN.up HO2.out HF3.out (fun j hj e => by omega)⟩
 replace HO3 : Hk (OwnI (z.setCell ⟨(w.heap.size + 1 + 1), 8, none⟩ (.slice a4 p.an c4)) N3 (.slice a3 p.hn c3) p.hn p.hl) := ⟨Fr.owni HO3.out HF3.out (fun j hj e => by have := (HO3.out.lt j hj).1; have := HN3.out; omega)⟩
 replace HO4 : Hk (OwnI (z.setCell ⟨(w.heap.size + 1 + 1), 8, none⟩ (.slice a4 p.an c4)) N4 (.slice a4 p.an c4) p.an p.al) := ⟨Fr.owni HO4.out HF3.out (fun j hj e => by have := (HO4.out.lt j hj).1; have := HN3.out; have := HN4.out; omega)⟩
 have HSV2 : Hk (N4 ≤ (z.setCell ⟨(w.heap.size + 1 + 1), 8, none⟩ (.slice a4 p.an c4)).heap.size) := ⟨by simpa using HSZ.out⟩
 clear HX HZ HB cx fx lx r8 rl HX2 HZ2 HB2 HSZ HSV HF3 HP HP2
 generalize (z.setCell ⟨(w.heap.size + 1 + 1), 8, none⟩ (.slice a4 p.an c4)) = V2 at *
 obtain ⟨HX, HZ, HB, HSV, HP⟩ : (Hk (Bk V2 (w.heap.size + 1 + 1) #[.int .i64 p.i, .int .i64 p.n, .int .i64 p.d, .int .i64 p.t, .int .i64 p.s, .slice a1 p.mn c1, .slice a2 p.ln c2, .slice a3 p.hn c3, .slice a4 p.an c4, .slice p.xa p.xn p.xc, .bool p.b])) ∧ (Hk (Bk V2 (w.heap.size + 1) jjZ)) ∧ (Hk (Below w.heap.size w V2)) ∧ (Hk (N4 ≤ V2.heap.size)) ∧ (Hk (Bk V2 w.heap.size (jjP p))) := ⟨HX3, HZ3, HB3, HSV2, HP3⟩
 clear HX3 HZ3 HB3 HSV2 HP3 V z
 rename World => V
 have r9 := HP.out.c 9
 have rl := HP.out.lt
 try simp at r9
 go_upto_region 7 with (go_at_call 28; (with_reducible refine (copyu_any p.xa p.xn p.xc p.xl _ (HH.out.later HB.out).x (by omega)).mono ?_); rintro e z ⟨v, rfl, ho, hb⟩; obtain ⟨a5, c5, rfl, -⟩ := ho.form; have HO5 : Hk (Ow shU 41 z (w.heap.size + 3) (.slice a5 p.xn c5) p.xn p.xl) := ⟨(ho).weak (Nat.le_trans HN3.out (Nat.le_trans HN4.out HSV.out))⟩; replace HO1 := Hk.mk (HO1.out.below hb); replace HO2 := Hk.mk (HO2.out.below hb); replace HO3 := Hk.mk (HO3.out.below hb); replace HO4 := Hk.mk (HO4.out.below hb); have HB2 := Hk.mk (HB.out.trans (hb.mono HB.out.size)); have HX2 := Hk.mk (HX.out.below hb); have HZ2 := Hk.mk (HZ.out.below hb); have HP2 := Hk.mk (HP.out.below hb); have cx := HX2.out.c 9; have fx := HX2.out.f 9; have lx := HX2.out.lt; have HSZ := Hk.mk (Nat.le_trans HSV.out hb.size); clear ho hb)
 have HX3 : Hk (Bk (z.setCell ⟨(w.heap.size + 1 + 1), 9, none⟩ (.slice a5 p.xn c5)) (w.heap.size + 1 + 1) #[.int .i64 p.i, .int .i64 p.n, .int .i64 p.d, .int .i64 p.t, .int .i64 p.s, .slice a1 p.mn c1, .slice a2 p.ln c2, .slice a3 p.hn c3, .slice a4 p.an c4, .slice a5 p.xn c5, .bool p.b]) := ⟨HX2.out.set 9 (.slice a5 p.xn c5)⟩
 have HZ3 : Hk (Bk (z.setCell ⟨(w.heap.size + 1 + 1), 9, none⟩ (.slice a5 p.xn c5)) (w.heap.size + 1) jjZ) := ⟨HZ2.out.oth (by omega) 9 (.slice a5 p.xn c5)⟩
 have HP3 : Hk (Bk (z.setCell ⟨(w.heap.size + 1 + 1), 9, none⟩ (.slice a5 p.xn c5)) w.heap.size (jjP p)) := ⟨HP2.out.oth (by omega) 9 (.slice a5 p.xn c5)⟩
 have HB3 : Hk (Below w.heap.size w (z.setCell ⟨(w.heap.size + 1 + 1), 9, none⟩ (.slice a5 p.xn c5))) := ⟨HB2.out.setCell (p := ⟨(w.heap.size + 1 + 1), 9, none⟩) (by show w.heap.size ≤ (w.heap.size + 1 + 1); omega) (.slice a5 p.xn c5)⟩
 have HF3 : Hk (Fr (fun j => j < (w.heap.size + 3)) z (z.setCell ⟨(w.heap.size + 1 + 1), 9, none⟩ (.slice a5 p.xn c5))) := ⟨Fr.setCell (p := ⟨(w.heap.size + 1 + 1), 9, none⟩) (Fr.refl _ z) (fun _ => by show (w.heap.size + 1 + 1) < (w.heap.size + 3); omega) (.slice a5 p.xn c5)⟩
 replace HO1 : Hk (OwN (z.setCell ⟨(w.heap.size + 1 + 1), 9, none⟩ (.slice a5 p.xn c5)) (w.heap.size + 3) (.slice a1 p.mn c1) p.mn Q1) := ⟨OwN.up HO1.out HF3.out (fun j hj e => by omega)⟩
 replace HO2 : Hk (OwN (z.setCell ⟨(w.heap.size + 1 + 1), 9, none⟩ (.slice a5 p.xn c5)) (w.heap.size + 3) (.slice a2 p.ln c2) p.ln Q2) := ⟨OwN.up HO2.out HF3.out (fun j hj e => by omega)⟩
 replace HO3 : Hk (OwnI (z.setCell ⟨(w.heap.size + 1 + 1), 9, none⟩ (.slice a5 p.xn c5)) N3 (.slice a3 p.hn c3) p.hn p.hl) := ⟨Fr.owni HO3.out HF3.out (fun j hj e => by have := (HO3.out.lt j hj).1; have := HN3.out; omega)⟩
 replace HO4 : Hk (OwnI (z.setCell ⟨(w.heap.size + 1 + 1), 9, none⟩ (.slice a5 p.xn c5)) N4 (.slice a4 p.an c4) p.an p.al) := ⟨Fr.owni HO4.out HF3.out (fun j hj e => by have := (HO4.out.lt j hj).1; have := HN3.out; have := HN4.out; omega)⟩
 replace HO5 : Hk (Ow shU 41 (z.setCell ⟨(w.heap.size + 1 + 1), 9, none⟩ (.slice a5 p.xn c5)) (w.heap.size + 3) (.slice a5 p.xn c5) p.xn p.xl) := ⟨Ow.fr HO5.out HF3.out (fun j hj e => by have := (HO5.out.lt j hj).1; omega)⟩
 have HSV2 : Hk (N4 ≤ (z.setCell ⟨(w.heap.size + 1 + 1), 9, none⟩ (.slice a5 p.xn c5)).heap.size) := ⟨by simpa using HSZ.out⟩
 clear HX HZ HB cx fx lx r9 rl HX2 HZ2 HB2 HSZ HSV HF3 HP HP2
 generalize (z.setCell ⟨(w.heap.size + 1 + 1), 9, none⟩ (.slice a5 p.xn c5)) = V2 at *
 obtain ⟨HX, HZ, HB, HSV, HP⟩ : (Hk (Bk V2 (w.heap.size + 1 + 1) #[.int .i64 p.i, .int .i64 p.n, .int .i64 p.d, .int .i64 p.t, .int .i64 p.s, .slice a1 p.mn c1, .slice a2 p.ln c2, .slice a3 p.hn c3, .slice a4 p.an c4, .slice a5 p.xn c5, .bool p.b])) ∧ (Hk (Bk V2 (w.heap.size + 1) jjZ)) ∧ (Hk (Below w.heap.size w V2)) ∧ (Hk (N4 ≤ V2.heap.size)) ∧ (Hk (Bk V2 w.heap.size (jjP p))) := ⟨HX3, HZ3, HB3, HSV2, HP3⟩
 clear HX3 HZ3 HB3 HSV2 HP3 V z
 rename World => V
 have x0 := HX.out.c 0
 have z0 := HZ.out.c 0
 have g0 := HZ.out.f 0
 have x1 := HX.out.c 1
 have z1 := HZ.out.c 1
 have g1 := HZ.out.f 1
 have x2 := HX.out.c 2
 have z2 := HZ.out.c 2
 have g2 := HZ.out.f 2
 have x3 := HX.out.c 3
 have z3 := HZ.out.c 3
 have g3 := HZ.out.f 3
 have x4 := HX.out.c 4
 have z4 := HZ.out.c 4
 have g4 := HZ.out.f 4
 have x5 := HX.out.c 5
 have z5 := HZ.out.c 5
 have g5 := HZ.out.f 5
 have x6 := HX.out.c 6
 have z6 := HZ.out.c 6
 have g6 := HZ.out.f 6
 have x7 := HX.out.c 7
 have z7 := HZ.out.c 7
 have g7 := HZ.out.f 7
 have x8 := HX.out.c 8
 have z8 := HZ.out.c 8
 have g8 := HZ.out.f 8
 have x9 := HX.out.c 9
 have z9 := HZ.out.c 9
 have g9 := HZ.out.f 9
 have x10 := HX.out.c 10
 have z10 := HZ.out.c 10
 have g10 := HZ.out.f 10
 simp at x0 z0 x1 z1 x2 z2 x3 z3 x4 z4 x5 z5 x6 z6 x7 z7 x8 z8 x9 z9 x10 z10
 have hxl := HX.out.lt
 have hzl := HZ.out.lt
 go_wp2
 refine bodyPost_ret (v := .agg #[.int .i64 p.i, .int .i64 p.n, .int .i64 p.d, .int .i64 p.t, .int .i64 p.s, .slice a1 p.mn c1, .slice a2 p.ln c2, .slice a3 p.hn c3, .slice a4 p.an c4, .slice a5 p.xn c5, .bool p.b]) (by simp [results, Tryz.results11, go_sem, z0, z1, z2, z3, z4, z5, z6, z7, z8, z9, z10]) rfl ⟨{ p with ma := a1, mc := c1, ml := Q1, la := a2, lc := c2, ll := Q2, ha := a3, hc := c3, aa := a4, ac := c4, xa := a5, xc := c5 }, N3, N4, rfl, ⟨?_, ?_, ?_, ?_, ?_⟩, ⟨?_, ?_, ?_, ?_, ?_, HN4.out, HDJ.out⟩, by have := HN3.out; omega, by show Pm.mk _ _ _ _ _ _ _ _ _ _ _ = Pm.mk _ _ _ _ _ _ _ _ _ _ _; rw [HA1.out, HA2.out], rfl, rfl, rfl, rfl, rfl, ?_⟩
 ·exact (OwN.up HO1.out (chn_lt (w := V) (P := (w.heap.size + 1)) (B := (w.heap.size + 3)) { p with ma := a1, mc := c1, ml := Q1, la := a2, lc := c2, ll := Q2, ha := a3, hc := c3, aa := a4, ac := c4, xa := a5, xc := c5 } (by omega)) (fun j hj e => by omega)).weak (by omega)
 ·exact (OwN.up HO2.out (chn_lt (w := V) (P := (w.heap.size + 1)) (B := (w.heap.size + 3)) { p with ma := a1, mc := c1, ml := Q1, la := a2, lc := c2, ll := Q2, ha := a3, hc := c3, aa := a4, ac := c4, xa := a5, xc := c5 } (by omega)) (fun j hj e => by omega)).weak (by omega)
 ·exact (Fr.owni HO3.out (chn_lt (w := V) (P := (w.heap.size + 1)) (B := (w.heap.size + 3)) { p with ma := a1, mc := c1, ml := Q1, la := a2, lc := c2, ll := Q2, ha := a3, hc := c3, aa := a4, ac := c4, xa := a5, xc := c5 } (by omega)) (fun j hj e => by have := (HO3.out.lt j hj).1; have := HN3.out; omega)).weak (by have := HN3.out; omega)
 ·exact (Fr.owni HO4.out (chn_lt (w := V) (P := (w.heap.size + 1)) (B := (w.heap.size + 3)) { p with ma := a1, mc := c1, ml := Q1, la := a2, lc := c2, ll := Q2, ha := a3, hc := c3, aa := a4, ac := c4, xa := a5, xc := c5 } (by omega)) (fun j hj e => by have := (HO4.out.lt j hj).1; have := HN3.out; have := HN4.out; omega)).weak (by have := HN3.out; have := HN4.out; omega)
 ·exact (Ow.fr HO5.out (chn_lt (w := V) (P := (w.heap.size + 1)) (B := (w.heap.size + 3)) { p with ma := a1, mc := c1, ml := Q1, la := a2, lc := c2, ll := Q2, ha := a3, hc := c3, aa := a4, ac := c4, xa := a5, xc := c5 } (by omega)) (fun j hj e => by have := (HO5.out.lt j hj).1; omega)).weak (by omega)
 ·exact (OwN.up HO1.out (chn_lt (w := V) (P := (w.heap.size + 1)) (B := (w.heap.size + 3)) { p with ma := a1, mc := c1, ml := Q1, la := a2, lc := c2, ll := Q2, ha := a3, hc := c3, aa := a4, ac := c4, xa := a5, xc := c5 } (by omega)) (fun j hj e => by omega)).d.re HD1.out
 ·exact (OwN.up HO2.out (chn_lt (w := V) (P := (w.heap.size + 1)) (B := (w.heap.size + 3)) { p with ma := a1, mc := c1, ml := Q1, la := a2, lc := c2, ll := Q2, ha := a3, hc := c3, aa := a4, ac := c4, xa := a5, xc := c5 } (by omega)) (fun j hj e => by omega)).d.re HD2.out
 ·exact Fr.owni HO3.out (chn_lt (w := V) (P := (w.heap.size + 1)) (B := (w.heap.size + 3)) { p with ma := a1, mc := c1, ml := Q1, la := a2, lc := c2, ll := Q2, ha := a3, hc := c3, aa := a4, ac := c4, xa := a5, xc := c5 } (by omega)) (fun j hj e => by have := (HO3.out.lt j hj).1; have := HN3.out; omega)
 ·exact (Fr.owni HO3.out (chn_lt (w := V) (P := (w.heap.size + 1)) (B := (w.heap.size + 3)) { p with ma := a1, mc := c1, ml := Q1, la := a2, lc := c2, ll := Q2, ha := a3, hc := c3, aa := a4, ac := c4, xa := a5, xc := c5 } (by omega)) (fun j hj e => by have := (HO3.out.lt j hj).1; have := HN3.out; omega)).nq2.re HD3.out
 ·exact Fr.owni HO4.out (chn_lt (w := V) (P := (w.heap.size + 1)) (B := (w.heap.size + 3)) { p with ma := a1, mc := c1, ml := Q1, la := a2, lc := c2, ll := Q2, ha := a3, hc := c3, aa := a4, ac := c4, xa := a5, xc := c5 } (by omega)) (fun j hj e => by have := (HO4.out.lt j hj).1; have := HN3.out; have := HN4.out; omega)
 ·exact chn_bl HB.out (P := (w.heap.size + 1)) { p with ma := a1, mc := c1, ml := Q1, la := a2, lc := c2, ll := Q2, ha := a3, hc := c3, aa := a4, ac := c4, xa := a5, xc := c5 } (by omega)
set_option maxRecDepth 100000 in
set_option maxHeartbeats 3200000 in
theorem cpq_any (p : Pv) (w : World) (h : PvD w w.heap.size p) (hs : PvS p) :
  Calls Tryz.prog 55 #[.agg (jjP p)] w (CpQ w p) := by
 have HH := Hk.mk h
 have HS := Hk.mk hs
 have hhn : p.hn ≤ 1048576 := hs.h
 have han : p.an ≤ 1048576 := hs.a
 have hxn : p.xn ≤ 1048576 := hs.x
 have HB : Hk (Below w.heap.size w ((w.alloc (.cells (jjP p) 26)).alloc (.cells jjZ 26))) := ⟨((Below.refl _ _).alloc (Nat.le_refl _) _).alloc (by simp) _⟩
 have HZ : Hk (Bk ((w.alloc (.cells (jjP p) 26)).alloc (.cells jjZ 26)) (w.heap.size + 1) jjZ) := ⟨by have := Bk.new (w.alloc (.cells (jjP p) 26)) jjZ 26; simpa using this⟩
 have HX : Hk (Bk ((w.alloc (.cells (jjP p) 26)).alloc (.cells jjZ 26)) w.heap.size (jjP p)) := ⟨(Bk.new w (jjP p) 26).al _⟩
 have hsz : w.heap.size + 2 ≤ ((w.alloc (.cells (jjP p) 26)).alloc (.cells jjZ 26)).heap.size := by simp
 clear h hs
 go_enter Tryz.func55, Tryz.ntmps55
 go_upto_region 1 with fail
 generalize ((w.alloc (.cells (jjP p) 26)).alloc (.cells jjZ 26)) = V at *
 have HSV := Hk.mk hsz
 clear hsz
 have r5 := HX.out.c 5
 have rl := HX.out.lt
 try simp at r5
 go_upto_region 2 with (go_at_call 86; (with_reducible refine (cpins_any p.ma p.mn p.mc p.ml _ (HH.out.later HB.out).m HS.out.m).mono ?_); rintro e z ⟨v, Q1, rfl, ho, hab, hb⟩; obtain ⟨a1, c1, rfl, -⟩ := ho.o.form; have HA1 := Hk.mk hab; clear hab; have HO1 : Hk (OwN z (w.heap.size + 2) (.slice a1 p.mn c1) p.mn Q1) := ⟨(ho).weak (HSV.out)⟩; have HB2 := Hk.mk (HB.out.trans (hb.mono HB.out.size)); have HX2 := Hk.mk (HX.out.below hb); have HZ2 := Hk.mk (HZ.out.below hb); have cx := HX2.out.c 5; have fx := HX2.out.f 5; have lx := HX2.out.lt; have HSZ := Hk.mk (Nat.le_trans HSV.out hb.size); clear ho hb)
 have HX3 : Hk (Bk (z.setCell ⟨w.heap.size, 5, none⟩ (.slice a1 p.mn c1)) w.heap.size #[.int .i64 p.i, .int .i64 p.n, .int .i64 p.d, .int .i64 p.t, .int .i64 p.s, .slice a1 p.mn c1, .slice p.la p.ln p.lc, .slice p.ha p.hn p.hc, .slice p.aa p.an p.ac, .slice p.xa p.xn p.xc, .bool p.b]) := ⟨HX2.out.set 5 (.slice a1 p.mn c1)⟩
 have HZ3 : Hk (Bk (z.setCell ⟨w.heap.size, 5, none⟩ (.slice a1 p.mn c1)) (w.heap.size + 1) jjZ) := ⟨HZ2.out.oth (by omega) 5 (.slice a1 p.mn c1)⟩
 have HB3 : Hk (Below w.heap.size w (z.setCell ⟨w.heap.size, 5, none⟩ (.slice a1 p.mn c1))) := ⟨HB2.out.setCell (p := ⟨w.heap.size, 5, none⟩) (by show w.heap.size ≤ w.heap.size; omega) (.slice a1 p.mn c1)⟩
 have HF3 : Hk (Fr (fun j => j < (w.heap.size + 2)) z (z.setCell ⟨w.heap.size, 5, none⟩ (.slice a1 p.mn c1))) := ⟨Fr.setCell (p := ⟨w.heap.size, 5, none⟩) (Fr.refl _ z) (fun _ => by show w.heap.size < (w.heap.size + 2); omega) (.slice a1 p.mn c1)⟩
 replace HO1 : Hk (OwN (z.setCell ⟨w.heap.size, 5, none⟩ (.slice a1 p.mn c1)) (w.heap.size + 2) (.slice a1 p.mn c1) p.mn Q1) := ⟨OwN.up HO1.out HF3.out (fun j hj e => by omega)⟩
 have HSV2 : Hk ((w.heap.size + 2) ≤ (z.setCell ⟨w.heap.size, 5, none⟩ (.slice a1 p.mn c1)).heap.size) := ⟨by simpa using HSZ.out⟩
 clear HX HZ HB cx fx lx r5 rl HX2 HZ2 HB2 HSZ HSV HF3
 generalize (z.setCell ⟨w.heap.size, 5, none⟩ (.slice a1 p.mn c1)) = V2 at *
 obtain ⟨HX, HZ, HB, HSV⟩ : (Hk (Bk V2 w.heap.size #[.int .i64 p.i, .int .i64 p.n, .int .i64 p.d, .int .i64 p.t, .int .i64 p.s, .slice a1 p.mn c1, .slice p.la p.ln p.lc, .slice p.ha p.hn p.hc, .slice p.aa p.an p.ac, .slice p.xa p.xn p.xc, .bool p.b])) ∧ (Hk (Bk V2 (w.heap.size + 1) jjZ)) ∧ (Hk (Below w.heap.size w V2)) ∧ (Hk ((w.heap.size + 2) ≤ V2.heap.size)) := ⟨HX3, HZ3, HB3, HSV2⟩
 clear HX3 HZ3 HB3 HSV2 V z
 rename World => V
 have HMJ : Hk (∀ j, Value.ownBlock (.slice a1 p.mn c1) = some j → j < V.heap.size) := ⟨fun j hj => (HO1.out.o.lt j hj).2⟩
 have r6 := HX.out.c 6
 have rl := HX.out.lt
 try simp at r6
 go_upto_region 3 with (go_at_call 86; (with_reducible refine (cpins_any p.la p.ln p.lc p.ll _ (HH.out.later HB.out).l HS.out.l).mono ?_); rintro e z ⟨v, Q2, rfl, ho, hab, hb⟩; obtain ⟨a2, c2, rfl, -⟩ := ho.o.form; have HA2 := Hk.mk hab; clear hab; have HO2 : Hk (OwN z (w.heap.size + 2) (.slice a2 p.ln c2) p.ln Q2) := ⟨(ho).weak (HSV.out)⟩; have HDJ : Hk (∀ j, Value.ownBlock (.slice a1 p.mn c1) = some j → ¬ Value.ownBlock (.slice a2 p.ln c2) = some j) := ⟨fun j h1 h2 => by have h3 := HMJ.out j h1; have h4 := (ho.o.lt j h2).1; omega⟩; clear HMJ; replace HO1 := Hk.mk (HO1.out.below hb); have HB2 := Hk.mk (HB.out.trans (hb.mono HB.out.size)); have HX2 := Hk.mk (HX.out.below hb); have HZ2 := Hk.mk (HZ.out.below hb); have cx := HX2.out.c 6; have fx := HX2.out.f 6; have lx := HX2.out.lt; have HSZ := Hk.mk (Nat.le_trans HSV.out hb.size); clear ho hb)
 have HX3 : Hk (Bk (z.setCell ⟨w.heap.size, 6, none⟩ (.slice a2 p.ln c2)) w.heap.size #[.int .i64 p.i, .int .i64 p.n, .int .i64 p.d, .int .i64 p.t, .int .i64 p.s, .slice a1 p.mn c1, .slice a2 p.ln c2, .slice p.ha p.hn p.hc, .slice p.aa p.an p.ac, .slice p.xa p.xn p.xc, .bool p.b]) := ⟨HX2.out.set 6 (.slice a2 p.ln c2)⟩
 have HZ3 : Hk (Bk (z.setCell ⟨w.heap.size, 6, none⟩ (.slice a2 p.ln c2)) (w.heap.size + 1) jjZ) := ⟨HZ2.out.oth (by omega) 6 (.slice a2 p.ln c2)⟩
 have HB3 : Hk (Below w.heap.size w (z.setCell ⟨w.heap.size, 6, none⟩ (.slice a2 p.ln c2))) := ⟨HB2.out.setCell (p := ⟨w.heap.size, 6, none⟩) (by show w.heap.size ≤ w.heap.size; omega) (.slice a2 p.ln c2)⟩
 have HF3 : Hk (Fr (fun j => j < (w.heap.size + 2)) z (z.setCell ⟨w.heap.size, 6, none⟩ (.slice a2 p.ln c2))) := ⟨Fr.setCell (p := ⟨w.heap.size, 6, none⟩) (Fr.refl _ z) (fun _ => by show w.heap.size < (w.heap.size + 2); omega) (.slice a2 p.ln c2)⟩
 replace HO1 : Hk (OwN (z.setCell ⟨w.heap.size, 6, none⟩ (.slice a2 p.ln c2)) (w.heap.size + 2) (.slice a1 p.mn c1) p.mn Q1) := ⟨OwN.up HO1.out HF3.out (fun j hj e => by omega)⟩
 replace HO2 : Hk (OwN (z.setCell ⟨w.heap.size, 6, none⟩ (.slice a2 p.ln c2)) (w.heap.size + 2) (.slice a2 p.ln c2) p.ln Q2) := ⟨OwN.up HO2.out HF3.out (fun j hj e => by omega)⟩
 have HSV2 : Hk ((w.heap.size + 2) ≤ (z.setCell ⟨w.heap.size, 6, none⟩ (.slice a2 p.ln c2)).heap.size) := ⟨by simpa using HSZ.out⟩
 clear HX HZ HB cx fx lx r6 rl HX2 HZ2 HB2 HSZ HSV HF3
 generalize (z.setCell ⟨w.heap.size, 6, none⟩ (.slice a2 p.ln c2)) = V2 at *
 obtain ⟨HX, HZ, HB, HSV⟩ : (Hk (Bk V2 w.heap.size #[.int .i64 p.i, .int .i64 p.n, .int .i64 p.d, .int .i64 p.t, .int .i64 p.s, .slice a1 p.mn c1, .slice a2 p.ln c2, .slice p.ha p.hn p.hc, .slice p.aa p.an p.ac, .slice p.xa p.xn p.xc, .bool p.b])) ∧ (Hk (Bk V2 (w.heap.size + 1) jjZ)) ∧ (Hk (Below w.heap.size w V2)) ∧ (Hk ((w.heap.size + 2) ≤ V2.heap.size)) := ⟨HX3, HZ3, HB3, HSV2⟩
 clear HX3 HZ3 HB3 HSV2 V z
 rename World => V
 obtain ⟨N3, hN3⟩ : ∃ N, N = V.heap.size := ⟨_, rfl⟩
 have HN3 : Hk ((w.heap.size + 2) ≤ N3) := ⟨by rw [hN3]; exact HSV.out⟩
 have HD1 : Hk (∃ W0, InD W0 N3 a1 p.mn Q1) := ⟨V, by rw [hN3]; exact HO1.out.d⟩
 have HD2 : Hk (∃ W0, InD W0 N3 a2 p.ln Q2) := ⟨V, by rw [hN3]; exact HO2.out.d⟩
 clear HSV
 have HSV : Hk (N3 ≤ V.heap.size) := ⟨by rw [hN3]; exact Nat.le_refl _⟩
 clear hN3
 have r7 := HX.out.c 7
 have rl := HX.out.lt
 try simp at r7
 go_upto_region 4 with (go_at_call 87; (with_reducible refine (clonez_any p.ha p.hn p.hc V.heap.size p.hl _ (HH.out.later HB.out).h.qv (Nat.le_refl _) (by omega)).mono ?_); rintro e z ⟨v, rfl, ho, hb⟩; obtain ⟨a3, c3, rfl, -⟩ := ho.form; have HO3 : Hk (OwnI z N3 (.slice a3 p.hn c3) p.hn p.hl) := ⟨(ho.owni).weak (HSV.out)⟩; replace HO1 := Hk.mk (HO1.out.below hb); replace HO2 := Hk.mk (HO2.out.below hb); have HB2 := Hk.mk (HB.out.trans (hb.mono HB.out.size)); have HX2 := Hk.mk (HX.out.below hb); have HZ2 := Hk.mk (HZ.out.below hb); have cx := HX2.out.c 7; have fx := HX2.out.f 7; have lx := HX2.out.lt; have HSZ := Hk.mk (Nat.le_trans HSV.out hb.size); clear ho hb)
 have HX3 : Hk (Bk (z.setCell ⟨w.heap.size, 7, none⟩ (.slice a3 p.hn c3)) w.heap.size #[.int .i64 p.i, .int .i64 p.n, .int .i64 p.d, .int .i64 p.t, .int .i64 p.s, .slice a1 p.mn c1, .slice a2 p.ln c2, .slice a3 p.hn c3, .slice p.aa p.an p.ac, .slice p.xa p.xn p.xc, .bool p.b]) := ⟨HX2.out.set 7 (.slice a3 p.hn c3)⟩
 have HZ3 : Hk (Bk (z.setCell ⟨w.heap.size, 7, none⟩ (.slice a3 p.hn c3)) (w.heap.size + 1) jjZ) := ⟨HZ2.out.oth (by omega) 7 (.slice a3 p.hn c3)⟩
 have HB3 : Hk (Below w.heap.size w (z.setCell ⟨w.heap.size, 7, none⟩ (.slice a3 p.hn c3))) := ⟨HB2.out.setCell (p := ⟨w.heap.size, 7, none⟩) (by show w.heap.size ≤ w.heap.size; omega) (.slice a3 p.hn c3)⟩
 have HF3 : Hk (Fr (fun j => j < (w.heap.size + 2)) z (z.setCell ⟨w.heap.size, 7, none⟩ (.slice a3 p.hn c3))) := ⟨Fr.setCell (p := ⟨w.heap.size, 7, none⟩) (Fr.refl _ z) (fun _ => by show w.heap.size < (w.heap.size + 2); omega) (.slice a3 p.hn c3)⟩
 replace HO1 : Hk (OwN (z.setCell ⟨w.heap.size, 7, none⟩ (.slice a3 p.hn c3)) (w.heap.size + 2) (.slice a1 p.mn c1) p.mn Q1) := ⟨OwN.up HO1.out HF3.out (fun j hj e => by omega)⟩
 replace HO2 : Hk (OwN (z.setCell ⟨w.heap.size, 7, none⟩ (.slice a3 p.hn c3)) (w.heap.size + 2) (.slice a2 p.ln c2) p.ln Q2) := ⟨OwN.up HO2.out HF3.out (fun j hj e => by omega)⟩
 replace HO3 : Hk (OwnI (z.setCell ⟨w.heap.size, 7, none⟩ (.slice a3 p.hn c3)) N3 (.slice a3 p.hn c3) p.hn p.hl) := ⟨Fr.owni HO3.out HF3.out (fun j hj e => by have := (HO3.out.lt j hj).1; have := HN3.out; omega)⟩
 have HSV2 : Hk (N3 ≤ (z.setCell ⟨w.heap.size, 7, none⟩ (.slice a3 p.hn c3)).heap.size) := ⟨by simpa using HSZ.out⟩
 clear HX HZ HB cx fx lx r7 rl HX2 HZ2 HB2 HSZ HSV HF3
 generalize (z.setCell ⟨w.heap.size, 7, none⟩ (.slice a3 p.hn c3)) = V2 at *
 obtain ⟨HX, HZ, HB, HSV⟩ : (Hk (Bk V2 w.heap.size #[.int .i64 p.i, .int .i64 p.n, .int .i64 p.d, .int .i64 p.t, .int .i64 p.s, .slice a1 p.mn c1, .slice a2 p.ln c2, .slice a3 p.hn c3, .slice p.aa p.an p.ac, .slice p.xa p.xn p.xc, .bool p.b])) ∧ (Hk (Bk V2 (w.heap.size + 1) jjZ)) ∧ (Hk (Below w.heap.size w V2)) ∧ (Hk (N3 ≤ V2.heap.size)) := ⟨HX3, HZ3, HB3, HSV2⟩
 clear HX3 HZ3 HB3 HSV2 V z
 rename World => V
 obtain ⟨N4, hN4⟩ : ∃ N, N = V.heap.size := ⟨_, rfl⟩
 have HN4 : Hk (N3 ≤ N4) := ⟨by rw [hN4]; exact HSV.out⟩
 have HD3 : Hk (∃ W0, Nq W0 N4 a3 p.hn p.hl) := ⟨V, by rw [hN4]; exact HO3.out.nq2⟩
 clear HSV
 have HSV : Hk (N4 ≤ V.heap.size) := ⟨by rw [hN4]; exact Nat.le_refl _⟩
 clear hN4
 have r8 := HX.out.c 8
 have rl := HX.out.lt
 try simp at r8
 go_upto_region 5 with (go_at_call 87; (with_reducible refine (clonez_any p.aa p.an p.ac V.heap.size p.al _ (HH.out.later HB.out).a.qv (Nat.le_refl _) (by omega)).mono ?_); rintro e z ⟨v, rfl, ho, hb⟩; obtain ⟨a4, c4, rfl, -⟩ := ho.form; have HO4 : Hk (OwnI z N4 (.slice a4 p.an c4) p.an p.al) := ⟨(ho.owni).weak (HSV.out)⟩; replace HO1 := Hk.mk (HO1.out.below hb); replace HO2 := Hk.mk (HO2.out.below hb); replace HO3 := Hk.mk (HO3.out.below hb); have HB2 := Hk.mk (HB.out.trans (hb.mono HB.out.size)); have HX2 := Hk.mk (HX.out.below hb); have HZ2 := Hk.mk (HZ.out.below hb); have cx := HX2.out.c 8; have fx := HX2.out.f 8; have lx := HX2.out.lt; have HSZ := Hk.mk (Nat.le_trans HSV.out hb.size); clear ho hb)
 have HX3 : Hk (Bk (z.setCell ⟨w.heap.size, 8, none⟩ (.slice a4 p.an c4)) w.heap.size #[.int .i64 p.i, .int .i64 p.n, .int .i64 p.d, .int .i64 p.t, .int .i64 p.s, .slice a1 p.mn c1, .slice a2 p.ln c2, .slice a3 p.hn c3, .slice a4 p.an c4, .slice p.xa p.xn p.xc, .bool p.b]) := ⟨HX2.out.set 8 (.slice a4 p.an c4)⟩
 have HZ3 : Hk (Bk (z.setCell ⟨w.heap.size, 8, none⟩ (.slice a4 p.an c4)) (w.heap.size + 1) jjZ) := ⟨HZ2.out.oth (by omega) 8 (.slice a4 p.an c4)⟩
 have HB3 : Hk (Below w.heap.size w (z.setCell ⟨w.heap.size, 8, none⟩ (.slice a4 p.an c4))) := ⟨HB2.out.setCell (p := ⟨w.heap.size, 8, none⟩) (by show w.heap.size ≤ w.heap.size; omega) (.slice a4 p.an c4)⟩
 have HF3 : Hk (Fr (fun j => j < (w.heap.size + 2)) z (z.setCell ⟨w.heap.size, 8, none⟩ (.slice a4 p.an c4))) := ⟨Fr.setCell (p := ⟨w.heap.size, 8, none⟩) (Fr.refl _ z) (fun _ => by show w.heap.size < (w.heap.size + 2); omega) (.slice a4 p.an c4)⟩
 replace HO1 : Hk (OwN (z.setCell ⟨w.heap.size, 8, none⟩ (.slice a4 p.an c4)) (w.heap.size + 2) (.slice a1 p.mn c1) p.mn Q1) := ⟨OwN.up HO1.out HF3.out (fun j hj e => by omega)⟩
 replace HO2 : Hk (OwN (z.setCell ⟨w.heap.size, 8, none⟩ (.slice a4 p.an c4)) (w.heap.size + 2) (.slice a2 p.ln c2) p.ln Q2) := ⟨OwN.up HO2.out HF3.out (fun j hj e => by omega)⟩
 replace HO3 : Hk (OwnI (z.setCell ⟨w.heap.size, 8, none⟩ (.slice a4 p.an c4)) N3 (.slice a3 p.hn c3) p.hn p.hl) := ⟨Fr.owni HO3.out HF3.out (fun j hj e => by have := (HO3.out.lt j hj).1; have := HN3.out; omega)⟩
 replace HO4 : Hk (OwnI (z.setCell ⟨w.heap.size, 8, none⟩ (.slice a4 p.an c4)) N4 (.slice a4 p.an c4) p.an p.al) := ⟨Fr.owni HO4.out HF3.out (fun j hj e => by have := (HO4.out.lt j hj).1; have := HN3.out; have := HN4.out; omega)⟩
 have HSV2 : Hk (N4 ≤ (z.setCell ⟨w.heap.size, 8, none⟩ (.slice a4 p.an c4)).heap.size) := ⟨by simpa using HSZ.out⟩
 clear HX HZ HB cx fx lx r8 rl HX2 HZ2 HB2 HSZ HSV HF3
 generalize (z.setCell ⟨w.heap.size, 8, none⟩ (.slice a4 p.an c4)) = V2 at *
 obtain ⟨HX, HZ, HB, HSV⟩ : (Hk (Bk V2 w.heap.size #[.int .i64 p.i, .int .i64 p.n, .int .i64 p.d, .int .i64 p.t, .int .i64 p.s, .slice a1 p.mn c1, .slice a2 p.ln c2, .slice a3 p.hn c3, .slice a4 p.an c4, .slice p.xa p.xn p.xc, .bool p.b])) ∧ (Hk (Bk V2 (w.heap.size + 1) jjZ)) ∧ (Hk (Below w.heap.size w V2)) ∧ (Hk (N4 ≤ V2.heap.size)) := ⟨HX3, HZ3, HB3, HSV2⟩
 clear HX3 HZ3 HB3 HSV2 V z
 rename World => V
 have r9 := HX.out.c 9
 have rl := HX.out.lt
 try simp at r9
 go_upto_region 6 with (go_at_call 88; (with_reducible refine (cloneu_any p.xa p.xn p.xc V.heap.size p.xl _ (HH.out.later HB.out).x (Nat.le_refl _) (by omega)).mono ?_); rintro e z ⟨v, rfl, ho, hb⟩; obtain ⟨a5, c5, rfl, -⟩ := ho.form; have HO5 : Hk (Ow shU 41 z (w.heap.size + 2) (.slice a5 p.xn c5) p.xn p.xl) := ⟨(ho).weak (Nat.le_trans HN3.out (Nat.le_trans HN4.out HSV.out))⟩; replace HO1 := Hk.mk (HO1.out.below hb); replace HO2 := Hk.mk (HO2.out.below hb); replace HO3 := Hk.mk (HO3.out.below hb); replace HO4 := Hk.mk (HO4.out.below hb); have HB2 := Hk.mk (HB.out.trans (hb.mono HB.out.size)); have HX2 := Hk.mk (HX.out.below hb); have HZ2 := Hk.mk (HZ.out.below hb); have cx := HX2.out.c 9; have fx := HX2.out.f 9; have lx := HX2.out.lt; have HSZ := Hk.mk (Nat.le_trans HSV.out hb.size); clear ho hb)
 have HX3 : Hk (Bk (z.setCell ⟨w.heap.size, 9, none⟩ (.slice a5 p.xn c5)) w.heap.size #[.int .i64 p.i, .int .i64 p.n, .int .i64 p.d, .int .i64 p.t, .int .i64 p.s, .slice a1 p.mn c1, .slice a2 p.ln c2, .slice a3 p.hn c3, .slice a4 p.an c4, .slice a5 p.xn c5, .bool p.b]) := ⟨HX2.out.set 9 (.slice a5 p.xn c5)⟩
 have HZ3 : Hk (Bk (z.setCell ⟨w.heap.size, 9, none⟩ (.slice a5 p.xn c5)) (w.heap.size + 1) jjZ) := ⟨HZ2.out.oth (by omega) 9 (.slice a5 p.xn c5)⟩
 have HB3 : Hk (Below w.heap.size w (z.setCell ⟨w.heap.size, 9, none⟩ (.slice a5 p.xn c5))) := ⟨HB2.out.setCell (p := ⟨w.heap.size, 9, none⟩) (by show w.heap.size ≤ w.heap.size; omega) (.slice a5 p.xn c5)⟩
 have HF3 : Hk (Fr (fun j => j < (w.heap.size + 2)) z (z.setCell ⟨w.heap.size, 9, none⟩ (.slice a5 p.xn c5))) := ⟨Fr.setCell (p := ⟨w.heap.size, 9, none⟩) (Fr.refl _ z) (fun _ => by show w.heap.size < (w.heap.size + 2); omega) (.slice a5 p.xn c5)⟩
 replace HO1 : Hk (OwN (z.setCell ⟨w.heap.size, 9, none⟩ (.slice a5 p.xn c5)) (w.heap.size + 2) (.slice a1 p.mn c1) p.mn Q1) := ⟨OwN.up HO1.out HF3.out (fun j hj e => by omega)⟩
 replace HO2 : Hk (OwN (z.setCell ⟨w.heap.size, 9, none⟩ (.slice a5 p.xn c5)) (w.heap.size + 2) (.slice a2 p.ln c2) p.ln Q2) := ⟨OwN.up HO2.out HF3.out (fun j hj e => by omega)⟩
 replace HO3 : Hk (OwnI (z.setCell ⟨w.heap.size, 9, none⟩ (.slice a5 p.xn c5)) N3 (.slice a3 p.hn c3) p.hn p.hl) := ⟨Fr.owni HO3.out HF3.out (fun j hj e => by have := (HO3.out.lt j hj).1; have := HN3.out; omega)⟩
 replace HO4 : Hk (OwnI (z.setCell ⟨w.heap.size, 9, none⟩ (.slice a5 p.xn c5)) N4 (.slice a4 p.an c4) p.an p.al) := ⟨Fr.owni HO4.out HF3.out (fun j hj e => by have := (HO4.out.lt j hj).1; have := HN3.out; have := HN4.out; omega)⟩
 replace HO5 : Hk (Ow shU 41 (z.setCell ⟨w.heap.size, 9, none⟩ (.slice a5 p.xn c5)) (w.heap.size + 2) (.slice a5 p.xn c5) p.xn p.xl) := ⟨Ow.fr HO5.out HF3.out (fun j hj e => by have := (HO5.out.lt j hj).1; omega)⟩
 have HSV2 : Hk (N4 ≤ (z.setCell ⟨w.heap.size, 9, none⟩ (.slice a5 p.xn c5)).heap.size) := ⟨by simpa using HSZ.out⟩
 clear HX HZ HB cx fx lx r9 rl HX2 HZ2 HB2 HSZ HSV HF3
 generalize (z.setCell ⟨w.heap.size, 9, none⟩ (.slice a5 p.xn c5)) = V2 at *
 obtain ⟨HX, HZ, HB, HSV⟩ : (Hk (Bk V2 w.heap.size #[.int .i64 p.i, .int .i64 p.n, .int .i64 p.d, .int .i64 p.t, .int .i64 p.s, .slice a1 p.mn c1, .slice a2 p.ln c2, .slice a3 p.hn c3, .slice a4 p.an c4, .slice a5 p.xn c5, .bool p.b])) ∧ (Hk (Bk V2 (w.heap.size + 1) jjZ)) ∧ (Hk (Below w.heap.size w V2)) ∧ (Hk (N4 ≤ V2.heap.size)) := ⟨HX3, HZ3, HB3, HSV2⟩
 clear HX3 HZ3 HB3 HSV2 V z
 rename World => V
 have x0 := HX.out.c 0
 have z0 := HZ.out.c 0
 have g0 := HZ.out.f 0
 have x1 := HX.out.c 1
 have z1 := HZ.out.c 1
 have g1 := HZ.out.f 1
 have x2 := HX.out.c 2
 have z2 := HZ.out.c 2
 have g2 := HZ.out.f 2
 have x3 := HX.out.c 3
 have z3 := HZ.out.c 3
 have g3 := HZ.out.f 3
 have x4 := HX.out.c 4
 have z4 := HZ.out.c 4
 have g4 := HZ.out.f 4
 have x5 := HX.out.c 5
 have z5 := HZ.out.c 5
 have g5 := HZ.out.f 5
 have x6 := HX.out.c 6
 have z6 := HZ.out.c 6
 have g6 := HZ.out.f 6
 have x7 := HX.out.c 7
 have z7 := HZ.out.c 7
 have g7 := HZ.out.f 7
 have x8 := HX.out.c 8
 have z8 := HZ.out.c 8
 have g8 := HZ.out.f 8
 have x9 := HX.out.c 9
 have z9 := HZ.out.c 9
 have g9 := HZ.out.f 9
 have x10 := HX.out.c 10
 have z10 := HZ.out.c 10
 have g10 := HZ.out.f 10
 simp at x0 z0 x1 z1 x2 z2 x3 z3 x4 z4 x5 z5 x6 z6 x7 z7 x8 z8 x9 z9 x10 z10
 have hxl := HX.out.lt
 have hzl := HZ.out.lt
 go_wp2
 refine bodyPost_ret (v := .agg #[.int .i64 p.i, .int .i64 p.n, .int .i64 p.d, .int .i64 p.t, .int .i64 p.s, .slice a1 p.mn c1, .slice a2 p.ln c2, .slice a3 p.hn c3, .slice a4 p.an c4, .slice a5 p.xn c5, .bool p.b]) (by simp [results, Tryz.results55, go_sem, z0, z1, z2, z3, z4, z5, z6, z7, z8, z9, z10]) rfl ⟨{ p with ma := a1, mc := c1, ml := Q1, la := a2, lc := c2, ll := Q2, ha := a3, hc := c3, aa := a4, ac := c4, xa := a5, xc := c5 }, N3, N4, rfl, ⟨?_, ?_, ?_, ?_, ?_⟩, ⟨?_, ?_, ?_, ?_, ?_, HN4.out, HDJ.out⟩, by have := HN3.out; omega, by show Pm.mk _ _ _ _ _ _ _ _ _ _ _ = Pm.mk _ _ _ _ _ _ _ _ _ _ _; rw [HA1.out, HA2.out], rfl, rfl, rfl, rfl, rfl, ?_⟩
 ·exact (OwN.up HO1.out (chn_lt (w := V) (P := (w.heap.size + 1)) (B := (w.heap.size + 2)) { p with ma := a1, mc := c1, ml := Q1, la := a2, lc := c2, ll := Q2, ha := a3, hc := c3, aa := a4, ac := c4, xa := a5, xc := c5 } (by omega)) (fun j hj e => by omega)).weak (by omega)
 ·exact (OwN.up HO2.out (chn_lt (w := V) (P := (w.heap.size + 1)) (B := (w.heap.size + 2)) { p with ma := a1, mc := c1, ml := Q1, la := a2, lc := c2, ll := Q2, ha := a3, hc := c3, aa := a4, ac := c4, xa := a5, xc := c5 } (by omega)) (fun j hj e => by omega)).weak (by omega)
 ·exact (Fr.owni HO3.out (chn_lt (w := V) (P := (w.heap.size + 1)) (B := (w.heap.size + 2)) { p with ma := a1, mc := c1, ml := Q1, la := a2, lc := c2, ll := Q2, ha := a3, hc := c3, aa := a4, ac := c4, xa := a5, xc := c5 } (by omega)) (fun j hj e => by have := (HO3.out.lt j hj).1; have := HN3.out; omega)).weak (by have := HN3.out; omega)
 ·exact (Fr.owni HO4.out (chn_lt (w := V) (P := (w.heap.size + 1)) (B := (w.heap.size + 2)) { p with ma := a1, mc := c1, ml := Q1, la := a2, lc := c2, ll := Q2, ha := a3, hc := c3, aa := a4, ac := c4, xa := a5, xc := c5 } (by omega)) (fun j hj e => by have := (HO4.out.lt j hj).1; have := HN3.out; have := HN4.out; omega)).weak (by have := HN3.out; have := HN4.out; omega)
 ·exact (Ow.fr HO5.out (chn_lt (w := V) (P := (w.heap.size + 1)) (B := (w.heap.size + 2)) { p with ma := a1, mc := c1, ml := Q1, la := a2, lc := c2, ll := Q2, ha := a3, hc := c3, aa := a4, ac := c4, xa := a5, xc := c5 } (by omega)) (fun j hj e => by have := (HO5.out.lt j hj).1; omega)).weak (by omega)
 ·exact (OwN.up HO1.out (chn_lt (w := V) (P := (w.heap.size + 1)) (B := (w.heap.size + 2)) { p with ma := a1, mc := c1, ml := Q1, la := a2, lc := c2, ll := Q2, ha := a3, hc := c3, aa := a4, ac := c4, xa := a5, xc := c5 } (by omega)) (fun j hj e => by omega)).d.re HD1.out
 ·exact (OwN.up HO2.out (chn_lt (w := V) (P := (w.heap.size + 1)) (B := (w.heap.size + 2)) { p with ma := a1, mc := c1, ml := Q1, la := a2, lc := c2, ll := Q2, ha := a3, hc := c3, aa := a4, ac := c4, xa := a5, xc := c5 } (by omega)) (fun j hj e => by omega)).d.re HD2.out
 ·exact Fr.owni HO3.out (chn_lt (w := V) (P := (w.heap.size + 1)) (B := (w.heap.size + 2)) { p with ma := a1, mc := c1, ml := Q1, la := a2, lc := c2, ll := Q2, ha := a3, hc := c3, aa := a4, ac := c4, xa := a5, xc := c5 } (by omega)) (fun j hj e => by have := (HO3.out.lt j hj).1; have := HN3.out; omega)
 ·exact (Fr.owni HO3.out (chn_lt (w := V) (P := (w.heap.size + 1)) (B := (w.heap.size + 2)) { p with ma := a1, mc := c1, ml := Q1, la := a2, lc := c2, ll := Q2, ha := a3, hc := c3, aa := a4, ac := c4, xa := a5, xc := c5 } (by omega)) (fun j hj e => by have := (HO3.out.lt j hj).1; have := HN3.out; omega)).nq2.re HD3.out
 ·exact Fr.owni HO4.out (chn_lt (w := V) (P := (w.heap.size + 1)) (B := (w.heap.size + 2)) { p with ma := a1, mc := c1, ml := Q1, la := a2, lc := c2, ll := Q2, ha := a3, hc := c3, aa := a4, ac := c4, xa := a5, xc := c5 } (by omega)) (fun j hj e => by have := (HO4.out.lt j hj).1; have := HN3.out; have := HN4.out; omega)
 ·exact chn_bl HB.out (P := (w.heap.size + 1)) { p with ma := a1, mc := c1, ml := Q1, la := a2, lc := c2, ll := Q2, ha := a3, hc := c3, aa := a4, ac := c4, xa := a5, xc := c5 } (by omega)
theorem copyp_any (p : Pv) (w : World) (h : PvD w w.heap.size p) (hs : PvS p) :
  Calls Tryz.prog 11 #[.agg (jjP p)] w (CpP w p) := (copyq_any p w h hs).mono fun e z ⟨q, _, _, a1, a2, _, _, a5, a6, a7, a8, a9, a10, a11⟩ => ⟨q, a1, a2, a5, a6, a7, a8, a9, a10, a11⟩
end Go.Proofs.YtdpblimhfmfbnaaGreat
namespace Go.Proofs.YtdpblimhfmfbnaaGreat
open Go.ChangeShapes Go.WideShapes Go.ChangeAt Go.RowKit Go.Deep
def bndT (T : Int) : Option In → Int
 | none => 8
 | some a => if a.t < T then 8 else if a.t = T then 8 - a.p else 0
theorem PvO.fr {M : Nat → Prop} {w w' : World} {B : Nat} {p : Pv} (h : PvO w B p) (k : Fr M w w') (hm : ∀ j, B ≤ j → ¬ M j) : PvO w' B p :=
 ⟨h.m.up k hm, h.l.up k hm, Fr.owni h.h k fun j hj => hm j (h.h.lt j hj).1, Fr.owni h.a k fun j hj => hm j (h.a.lt j hj).1, Ow.fr h.x k fun j hj => hm j (h.x.lt j hj).1⟩
theorem PvS.like {w z : World} {B1 B2 : Nat} {p u : Pv} (hs : PvS p) (h : PvD w B1 p) (hu : PvD z B2 u) (hab : u.ab = p.ab) (e1 : u.mn = p.mn) (e2 : u.ln = p.ln) (e3 : u.hn = p.hn) (e4 : u.an = p.an) (e5 : u.xn = p.xn) : PvS u := by
 obtain ⟨-, -, -, -, -, a6, a7, -⟩ := (ab_iff u p).1 hab
 have l1 := congrArg List.length a6
 have l2 := congrArg List.length a7
 rw [abI_len, abI_len] at l1 l2
 exact ⟨smI_of hu.m h.m hs.m (fun x hx => by rw [← a6]; exact hx) (by omega), smI_of hu.l h.l hs.l (fun x hx => by rw [← a7]; exact hx) (by omega), by rw [e3]; exact hs.h, by rw [e4]; exact hs.a, by rw [e5]; exact hs.x⟩
theorem SmC.nil : SmC [] := ⟨Nat.zero_le _, fun x hx => by cases hx⟩
theorem ShC.nil (w : World) (B : Nat) : ShC w B none 0 0 := ⟨Nat.zero_le _, .inr ⟨rfl, rfl⟩⟩
structure StR (w V : World) (R : Nat) (X : World) : Prop where
 fr : Fr (fun j => j = R) V X
 bw : Below w.heap.size w X
theorem StR.call {w V X z : World} {R : Nat} (h : StR w V R X) (hb : Below X.heap.size X z) : StR w V R z := ⟨h.fr.trans (Fr.of_all hb), h.bw.trans (hb.mono h.bw.size)⟩
theorem StR.set {w V X : World} {R : Nat} (h : StR w V R X) (hR : w.heap.size ≤ R) (o : Nat) (v : Value) : StR w V R (X.setCell ⟨R, o, none⟩ v) := ⟨h.fr.setCell (fun _ => rfl) v, h.bw.setCell (p := ⟨R, o, none⟩) hR v⟩
theorem StR.cells {w V X : World} {R : Nat} (h : StR w V R X) : ∀ b o, b < V.heap.size → ¬ b = R → X.cell? ⟨b, o, none⟩ = V.cell? ⟨b, o, none⟩ := fun b o hb hn => h.fr.cell hb hn
theorem StR.s {w V X : World} {R : Nat} (h : StR w V R X) : (∀ b o, b < V.heap.size → ¬ b = R → X.cell? ⟨b, o, none⟩ = V.cell? ⟨b, o, none⟩) ∧ StR w V R X := ⟨h.cells, h⟩
theorem StR.start {w V : World} {R : Nat} (h : Below w.heap.size w V) : StR w V R V.drew := ⟨(Fr.refl _ _).drew, h.drew⟩
theorem StR.pd {w V X : World} {R B : Nat} {u : Pv} (h : StR w V R X) (ho : PvO V B u) (hR : R < B) : PvD X X.heap.size u := (ho.fr h.fr (fun j hj e => by omega)).d
end Go.Proofs.YtdpblimhfmfbnaaGreat
