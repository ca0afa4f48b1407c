import Derived.Deep.QuietTactic
import Derived.BigQuiet
import Derived.Deep.RegionWith
import Derived.Deep.RegionHeld3
import Derived.Deep.DeepCutAuto
import Derived.Deep.DeepFit
import Derived.Outline
import Derived.Maps.AppendAt
import Derived.Test.YtdpblimhfmfbnaaGreatZvan
import Derived.Test.YtdpblimhfmfbnaaGreatZva
set_option linter.unusedVariables false
set_option linter.unusedSimpArgs false
namespace Go.Proofs.YtdpblimhfmfbnaaGreat
open List renaming getElem_toArray → jjA, getElem_cons_succ → jjB, getElem_cons_zero → jjC, setIfInBounds_toArray → jjD, set_cons_zero → jjE, set_cons_succ → jjF
open Go.ChangeShapes Go.WideShapes Go.ChangeAt Go.RowKit Go.Deep
def NtD (w : World) (p : Pv) (e : Ending) (z : World) : Prop := ∃ a n c L, e = .returned (.slice a n c) ∧ OwNt z w.heap.size (.slice a n c) n L ∧ abN L = nsM p.ab p.n.toNat ∧ (∀ x, x ∈ L → SmC x.q.l) ∧ Below w.heap.size w z
set_option maxRecDepth 100000 in
set_option maxHeartbeats 6400000 in
theorem rnotes_yes (p : Pv) (w : World) (h : PvD w w.heap.size p) (hs : PvS p) (hk : OkP p.ab) :
  Calls Tryz.prog 41 #[.agg #[.int .i64 p.i, .int .i64 p.n, .int .i64 p.d, .int .i64 p.t, .int .i64 p.s, .slice p.ma p.mn p.mc, .slice p.la p.ln p.lc, .slice p.ha p.hn p.hc, .slice p.aa p.an p.ac, .slice p.xa p.xn p.xc, .bool p.b]] w (NtD w p) := by
 obtain ⟨i0, hi0, hz0, hz1, hz2⟩ := info_parts info_nt
 obtain ⟨N, hN⟩ : ∃ N : Nat, p.n = N := ⟨p.n.toNat, by have h1 := hk.c.n1; have e : p.ab.n = p.n := rfl; omega⟩
 have HN8 : Hk (1 ≤ N ∧ N ≤ 8 ∧ p.hn = N ∧ p.an = N) := ⟨by
  have h1 := hk.c.n1
  have h2 := hk.c.n2
  have e : p.ab.n = p.n := rfl
  have h3 := hk.k.h1
  have h4 := hk.k.a1
  have h5 : p.ab.h.length = p.hl.length := rfl
  have h6 : p.ab.a.length = p.al.length := rfl
  have h7 := h.h.len
  have h8 := h.a.len
  omega⟩
 have HTB : Hk (0 ≤ p.t ∧ p.t ≤ 1099511627776) := ⟨⟨hk.c.t1, hk.c.t2⟩⟩
 have HXB : Hk (p.xn ≤ 16 ∧ p.xl.length = p.xn) := ⟨by have h1 := hk.x1; have h2 := h.x.len; have h3 : p.ab.x.length = p.xl.length := rfl; omega⟩
 have HLKP : Hk (∀ k, k < p.an → LkP p k (minL p.al) (p.al.getD k 0)) := ⟨fun k hka => lkP_of h hk hka⟩
 have HML := Hk.mk h.m.q.len
 have HMN : Hk (p.mn ≤ 1048576) := ⟨by have := hs.m.n; rw [h.m.q.len] at this; exact this⟩
 have HNE := Hk.mk hN
 have HS := Hk.mk hs
 have HDP : Hk (∀ X, Below w.heap.size w X → PvD X X.heap.size p) := ⟨fun X hX => h.later hX⟩
 have HWB : Hk (Below w.heap.size w (w.alloc (.cells #[.int .i64 p.i, .int .i64 p.n, .int .i64 p.d, .int .i64 p.t, .int .i64 p.s, .slice p.ma p.mn p.mc, .slice p.la p.ln p.lc, .slice p.ha p.hn p.hc, .slice p.aa p.an p.ac, .slice p.xa p.xn p.xc, .bool p.b] 26))) := ⟨(Below.refl _ _).alloc (Nat.le_refl _) _⟩
 have hNW : (w.heap.size + 1) ≤ (w.alloc (.cells #[.int .i64 p.i, .int .i64 p.n, .int .i64 p.d, .int .i64 p.t, .int .i64 p.s, .slice p.ma p.mn p.mc, .slice p.la p.ln p.lc, .slice p.ha p.hn p.hc, .slice p.aa p.an p.ac, .slice p.xa p.xn p.xc, .bool p.b] 26)).heap.size := by simp
 have HB : Hk (Below (w.heap.size + 1) (w.alloc (.cells #[.int .i64 p.i, .int .i64 p.n, .int .i64 p.d, .int .i64 p.t, .int .i64 p.s, .slice p.ma p.mn p.mc, .slice p.la p.ln p.lc, .slice p.ha p.hn p.hc, .slice p.aa p.an p.ac, .slice p.xa p.xn p.xc, .bool p.b] 26)) (w.alloc (.cells #[.int .i64 p.i, .int .i64 p.n, .int .i64 p.d, .int .i64 p.t, .int .i64 p.s, .slice p.ma p.mn p.mc, .slice p.la p.ln p.lc, .slice p.ha p.hn p.hc, .slice p.aa p.an p.ac, .slice p.xa p.xn p.xc, .bool p.b] 26))) := ⟨Below.refl _ _⟩
 have HTR : Hk (∀ X, Below (w.heap.size + 1) (w.alloc (.cells #[.int .i64 p.i, .int .i64 p.n, .int .i64 p.d, .int .i64 p.t, .int .i64 p.s, .slice p.ma p.mn p.mc, .slice p.la p.ln p.lc, .slice p.ha p.hn p.hc, .slice p.aa p.an p.ac, .slice p.xa p.xn p.xc, .bool p.b] 26)) X → Below w.heap.size w X) := ⟨fun X hX => HWB.out.trans (hX.mono (by omega))⟩
 have HPB : Hk (Bk (w.alloc (.cells #[.int .i64 p.i, .int .i64 p.n, .int .i64 p.d, .int .i64 p.t, .int .i64 p.s, .slice p.ma p.mn p.mc, .slice p.la p.ln p.lc, .slice p.ha p.hn p.hc, .slice p.aa p.an p.ac, .slice p.xa p.xn p.xc, .bool p.b] 26)) w.heap.size #[.int .i64 p.i, .int .i64 p.n, .int .i64 p.d, .int .i64 p.t, .int .i64 p.s, .slice p.ma p.mn p.mc, .slice p.la p.ln p.lc, .slice p.ha p.hn p.hc, .slice p.aa p.an p.ac, .slice p.xa p.xn p.xc, .bool p.b]) := ⟨Bk.new w #[.int .i64 p.i, .int .i64 p.n, .int .i64 p.d, .int .i64 p.t, .int .i64 p.s, .slice p.ma p.mn p.mc, .slice p.la p.ln p.lc, .slice p.ha p.hn p.hc, .slice p.aa p.an p.ac, .slice p.xa p.xn p.xc, .bool p.b] 26⟩
 clear h hs hk HTR hN
 go_enter Tryz.func41, Tryz.ntmps41
 go_upto_region 1 with fail
 generalize (w.alloc (.cells #[.int .i64 p.i, .int .i64 p.n, .int .i64 p.d, .int .i64 p.t, .int .i64 p.s, .slice p.ma p.mn p.mc, .slice p.la p.ln p.lc, .slice p.ha p.hn p.hc, .slice p.aa p.an p.ac, .slice p.xa p.xn p.xc, .bool p.b] 26)) = V at *
 have c0 := HPB.out.c 0; have c1 := HPB.out.c 1; have c2 := HPB.out.c 2; have c3 := HPB.out.c 3; have c4 := HPB.out.c 4; have c5 := HPB.out.c 5; have c6 := HPB.out.c 6; have c7 := HPB.out.c 7; have c8 := HPB.out.c 8; have c9 := HPB.out.c 9; have c10 := HPB.out.c 10; have cl := HPB.out.lt; simp at c0 c1 c2 c3 c4 c5 c6 c7 c8 c9 c10
 have HTR : Hk (∀ X, Below V.heap.size V X → Below w.heap.size w X) := ⟨fun X hX => HWB.out.trans (hX.mono HWB.out.size)⟩
 obtain ⟨D, hD⟩ : ∃ D : Int, D = if p.xn = 0 then -1 else p.t - 1 := ⟨_, rfl⟩
 obtain ⟨H, hH⟩ : ∃ H : Int, H = if p.xn = 0 then 0 else p.xl.getD (p.xn - 1) 0 := ⟨_, rfl⟩
 have HD := Hk.mk hD
 have HH := Hk.mk hH
 clear HB hD hH
 have HRR : Hk (OwNt V V.heap.size (.slice none 0 0) 0 []) := ⟨OwNt.nil _ _⟩
 have HB : Hk (Below V.heap.size V V) := ⟨Below.refl _ _⟩
 go_wp2
 go_loopw [4, 3] (fun i v wr => ∃ (k : Nat) (T : Int) (n : Nat) (L : List Nv) (va : Option Addr) (vc : Nat), i = .int .i64 T ∧ v = .slice va n vc ∧ Hk (T = (k : Int) + 1 ∧ k ≤ N ∧ n ≤ k ∧ abN L = nsM p.ab k ∧ ∀ x, x ∈ L → SmC x.q.l) ∧ Hk (OwNt wr V.heap.size (.slice va n vc) n L) ∧ Hk (Below V.heap.size V wr)) (fun i _ _ => N + 1 - (intOf i).toNat)
 case atStart => exact ⟨0, 1, 0, [], none, 0, rfl, rfl, ⟨rfl, Nat.zero_le _, Nat.le_refl _, rfl, fun _ h => by cases h⟩, HRR, HB⟩
 case round =>
  clear HRR HB
  obtain ⟨k, T, n, L, va, vc, rfl, rfl, HL, HLR, HB⟩ := hrel
  have hk1 := HL.out.1
  have hk2 := HL.out.2.1
  have x0 : wr.cell? ⟨w.heap.size, 0, none⟩ = some (.int .i64 p.i) := (HB.out.cell (p := ⟨w.heap.size, 0, none⟩) cl).trans c0
  have x1 : wr.cell? ⟨w.heap.size, 1, none⟩ = some (.int .i64 (N : Int)) := by rw [← HNE.out]; exact (HB.out.cell (p := ⟨w.heap.size, 1, none⟩) cl).trans c1
  have xl : w.heap.size < wr.heap.size := Nat.lt_of_lt_of_le cl HB.out.size
  by_cases hlt : k < N
  ·have d1 : decide (T ≤ (N : Int)) = true := by rw [decide_eq_true_iff]; omega
   have gT : IntKind.i64.wrap (T + 1) = T + 1 := wr27 (by omega) (by have := HN8.out; omega)
   have HLT : Hk (k < N) := ⟨hlt⟩
   by_cases hid : T = p.i
   ·have d2 : (T == p.i) = true := by simp [hid]
    have HID : Hk ((k : Int) + 1 = p.ab.i) := ⟨by rw [← hk1]; exact hid⟩
    clear hid hk1 hk2 hlt
    go_wp2
    exact ⟨⟨k + 1, T + 1, n, L, va, vc, rfl, rfl, ⟨by have := HL.out.1; push_cast; omega, HLT.out, by have := HL.out.2.2.1; omega, by rw [HL.out.2.2.2.1, nsM_id HID.out], HL.out.2.2.2.2⟩, HLR, HB⟩, by have h1 := HL.out.1; have h2 := HLT.out; simp [intOf]; omega⟩
   ·have d2 : (T == p.i) = false := by simp [hid]
    have HID : Hk (¬ (k : Int) + 1 = p.ab.i) := ⟨by rw [← hk1]; exact hid⟩
    have gK : IntKind.i64.wrap (T - 1) = (k : Int) := by rw [wr27 (by omega) (by have := HN8.out; omega)]; omega
    have HKA : Hk (k < p.an) := ⟨by have := HN8.out; omega⟩
    have HNK : Hk (n ≤ 8) := ⟨by have h1 := HL.out.2.2.1; have h2 := HN8.out; omega⟩
    obtain ⟨bh, oh, eh, hbh, hch⟩ := (HDP.out _ (HTR.out _ HB.out)).h.at_ (by have := HN8.out; omega)
    obtain ⟨hk, hhk⟩ : ∃ x : Int, x = p.hl.getD k 0 := ⟨_, rfl⟩
    have ch : wr.cell? ⟨bh, oh + k, none⟩ = some (.int .i64 hk) := by rw [hhk]; exact hch k (by have := HN8.out; omega)
    have x7 : wr.cell? ⟨w.heap.size, 7, none⟩ = some (.slice (some ⟨bh, oh, none⟩) p.hn p.hc) := by rw [← eh]; exact (HB.out.cell (p := ⟨w.heap.size, 7, none⟩) cl).trans c7
    have HHK := Hk.mk hhk
    have HEH := Hk.mk eh
    have s0 : (0 : Int) ≤ (k : Int) := by omega
    have s1 : (k : Int) < (p.hn : Int) := by have := HN8.out; omega
    have s2 : k < p.hn := by have := HN8.out; omega
    clear hid hk1 hk2 hlt hch hhk eh
    go_upto_region 6 with fail
    clear x1 d1 d2
    have HBO := HB
    clear HB
    generalize wr = W1 at *
    have L0V : W1.heap.size ≤ W1.heap.size := Nat.le_refl _
    apply reg_merge
    intro HG2
    apply reg_merge
    intro HG1
    refine wp_region_held_drew (S := fun Z => (∀ b o, b < W1.heap.size → Z.cell? ⟨b, o, none⟩ = W1.cell? ⟨b, o, none⟩)) (by kernel_rfl) (fun _ _ _ => rfl) (fun hHeld => ?_)
    have HB : Hk (Below W1.heap.size W1 W1.drew) := ⟨(Below.refl _ _).drew⟩
    obtain ⟨WZ, hWe⟩ : ∃ WZ, W1.drew = WZ := ⟨_, rfl⟩
    rw [hWe] at HB hHeld ⊢
    clear hWe
    have HI : Ix [0, 1, 2, 3, 4, 5, 6, 7, 8, 9, 10] := trivial
    iterate 11 (refine tkA HI (v := ?_) rfl (by kernel_rfl) (fun _ _ _ h => h) (.inl ⟨by rfl, fun wX hSw => ?_⟩) hHeld (fun HJ => ?_); rotate_left; (focus ((try dsimp only at hSw); go_simp; try with_reducible rfl)); clear HI; have HI := HJ; clear HJ; try simp only [Act.put, jjA, jjB, jjC, jjD, jjE, jjF])
    clear HI
    refine wpAnyH_ready (rs := [11]) (by kernel_rfl) (by simp) ?_
    refine AllReadyH.cons rfl (fun K hK => ?_) (AllReadyH.nil)
    ·skip
     go_simp
     have L_Nb := kw_le HB.out L0V
     have HP_Nb : Hk (Bk _ _ #[.int .i64 0, .int .i64 0, .int .i64 0, .int .i64 0, .slice none 0 0, .int .i64 0, .int .u64 0, .int .i64 0]) := ⟨Bk.new WZ #[.int .i64 0, .int .i64 0, .int .i64 0, .int .i64 0, .slice none 0 0, .int .i64 0, .int .u64 0, .int .i64 0] 43⟩
     replace HB := Hk.mk (kw_al HB.out L0V (.cells #[.int .i64 0, .int .i64 0, .int .i64 0, .int .i64 0, .slice none 0 0, .int .i64 0, .int .u64 0, .int .i64 0] 43))
     refine hK.out _ _ ?_ (fun hHeld2 => ?_)
     ·exact kw_s HB.out
     clear hK K hHeld
     have hHeld := hHeld2
     clear hHeld2
     (try simp only [Act.put, jjA, jjB, jjC, jjD, jjE, jjF])
     generalize WZ.heap.size = Nb at *
     generalize WZ.alloc (.cells #[.int .i64 0, .int .i64 0, .int .i64 0, .int .i64 0, .slice none 0 0, .int .i64 0, .int .u64 0, .int .i64 0] 43) = WZx at *
     refine reg_cast (l' := #[true, true, true, true, true, true, true, true, true, true, true, true, false]) (by kernel_rfl) ?_
     revert hHeld
     revert L_Nb
     revert HP_Nb
     revert HB
     revert Nb
     revert WZx
     exact HG1.out
    intro WZ Nb HB HP_Nb L_Nb hHeld
    refine wpAnyH_ready (rs := [12]) (by kernel_rfl) (by simp) ?_
    refine AllReadyH.cons rfl (fun K hK => ?_) (AllReadyH.nil)
    ·skip
     have st_c0 : WZ.cell? ⟨Nb, 0, none⟩ = some (.int .i64 0) := HP_Nb.out.c 0
     have st_f0 : WZ.frozen? ⟨Nb, 0, none⟩ = false := HP_Nb.out.f 0
     have st_c1 : WZ.cell? ⟨Nb, 1, none⟩ = some (.int .i64 0) := HP_Nb.out.c 1
     have st_f1 : WZ.frozen? ⟨Nb, 1, none⟩ = false := HP_Nb.out.f 1
     have st_c2 : WZ.cell? ⟨Nb, 2, none⟩ = some (.int .i64 0) := HP_Nb.out.c 2
     have st_f2 : WZ.frozen? ⟨Nb, 2, none⟩ = false := HP_Nb.out.f 2
     have st_c3 : WZ.cell? ⟨Nb, 3, none⟩ = some (.int .i64 0) := HP_Nb.out.c 3
     have st_f3 : WZ.frozen? ⟨Nb, 3, none⟩ = false := HP_Nb.out.f 3
     have st_c4 : WZ.cell? ⟨Nb, 4, none⟩ = some (.slice none 0 0) := HP_Nb.out.c 4
     have st_f4 : WZ.frozen? ⟨Nb, 4, none⟩ = false := HP_Nb.out.f 4
     have st_c5 : WZ.cell? ⟨Nb, 5, none⟩ = some (.int .i64 0) := HP_Nb.out.c 5
     have st_f5 : WZ.frozen? ⟨Nb, 5, none⟩ = false := HP_Nb.out.f 5
     have st_c6 : WZ.cell? ⟨Nb, 6, none⟩ = some (.int .u64 0) := HP_Nb.out.c 6
     have st_f6 : WZ.frozen? ⟨Nb, 6, none⟩ = false := HP_Nb.out.f 6
     have st_c7 : WZ.cell? ⟨Nb, 7, none⟩ = some (.int .i64 0) := HP_Nb.out.c 7
     have st_f7 : WZ.frozen? ⟨Nb, 7, none⟩ = false := HP_Nb.out.f 7
     go_simp
     clear st_c0 st_f0
     clear st_c1 st_f1
     clear st_c2 st_f2
     clear st_c3 st_f3
     clear st_c4 st_f4
     clear st_c5 st_f5
     clear st_c6 st_f6
     clear st_c7 st_f7
     have hbk0 : Bk _ Nb #[.int .i64 p.i, .int .i64 0, .int .i64 0, .int .i64 0, .slice none 0 0, .int .i64 0, .int .u64 0, .int .i64 0] := (HP_Nb.out).set 0 (.int .i64 p.i)
     have hbk1 : Bk _ Nb #[.int .i64 p.i, .int .i64 T, .int .i64 0, .int .i64 0, .slice none 0 0, .int .i64 0, .int .u64 0, .int .i64 0] := (hbk0).set 1 (.int .i64 T)
     have hbk2 : Bk _ Nb #[.int .i64 p.i, .int .i64 T, .int .i64 (-1), .int .i64 0, .slice none 0 0, .int .i64 0, .int .u64 0, .int .i64 0] := (hbk1).set 2 (.int .i64 (-1))
     have hbk3 : Bk _ Nb #[.int .i64 p.i, .int .i64 T, .int .i64 (-1), .int .i64 0, .slice none 0 0, .int .i64 0, .int .u64 0, .int .i64 0] := (hbk2).set 3 (.int .i64 0)
     have hbk4 : Bk _ Nb #[.int .i64 p.i, .int .i64 T, .int .i64 (-1), .int .i64 0, .slice none 0 0, .int .i64 0, .int .u64 0, .int .i64 0] := (hbk3).set 4 (.slice none 0 0)
     have hbk5 : Bk _ Nb #[.int .i64 p.i, .int .i64 T, .int .i64 (-1), .int .i64 0, .slice none 0 0, .int .i64 (-1), .int .u64 0, .int .i64 0] := (hbk4).set 5 (.int .i64 (-1))
     have hbk6 : Bk _ Nb #[.int .i64 p.i, .int .i64 T, .int .i64 (-1), .int .i64 0, .slice none 0 0, .int .i64 (-1), .int .u64 0, .int .i64 0] := (hbk5).set 6 (.int .u64 0)
     have hbk7 : Bk _ Nb #[.int .i64 p.i, .int .i64 T, .int .i64 (-1), .int .i64 0, .slice none 0 0, .int .i64 (-1), .int .u64 0, .int .i64 hk] := (hbk6).set 7 (.int .i64 hk)
     replace HP_Nb := Hk.mk hbk7
     clear hbk0 hbk1 hbk2 hbk3 hbk4 hbk5 hbk6 hbk7
     replace HB := Hk.mk (Below.setCell (p := ⟨Nb, 7, none⟩) ((Below.setCell (p := ⟨Nb, 6, none⟩) ((Below.setCell (p := ⟨Nb, 5, none⟩) ((Below.setCell (p := ⟨Nb, 4, none⟩) ((Below.setCell (p := ⟨Nb, 3, none⟩) ((Below.setCell (p := ⟨Nb, 2, none⟩) ((Below.setCell (p := ⟨Nb, 1, none⟩) ((Below.setCell (p := ⟨Nb, 0, none⟩) (HB.out) L_Nb (.int .i64 p.i))) L_Nb (.int .i64 T))) L_Nb (.int .i64 (-1)))) L_Nb (.int .i64 0))) L_Nb (.slice none 0 0))) L_Nb (.int .i64 (-1)))) L_Nb (.int .u64 0))) L_Nb (.int .i64 hk))
     refine hK.out _ _ ?_ (fun hHeld2 => ?_)
     ·exact kw_s HB.out
     clear hK K hHeld
     have hHeld := hHeld2
     clear hHeld2
     (try simp only [Act.put, jjA, jjB, jjC, jjD, jjE, jjF])
     generalize (World.setCell (World.setCell (World.setCell (World.setCell (World.setCell (World.setCell (World.setCell (World.setCell WZ ⟨Nb, 0, none⟩ (.int .i64 p.i)) ⟨Nb, 1, none⟩ (.int .i64 T)) ⟨Nb, 2, none⟩ (.int .i64 (-1))) ⟨Nb, 3, none⟩ (.int .i64 0)) ⟨Nb, 4, none⟩ (.slice none 0 0)) ⟨Nb, 5, none⟩ (.int .i64 (-1))) ⟨Nb, 6, none⟩ (.int .u64 0)) ⟨Nb, 7, none⟩ (.int .i64 hk)) = WZx at *
     refine reg_cast (l' := #[true, true, true, true, true, true, true, true, true, true, true, true, true]) (by kernel_rfl) ?_
     revert hHeld
     revert L_Nb
     revert HP_Nb
     revert HB
     revert Nb
     revert WZx
     exact HG2.out
    intro WZ Nb HB HP_Nb L_Nb hHeld
    refine wpAnyH_done (by kernel_rfl) ?_ _
    have HB1 := HB
    clear HB hHeld x0 x7 ch hbh
    have HLN := Hk.mk L_Nb
    have w3 := (HBO.out.cell (p := ⟨w.heap.size, 3, none⟩) cl).trans c3
    have w9 := (HBO.out.cell (p := ⟨w.heap.size, 9, none⟩) cl).trans c9
    have wl : w.heap.size < W1.heap.size := Nat.lt_of_lt_of_le cl HBO.out.size
    have x9 : WZ.cell? ⟨w.heap.size, 9, none⟩ = some (.slice p.xa p.xn p.xc) := (HB1.out.cell (p := ⟨w.heap.size, 9, none⟩) wl).trans w9
    have gt : IntKind.i64.wrap (p.t - 1) = p.t - 1 := wr27 (by have := HTB.out; omega) (by have := HTB.out; omega)
    obtain ⟨bb, f0⟩ : ∃ bb, decide ((0 : Int) < (p.xn : Int)) = bb := ⟨_, rfl⟩
    have f1 : decide (0 < p.xn) = bb := by rw [← f0]; exact decide_eq_decide.2 (by omega)
    go_upto_if 31 with fail
    have HF0 := Hk.mk f0
    clear f0 f1
    go_cut [] (fun wx => Hk (Bk wx Nb #[.int .i64 p.i, .int .i64 T, .int .i64 (-1), .int .i64 0, .slice none 0 0, .int .i64 D, .int .u64 H, .int .i64 hk]) ∧ Hk (Below W1.heap.size W1 wx))
    case first =>
     cases bb
     ·have hx : p.xn = 0 := by have h1 := of_decide_eq_false HF0.out; omega
      have HX := Hk.mk hx
      clear hx
      go_wp2
      go_meet
      case rel => exact ⟨⟨by rw [HD.out, if_pos HX.out, HH.out, if_pos HX.out]; exact HP_Nb.out⟩, HB1⟩
     ·have hx : ¬ p.xn = 0 := by have h1 := of_decide_eq_true HF0.out; omega
      obtain ⟨bx, ox, ex, hbx, hcx⟩ := (HDP.out _ (HTR.out _ HBO.out)).x.atu (by omega)
      obtain ⟨m, hm⟩ : ∃ m : Nat, p.xn = m + 1 := ⟨p.xn - 1, by omega⟩
      have gx : IntKind.i64.wrap ((p.xn : Int) - 1) = (m : Int) := by rw [wr27 (by omega) (by have := HXB.out; omega), hm]; push_cast; omega
      have cx : W1.cell? ⟨bx, ox + m, none⟩ = some (.int .u64 H) := by rw [HH.out, if_neg hx, show p.xn - 1 = m by omega]; exact hcx m (by omega)
      have HX := Hk.mk hx
      have t0 : (0 : Int) ≤ (m : Int) := by omega
      have t1 : (m : Int) < (p.xn : Int) := by omega
      have t2 : m < p.xn := by omega
      have HN9 := HP_Nb
      have n5 := HN9.out.c 5
      have n6 := HN9.out.c 6
      have m5 := HN9.out.f 5
      have m6 := HN9.out.f 6
      have nl := HN9.out.lt
      simp at n5 n6
      have e6 : (World.setCell WZ ⟨Nb, 5, none⟩ (.int .i64 (p.t - 1))).cell? ⟨Nb, 6, none⟩ = some (.int .u64 0) := (HN9.out.set 5 (.int .i64 (p.t - 1))).c 6
      have e7 : (World.setCell WZ ⟨Nb, 5, none⟩ (.int .i64 (p.t - 1))).frozen? ⟨Nb, 6, none⟩ = false := (HN9.out.set 5 (.int .i64 (p.t - 1))).f 6
      rw [ex] at w9
      clear hcx hx hm x9 ex
      go_upto_region 8 with fail
      refine wp_region_held_drew (S := (fun X => (∀ b o, b < W1.heap.size → X.cell? ⟨b, o, none⟩ = W1.cell? ⟨b, o, none⟩) ∧ Below W1.heap.size W1 X)) (by kernel_rfl) ?_ (fun hHeld => ?_)
      ·exact kw_S HB1.out.drew
      have HI : Ix [0, 1, 2, 3, 4, 5, 6, 7, 8, 9, 10, 11] := trivial
      iterate 12 (refine tkA HI (v := ?_) rfl (by kernel_rfl) (fun _ _ _ h => h) (.inl ⟨by rfl, fun wX hSw => ?_⟩) hHeld (fun HJ => ?_); rotate_left; (focus ((try dsimp only at hSw); go_simp; try with_reducible rfl)); clear HI; have HI := HJ; clear HJ; try simp only [Act.put, jjA, jjB, jjC, jjD, jjE, jjF])
      clear HI
      refine wpAnyH_ready (rs := [12]) (by kernel_rfl) (by simp) ?_
      refine AllReadyH.cons rfl (fun K hK => ?_) (AllReadyH.nil)
      go_simp
      refine hK.out _ _ ?_ (fun hHeld => ?_)
      ·exact kw_S (Below.setCell (p := ⟨Nb, _, none⟩) hHeld.2 L_Nb _)
      clear hK K
      (try simp only [Act.put, jjA, jjB, jjC, jjD, jjE, jjF])
      have HI : Ix [13] := trivial
      (refine tkA HI (v := ?_) rfl (by kernel_rfl) (fun _ _ _ h => h) (.inl ⟨by rfl, fun wX hSw => ?_⟩) hHeld (fun HJ => ?_); rotate_left; (focus ((try dsimp only at hSw); go_simp; try with_reducible rfl)); clear HI; have HI := HJ; clear HJ; try simp only [Act.put, jjA, jjB, jjC, jjD, jjE, jjF])
      clear HI
      refine wpAnyH_ready (rs := [14]) (by kernel_rfl) (by simp) ?_
      refine AllReadyH.cons rfl (fun K hK => ?_) (AllReadyH.nil)
      go_simp
      refine hK.out _ _ ?_ (fun hHeld => ?_)
      ·exact kw_S (Below.setCell (p := ⟨Nb, _, none⟩) hHeld.2 L_Nb _)
      clear hK K
      (try simp only [Act.put, jjA, jjB, jjC, jjD, jjE, jjF])
      refine wpAnyH_done (by kernel_rfl) ?_ _
      go_wp2
      go_meet
      case rel => exact ⟨⟨by rw [HD.out, if_neg HX.out]; exact ((HN9.out.set 5 _).set 6 _).drew⟩, ⟨hHeld.2⟩⟩
    case rest =>
    clear HP_Nb HB1 w3 w9 x9 gt HF0
    obtain ⟨HPN, HB1⟩ := hcut
    obtain ⟨low, hlow⟩ : ∃ low, low = minL p.al := ⟨_, rfl⟩
    obtain ⟨ak, hak⟩ : ∃ ak, ak = p.al.getD k 0 := ⟨_, rfl⟩
    have HLK : Hk (LkP p k low ak) := ⟨by rw [hlow, hak]; exact HLKP.out k HKA.out⟩
    have HAK := Hk.mk hak
    have g1 : IntKind.i64.wrap (ak + 1) = ak + 1 := wr27 (by have h1 := HLK.out.l0; have h2 := HLK.out.le; omega) (by have h1 := HLK.out.l1; omega)
    clear hlow hak
    have HQ0 : Hk (OwCE wc W1.heap.size none 0 0 []) := ⟨.inr ⟨rfl, rfl, rfl⟩⟩
    have HV0 : Hk (noneI = (if ((0 : Nat) : Int) ≤ ak - low then noneI else (p.ml.getD (ak - low).toNat default).ab) ∧ SmC []) := ⟨by rw [if_pos (by have := HLK.out.le; simp; omega)], ⟨Nat.zero_le _, fun _ h => by cases h⟩⟩
    go_wp2
    go_loopw [6] (fun i wr => ∃ (j : Nat) (q : Iv), i = .int .i64 j ∧ j ≤ p.mn ∧ Hk (Bk wr Nb #[.int .i64 p.i, .int .i64 T, .int .i64 q.t, .int .i64 q.p, .slice q.a q.n q.c, .int .i64 D, .int .u64 H, .int .i64 hk]) ∧ Hk (OwCE wr W1.heap.size q.a q.n q.c q.l) ∧ Hk (q.ab = (if (j : Int) ≤ ak - low then noneI else (p.ml.getD (ak - low).toNat default).ab) ∧ SmC q.l) ∧ Hk (Below W1.heap.size W1 wr)) (fun i _ => p.mn - (intOf i).toNat)
    case atStart => exact ⟨0, ⟨-1, 0, none, 0, 0, []⟩, rfl, Nat.zero_le _, HPN, HQ0, HV0, HB1⟩
    case round =>
     clear HPN HQ0 HV0 HB1
     obtain ⟨j, q, rfl, hj, HPN, HQO, HQV, HB1⟩ := hrel
     have HBV : Hk (Below V.heap.size V wr) := ⟨HBO.out.trans (HB1.out.mono HBO.out.size)⟩
     have y5 : wr.cell? ⟨w.heap.size, 5, none⟩ = some (.slice p.ma p.mn p.mc) := (HBV.out.cell (p := ⟨w.heap.size, 5, none⟩) cl).trans c5
     have y8 : wr.cell? ⟨w.heap.size, 8, none⟩ = some (.slice p.aa p.an p.ac) := (HBV.out.cell (p := ⟨w.heap.size, 8, none⟩) cl).trans c8
     have yl : w.heap.size < wr.heap.size := Nat.lt_of_lt_of_le cl HBV.out.size
     by_cases hlt : j < p.mn
     ·obtain ⟨b, off, ea, hbl, ⟨p0, p1, p2⟩, hnq⟩ := (HDP.out _ (HTR.out _ HBV.out)).m.three hlt
      have hjl : j < p.ml.length := by rw [HML.out]; exact hlt
      obtain ⟨e, he⟩ : ∃ e, p.ml.getD j default = e := ⟨_, rfl⟩
      have HSE : Hk (SmC e.l) := ⟨by rw [← he]; exact HS.out.m.m _ (getD_memI hjl)⟩
      have HET : Hk (e.t = low + 1 + j) := ⟨by rw [← he]; exact HLK.out.mt j hlt⟩
      rw [he] at p0 p1 p2 hnq
      have HED : Hk (∀ X, Below wr.heap.size wr X → CmD X X.heap.size e.a e.n e.l) := ⟨fun X hX => hnq.later hX⟩
      obtain ⟨ba, oa, eb, hba, hca⟩ := (HDP.out _ (HTR.out _ HBV.out)).a.at_ (by have := HKA.out; omega)
      have ca : wr.cell? ⟨ba, oa + k, none⟩ = some (.int .i64 ak) := by rw [HAK.out]; exact hca k HKA.out
      rw [eb] at y8
      rw [ea] at y5
      have t0 : (0 : Int) ≤ (j : Int) := by omega
      have t1 : (j : Int) < (p.mn : Int) := by omega
      have t2 : k < p.an := HKA.out
      have t3 : (0 : Int) ≤ (k : Int) := by omega
      have t4 : (k : Int) < (p.an : Int) := by omega
      have gj : IntKind.i64.wrap ((j : Int) + 1) = ((j + 1 : Nat) : Int) := by push_cast; exact wr27 (by omega) (by have := HMN.out; omega)
      have HLJ := Hk.mk hlt
      have HEE := Hk.mk he
      have HEA := Hk.mk ea
      have HZ : Hk (Below wr.heap.size wr wr) := ⟨Below.refl _ _⟩
      clear hnq hca he hjl ea eb
      go_upto_region 12 with fail
      by_cases hm : (j : Int) = ak - low
      ·have f1 : (e.t == ak + 1) = true := by rw [HET.out]; simp; omega
       have HM := Hk.mk hm
       clear hm
       refine wp_region_held_drew (S := (fun X => (∀ b o, b < wr.heap.size → X.cell? ⟨b, o, none⟩ = wr.cell? ⟨b, o, none⟩) ∧ Below wr.heap.size wr X)) (by kernel_rfl) ?_ (fun hHeld => ?_)
       ·exact kw_S (kw_drew HZ.out)
       have HI : Ix [0, 1, 2, 3, 4, 5, 6, 7, 8, 9, 10, 11, 12, 13] := trivial
       iterate 14 (refine tkA HI (v := ?_) rfl (by kernel_rfl) (fun _ _ _ h => h) (.inl ⟨by rfl, fun wX hSw => ?_⟩) hHeld (fun HJ => ?_); rotate_left; (focus ((try dsimp only at hSw); go_simp; try with_reducible rfl)); clear HI; have HI := HJ; clear HJ; try simp only [Act.put, jjA, jjB, jjC, jjD, jjE, jjF])
       clear HI
       refine wpAnyH_done (by kernel_rfl) ?_ _
       clear hHeld
       have HP4 := Hk.mk HPN.out.drew
       have HX4 : Hk (Below wr.heap.size wr wr.drew) := ⟨HZ.out.drew⟩
       have q0 : wr.drew.cell? ⟨b, off + j * 3, none⟩ = some (.int .i64 e.t) := p0
       have q1 : wr.drew.cell? ⟨b, off + j * 3 + 1, none⟩ = some (.int .i64 e.p) := p1
       have q2 : wr.drew.cell? ⟨b, off + j * 3 + 2, none⟩ = some (.slice e.a e.n e.c) := p2
       have q5 : wr.drew.cell? ⟨w.heap.size, 5, none⟩ = some (.slice (some ⟨b, off, none⟩) p.mn p.mc) := y5
       clear p0 p1 p2 y5 y8 ca
       generalize wr.drew = V4 at *
       go_wp2_with (go_at_call 64; (with_reducible refine (copyin_any e.t e.p e.a e.n e.c e.l _ (HED.out _ HX4.out) HSE.out).mono ?_); rintro e' z ⟨a2, c2, L2, rfl, ho, hab, hb⟩; have HO := Hk.mk ho; have HAB := Hk.mk hab; have HBZ := Hk.mk (HX4.out.trans (hb.mono HX4.out.size)); have HPZ := Hk.mk (HP4.out.below hb); clear ho hab hb; have n2 := HPZ.out.c 2; have n3 := HPZ.out.c 3; have n4 := HPZ.out.c 4; have nl := HPZ.out.lt; have m2 := HPZ.out.f 2; have m3 := HPZ.out.f 3; have m4 := HPZ.out.f 4; simp at n2 n3 n4)
       have hNV : Nb < V4.heap.size := HP4.out.lt
       have HFR : Hk (Fr (fun x => x = Nb) z (((z.setCell ⟨Nb, 2, none⟩ (.int .i64 e.t)).setCell ⟨Nb, 3, none⟩ (.int .i64 e.p)).setCell ⟨Nb, 4, none⟩ (.slice a2 e.n c2))) := ⟨by refine Fr.setCell (M := fun x => x = Nb) (p := ⟨Nb, 4, none⟩) ?_ (fun _ => rfl) _; refine Fr.setCell (M := fun x => x = Nb) (p := ⟨Nb, 3, none⟩) ?_ (fun _ => rfl) _; refine Fr.setCell (M := fun x => x = Nb) (p := ⟨Nb, 2, none⟩) ?_ (fun _ => rfl) _; exact Fr.refl _ _⟩
       have HPE : Hk (Bk (((z.setCell ⟨Nb, 2, none⟩ (.int .i64 e.t)).setCell ⟨Nb, 3, none⟩ (.int .i64 e.p)).setCell ⟨Nb, 4, none⟩ (.slice a2 e.n c2)) Nb #[.int .i64 p.i, .int .i64 T, .int .i64 e.t, .int .i64 e.p, .slice a2 e.n c2, .int .i64 D, .int .u64 H, .int .i64 hk]) := ⟨((HPZ.out.set 2 (.int .i64 e.t)).set 3 (.int .i64 e.p)).set 4 (.slice a2 e.n c2)⟩
       have HOE : Hk (OwCE (((z.setCell ⟨Nb, 2, none⟩ (.int .i64 e.t)).setCell ⟨Nb, 3, none⟩ (.int .i64 e.p)).setCell ⟨Nb, 4, none⟩ (.slice a2 e.n c2)) W1.heap.size a2 e.n c2 L2) := ⟨(OwCE.up (Or.inl HO.out) HFR.out (fun x hx e => by omega)).weak (Nat.le_trans HB1.out.size HX4.out.size)⟩
       have HVE : Hk ((⟨e.t, e.p, abC L2⟩ : In) = (if ((j + 1 : Nat) : Int) ≤ ak - low then noneI else (p.ml.getD (ak - low).toNat default).ab) ∧ SmC L2) := ⟨by rw [if_neg (by have := HM.out; push_cast; omega), show (ak - low).toNat = j by have := HM.out; omega, HEE.out, HAB.out]; rfl, smC_like HAB.out (fun x hx => (HO.out.u x hx).nq.len) (fun x hx => (HED.out _ (Below.refl _ _)).u x hx |>.len) HSE.out⟩
       have HBE : Hk (Below W1.heap.size W1 (((z.setCell ⟨Nb, 2, none⟩ (.int .i64 e.t)).setCell ⟨Nb, 3, none⟩ (.int .i64 e.p)).setCell ⟨Nb, 4, none⟩ (.slice a2 e.n c2))) := ⟨(HB1.out.trans (HBZ.out.mono HB1.out.size)).trans (HFR.out.below (Nat.le_trans HB1.out.size HBZ.out.size) (fun x _ e => by have := HLN.out; omega))⟩
       exact ⟨⟨j + 1, ⟨e.t, e.p, a2, e.n, c2, L2⟩, by go_num, HLJ.out, HPE, HOE, HVE, HBE⟩, by first | exact nx_ms HLJ.out | exact nx_ms' HLJ.out⟩
      ·have f1 : (e.t == ak + 1) = false := by rw [HET.out]; simp; omega
       have HM := Hk.mk hm
       clear hm
       refine wp_region_held_drew (S := (fun X => (∀ b o, b < wr.heap.size → X.cell? ⟨b, o, none⟩ = wr.cell? ⟨b, o, none⟩) ∧ Below wr.heap.size wr X)) (by kernel_rfl) ?_ (fun hHeld => ?_)
       ·exact kw_S (kw_drew HZ.out)
       have HI : Ix [0, 1, 2, 3, 4, 5, 6, 7, 8, 9, 10, 11, 12, 13] := trivial
       iterate 14 (refine tkA HI (v := ?_) rfl (by kernel_rfl) (fun _ _ _ h => h) (.inl ⟨by rfl, fun wX hSw => ?_⟩) hHeld (fun HJ => ?_); rotate_left; (focus ((try dsimp only at hSw); go_simp; try with_reducible rfl)); clear HI; have HI := HJ; clear HJ; try simp only [Act.put, jjA, jjB, jjC, jjD, jjE, jjF])
       clear HI
       refine wpAnyH_done (by kernel_rfl) ?_ _
       clear hHeld
       clear p0 p1 p2 y5 y8 ca
       have HVE : Hk (q.ab = (if ((j + 1 : Nat) : Int) ≤ ak - low then noneI else (p.ml.getD (ak - low).toNat default).ab) ∧ SmC q.l) := ⟨by
        rw [HQV.out.1]
        have h1 := HM.out
        by_cases h2 : (j : Int) ≤ ak - low
        ·rw [if_pos h2, if_pos (by push_cast; omega)]
        ·rw [if_neg h2, if_neg (by push_cast; omega)], HQV.out.2⟩
       have HPE : Hk (Bk wr.drew Nb #[.int .i64 p.i, .int .i64 T, .int .i64 q.t, .int .i64 q.p, .slice q.a q.n q.c, .int .i64 D, .int .u64 H, .int .i64 hk]) := ⟨HPN.out.drew⟩
       have HOE : Hk (OwCE wr.drew W1.heap.size q.a q.n q.c q.l) := ⟨HQO.out.below ((Below.refl _ _).drew)⟩
       have HBE : Hk (Below W1.heap.size W1 wr.drew) := ⟨HB1.out.drew⟩
       go_wp2
       exact ⟨⟨j + 1, q, by go_num, HLJ.out, HPE, HOE, HVE, HBE⟩, by first | exact nx_ms HLJ.out | exact nx_ms' HLJ.out⟩
     ·obtain rfl : j = p.mn := by omega
      have HQA : Hk (q.ab = lackM p.ab k) := ⟨by
       rw [HQV.out.1]
       by_cases h2 : (p.mn : Int) ≤ ak - low
       ·rw [if_pos h2, lack_none HLK.out (by rw [HML.out]; exact h2)]
       ·have h3 := HLK.out.le
        rw [if_neg h2, lack_at (j := (ak - low).toNat) HLK.out (by rw [HML.out]; omega) (by omega)]⟩
      have HOX : Hk (OwNt wr V.heap.size (.slice va n vc) n L) := ⟨HLR.out.below HB1.out⟩
      have HRW : Hk (World.ownsRow (wr.alloc (.cells #[.int .i64 p.i, .int .i64 T, .int .i64 q.t, .int .i64 q.p, .slice q.a q.n q.c, .int .i64 D, .int .u64 H, .int .i64 hk] 43)) V.heap.size 43 8 (.slice va n vc) n (flt shN L)) := ⟨(HOX.out.o.alloc _).row⟩
      have HVX : Hk (V.heap.size ≤ (wr.alloc (.cells #[.int .i64 p.i, .int .i64 T, .int .i64 q.t, .int .i64 q.p, .slice q.a q.n q.c, .int .i64 D, .int .u64 H, .int .i64 hk] 43)).heap.size) := ⟨Nat.le_trans HBV.out.size (by simp)⟩
      have n0 := HPN.out.c 0; have n1 := HPN.out.c 1; have n2 := HPN.out.c 2; have n3 := HPN.out.c 3; have n4 := HPN.out.c 4; have n5 := HPN.out.c 5; have n6 := HPN.out.c 6; have n7 := HPN.out.c 7; have nl := HPN.out.lt; simp at n0 n1 n2 n3 n4 n5 n6 n7
      clear y8 hlt
      go_wp2_with (at_builtin; go_must (refine wpList_append_own_at _ rfl _ _ 69 rfl V.heap.size 43 i0 (.agg #[.int .i64 0, .int .i64 0, .int .i64 0, .int .i64 0, .slice none 0 0, .int .i64 0, .int .u64 0, .int .i64 0]) 8 80 Tryz.underlying69 hi0 hz0 hz1 hz2 rfl (by decide) _ n (flt shN L) rfl HRW.out ⟨wr.heap.size, 0, none⟩ 1 1 (({ f := p.i, t := T, q := q, d := D, h := H, v := hk } : Nv).cs) rfl rfl (lit_at wr _ _) (shN.one _) (by have := HNK.out; unfold maxLen; omega) (by have := HNK.out; omega) HVX.out ?_); intro v2 z hown hgrow hnil hat; have HL2 : Hk (OwNt z V.heap.size v2 (n + 1) (L ++ [({ f := p.i, t := T, q := q, d := D, h := H, v := hk } : Nv)])) := ⟨OwNt.snoc (HOX.out.below (below_al _ _)) ((HQO.out.weak HBO.out.size).below (below_al _ _)) hown hgrow HVX.out⟩; have HB2 : Hk (Below V.heap.size V z) := ⟨(kw_al HBV.out (Nat.le_refl _) (.cells #[.int .i64 p.i, .int .i64 T, .int .i64 q.t, .int .i64 q.p, .slice q.a q.n q.c, .int .i64 D, .int .u64 H, .int .i64 hk] 43)).grown hgrow HVX.out (fun g hg => (HOX.out.o.lt g hg).1)⟩; clear hown hgrow hnil hat)
      obtain ⟨a9, c9, rfl, -⟩ := HL2.out.o.form
      have HAB : Hk (abN (L ++ [({ f := p.i, t := T, q := q, d := D, h := H, v := hk } : Nv)]) = nsM p.ab (k + 1)) := ⟨by
       rw [abN_app, HL.out.2.2.2.1, nsM_ot HID.out]
       congr 1
       show [(⟨p.i, T, q.ab, D, H, hk⟩ : Nm)] = [noteM p.ab k]
       have e1 : p.ab.x.length = p.xn := HXB.out.2
       unfold noteM
       rw [HQA.out, HL.out.1, HD.out, HH.out, HHK.out, e1]
       rfl⟩
      exact ⟨⟨k + 1, T + 1, n + 1, L ++ [({ f := p.i, t := T, q := q, d := D, h := H, v := hk } : Nv)], a9, c9, rfl, rfl, ⟨by have := HL.out.1; push_cast; omega, HLT.out, by have := HL.out.2.2.1; omega, HAB.out, fun x hx => by
       rcases List.mem_append.1 hx with hx | hx
       ·exact HL.out.2.2.2.2 x hx
       ·obtain rfl := List.mem_singleton.1 hx
        exact HQV.out.2⟩, HL2, HB2⟩, by have h1 := HL.out.1; have h2 := HLT.out; simp [intOf]; omega⟩
  ·obtain rfl : k = N := by omega
   have d1 : decide (T ≤ (k : Int)) = false := by rw [decide_eq_false_iff_not]; omega
   clear hk1 hk2 hlt
   go_wp2
   go_ret
   exact ⟨va, n, vc, L, rfl, HLR.out.weak HWB.out.size, by rw [HL.out.2.2.2.1, HNE.out]; rfl, HL.out.2.2.2.2, HTR.out _ HB.out⟩
end Go.Proofs.YtdpblimhfmfbnaaGreat
