import Derived.Deep.QuietTactic
import Derived.BigQuiet
import Derived.Deep.RegionWith
import Derived.Deep.RegionHeld3
import Derived.Deep.DeepCutAuto
import Derived.Deep.DeepFit
import Derived.Outline
import Derived.Test.YtdpblimhfmfbnaaZsan
import Derived.Test.YtdpblimhfmfbnaaZsam
import Derived.Test.YtdpblimhfmfbnaaZsz
import Derived.Test.YtdpblimhfmfbnaaZsab
import Derived.Test.YtdpblimhfmfbnaaZsac
import Derived.Deep.RegionLaw
import Derived.Test.YtdpblimhfmfbnaaZsa
set_option linter.unusedVariables false
set_option linter.unusedSimpArgs false
namespace Go.Proofs.Ytdpblimhfmfbnaa
open Go.ChangeShapes Go.WideShapes Go.ChangeAt Go.RowKit Go.Deep
def sayI (p : Pm) (c : List Cm) : In := ⟨p.s + 1, p.i, c⟩
def CcR (w : World) (B : Nat) (a : Option Addr) (n c : Nat) (L l : List Cv) : Prop := OwC w B (.slice a n c) n L ∧ abC L = abC l
theorem CcR.below {w z : World} {B n c : Nat} {a : Option Addr} {L l : List Cv} (h : CcR w B a n c L l) (hb : Below w.heap.size w z) : CcR z B a n c L l := ⟨h.1.below hb, h.2⟩
theorem CcR.oth {w z : World} {B n c P : Nat} {a : Option Addr} {L l : List Cv} (h : CcR w B a n c L l) (hf : Fr (fun q => q = P) w z) (ht : Ty w P 55) : CcR z B a n c L l := ⟨⟨h.1.o.fr hf fun j hj e => by
  subst e
  obtain ⟨cur, fr, e1⟩ := h.1.o.typ hj
  obtain ⟨cs, fr2, e2⟩ := ht.ex
  rw [e1] at e2
  injection e2 with e2
  injection e2 with _ e2
  exact absurd e2 (by decide), fun x hx => (h.1.u x hx).imp (fun k => Fr.owni k hf fun j hj e => by
  subst e
  obtain ⟨cur, fr, e1⟩ := k.typ hj
  obtain ⟨cs, fr2, e2⟩ := ht.ex
  rw [e1] at e2
  injection e2 with e2
  injection e2 with _ e2
  exact absurd e2 (by decide)) id⟩, h.2⟩
end Go.Proofs.Ytdpblimhfmfbnaa
namespace Go.Proofs.Ytdpblimhfmfbnaa
open Go.ChangeShapes Go.WideShapes Go.ChangeAt Go.RowKit Go.Deep
def sayM (p : Pm) (c : List Cm) (M : List In) : Pm := { p with l := M, m := if 1 < p.n then p.m ++ [sayI p c] else p.m, s := p.s + 1, h := p.h.set (p.i.toNat - 1) (p.s + 1), a := p.a.set (p.i.toNat - 1) (p.s + 1) }
theorem Ow.spare {α : Type} {S : Sh α} {T : TypeId} {w : World} {base n c : Nat} {a : Option Addr} {l : List α} (h : Ow S T w base (.slice a n c) n l) : n ≤ c ∧ c ≤ 9223372036854775807 ∧ ((a = none ∧ n = 0 ∧ c = 0) ∨ ∃ g off, a = some ⟨g, off, none⟩) := by
 rcases h.row.2 with ⟨e, h0⟩ | ⟨g, cap, cur, e, hb, hh, hc, hm, _⟩
 ·injection e with e1 e2 e3
  subst e1 e3
  exact ⟨by omega, by omega, .inl ⟨rfl, h0, rfl⟩⟩
 ·injection e with e1 e2 e3
  subst e1 e3
  exact ⟨hc, by unfold maxLen at hm; omega, .inr ⟨g, 0, rfl⟩⟩
theorem smI_put {M2 ll : List Iv} {L : List Cv} {s i : Int} {M : List In} (hp : M.length = (abI ll).length + 1 ∧ ∀ y, y ∈ M → y = ⟨s, i, abC L⟩ ∨ y ∈ abI ll) (ha : abI M2 = M) (hM : ∀ x, x ∈ M2 → ∀ c, c ∈ x.l → c.u.length = c.m) (hl : ∀ x, x ∈ ll → ∀ c, c ∈ x.l → c.u.length = c.m) (hL : ∀ c, c ∈ L → c.u.length = c.m) (hs : SmI ll) (hsL : SmC L) (hn : ll.length + 1 ≤ 1048576) : SmI M2 := ⟨by
 have e := congrArg List.length ha
 rw [abI_len] at e
 have := hp.1
 rw [abI_len] at this
 omega, fun x hx => by
 have hm : x.ab ∈ abI M2 := List.mem_map_of_mem hx
 rw [ha] at hm
 rcases hp.2 _ hm with h | h
 ·exact smC_like (congrArg In.l h : abC x.l = abC L) (hM x hx) hL hsL
 ·obtain ⟨y, hy, e⟩ := List.mem_map.1 h
  exact smC_like (congrArg In.l e : abC y.l = abC x.l).symm (hM x hx) (hl y hy) (hs.m y hy)⟩
theorem smI_snoc {l : List Iv} {x : Iv} (h : SmI l) (hx : SmC x.l) (hn : l.length + 1 ≤ 1048576) : SmI (l ++ [x]) := ⟨by rw [List.length_append]; exact hn, fun y hy => by
 rcases List.mem_append.1 hy with hy | hy
 ·exact h.m y hy
 ·obtain rfl := List.mem_singleton.1 hy
  exact hx⟩
theorem HKI5 {B n c n' : Nat} {a : Option Addr} {v : Value} {xs : List Value} {L : List Cv} {V5 z5 W z9 : World} {o : Obj} (k : Kt 55 B W z9) (hg : W.grownBy z9 v.ownBlock) (hr : W.ownsRow B 55 3 v n' xs) (ho : OwC z5 V5.drew.heap.size (.slice a n c) n L) (hz : Below V5.heap.size V5 z5) (hW : W = z5.alloc o := by rfl) : OwCE z9 V5.heap.size a n c L := by
 subst hW
 have h1 : OwC (z5.alloc o) V5.heap.size (.slice a n c) n L := ho.below (below_al _ _)
 have hf : Fr (fun j => v.ownBlock = some j) (z5.alloc o) z9 := (Fr.refl _ _).grown hg (fun j _ e => e)
 have ht : ∀ j cur T fr, (z5.alloc o).heap[j]? = some (Obj.cells cur T fr) → v.ownBlock = some j → T = 55 := fun j cur T fr e hj => by
  rcases hr.2 with ⟨rfl, _⟩ | ⟨g, cap, cur', rfl, hb, hh, _⟩
  ·simp [Value.ownBlock] at hj
  ·simp [Value.ownBlock] at hj
   subst hj
   rw [hh] at e
   injection e with e
   injection e with _ e
   exact e.symm
 refine .inl ⟨h1.o.fr hf fun j hj e => ?_, fun x hx => (h1.u x hx).imp (fun q => Fr.owni q hf fun j hj e => ?_) id⟩
 ·obtain ⟨cur, fr, e1⟩ := h1.o.typ hj
  exact absurd (ht j _ _ _ e1 e) (by decide)
 ·obtain ⟨cur, fr, e1⟩ := q.typ hj
  exact absurd (ht j _ _ _ e1 e) (by decide)
theorem OwnI.base {w : World} {B N g n c : Nat} {u : List Int} (h : OwnI w B (.slice (some ⟨g, 0, none⟩) n c) n u) (hN : N ≤ g) : OwnI w N (.slice (some ⟨g, 0, none⟩) n c) n u := ⟨h.1, h.2.1, by
 rcases h.2.2 with ⟨e, _⟩ | ⟨g', cap, cur, e, hb, r⟩
 ·cases e
 ·injection e with e1 e2 e3
  injection e1 with e1
  injection e1 with e1
  subst e1 e3
  exact .inr ⟨g, c, cur, rfl, hN, r⟩⟩
end Go.Proofs.Ytdpblimhfmfbnaa
namespace Go.Proofs.Ytdpblimhfmfbnaa
open Go.ChangeShapes Go.WideShapes Go.ChangeAt Go.RowKit Go.Deep
def zrI0 : Iv := ⟨0, 0, none, 0, 0, []⟩
theorem zero_in (w : World) : (zeroValue 55).run Try.prog w = .ok (.agg #[.int .i64 0, .int .i64 0, .slice none 0 0]) w := by kernel_rfl
theorem zc_in (m : Nat) : (Builtin.zeroCells (Value.cells (.agg #[.int .i64 0, .int .i64 0, .slice none 0 0])) m).toList = flt shI (List.replicate m zrI0) := by
 have hz : (Value.cells (.agg #[.int .i64 0, .int .i64 0, .slice none 0 0])) = #[.int .i64 0, .int .i64 0, .slice none 0 0] := by simp [Value.cells] <;> rfl
 rw [hz]
 apply List.ext_getElem?
 intro i
 by_cases hi : i < m * 3
 ·have h1 : i / 3 < (List.replicate m zrI0).length := by rw [List.length_replicate]; omega
  have h2 := flt_at (S := shI) (List.replicate m zrI0) (i / 3) (i % 3) h1 (Nat.mod_lt _ (by decide))
  have e : i / 3 * shI.z + i % 3 = i := by show i / 3 * 3 + i % 3 = i; omega
  rw [e] at h2
  rw [h2, List.getElem_replicate]
  simp only [Builtin.zeroCells, Array.toList_map, List.getElem?_map]
  have h3 : (Array.range (m * (#[Value.int .i64 0, .int .i64 0, .slice none 0 0] : Array Value).size)).toList[i]? = some i := by simp [Array.toList_range, List.getElem?_range, hi]
  rw [h3]
  have h4 : i % 3 = 0 ∨ i % 3 = 1 ∨ i % 3 = 2 := by omega
  rcases h4 with h4 | h4 | h4 <;> simp [h4] <;> rfl
 ·rw [List.getElem?_eq_none (by simp [Builtin.zeroCells]; omega), List.getElem?_eq_none (by rw [flt_len, List.length_replicate]; show m * 3 ≤ i; omega)]
theorem run_clear_in (w : World) (ty : TypeId) (b o m c : Nat) (hc : ∀ j, j < (m + 1) * 3 → (w.cell? ⟨b, o + j, none⟩).isSome = true) (hf : ∀ j, j < (m + 1) * 3 → w.frozen? ⟨b, o + j, none⟩ = false) :
  (Builtin.clear_ #[24] ty #[.slice (some ⟨b, o, none⟩) (m + 1) c]).run Try.prog w = .ok (.tuple #[]) (w.setCells b o (flt shI (List.replicate (m + 1) zrI0))) := by
 have hl : (flt shI (List.replicate (m + 1) zrI0)).length = (m + 1) * 3 := by rw [flt_len, List.length_replicate]; rfl
 have hst := run_storeCells_cells (P := Try.prog) b o (flt shI (List.replicate (m + 1) zrI0)) 0 w (fun j hj => by rw [Nat.add_zero]; exact hc j (by omega)) (fun j hj => by rw [Nat.add_zero]; exact hf j (by omega)) (flt_one shI _)
 simp only [Nat.add_zero] at hst
 have hzc := zc_in (m + 1)
 generalize flt shI (List.replicate (m + 1) zrI0) = vs at *
 simp [Builtin.clear_, run_underlying Try.underlying24, zero_in, hzc, hst]
theorem own_cutI {W : World} {base g n c i : Nat} {L : List Iv} (vs : List Value) (h : Ow shI 55 W base (.slice (some ⟨g, 0, none⟩) n c) n L) (hi : i ≤ n) :
  Ow shI 55 (W.setCells g (i * 3) vs) base (.slice (some ⟨g, 0, none⟩) i c) i (L.take i) := by
 have hl := h.len
 have hel : (L.take i).length = i := by simp; omega
 obtain ⟨hrl, ⟨e, _⟩ | ⟨g', cap, cur, e, hg, hh, hc, hm, hs, ht⟩⟩ := h.row
 ·cases e
 injection e with e1 e2 e3
 injection e1 with e1
 injection e1 with e1
 subst e1 e3
 have hs : cur.size = c * 3 := hs
 have ht : cur.toList.take (n * 3) = flt shI L := ht
 obtain ⟨cur2, hh2, hs2⟩ := setCells_heap vs (i * 3) W cur hh
 refine ⟨hel, by rw [flt_len, hel], Or.inr ⟨g, c, cur2, rfl, hg, hh2, by omega, hm, by show cur2.size = c * 3; omega, ?_⟩⟩
 show cur2.toList.take (i * 3) = _
 apply List.ext_getElem?
 intro t
 by_cases htl : t < i * 3
 ·rw [List.getElem?_take_of_lt htl, Array.getElem?_toList, ← cell_cur hh2 t, World.cell?_setCells_out g vs (i * 3) W ⟨g, t, none⟩ (fun _ _ => Or.inl htl), cell_cur hh t, flt_take]
  show _ = ((flt shI L).take (i * 3))[t]?
  rw [List.getElem?_take_of_lt htl, ← ht, List.getElem?_take_of_lt (by omega), Array.getElem?_toList]
 ·rw [List.getElem?_eq_none (by simp; omega), List.getElem?_eq_none (by rw [flt_len, hel]; show i * 3 ≤ t; omega)]
structure SfI (m : Int) (l L : List Iv) (i j : Nat) : Prop where
 a : L.take i = (l.take j).filter fun x => decide (m < x.t)
 b : L.drop j = l.drop j
 lt : i < j
 ln : L.length = l.length
theorem SfI.at_ {m : Int} {l L : List Iv} {i j : Nat} (h : SfI m l L i j) (hj : j < l.length) : L.getD j default = l.getD j default := by
 have e := congrArg (fun x => x[0]?) h.b
 simp at e
 have hL : j < L.length := by rw [h.ln]; exact hj
 simp [List.getD, hj, hL] at e ⊢
 exact e
theorem SfI.keep {m : Int} {l L : List Iv} {i j : Nat} (h : SfI m l L i j) (hj : j < l.length) (hk : m < (l.getD j default).t) : SfI m l (L.set i (l.getD j default)) (i + 1) (j + 1) := by
 have hL : i < L.length := by rw [h.ln]; have := h.lt; omega
 refine ⟨?_, ?_, by have := h.lt; omega, by rw [List.length_set]; exact h.ln⟩
 ·rw [take_snocI (show i < (L.set i (l.getD j default)).length by rw [List.length_set]; exact hL), take_snocI hj, List.filter_append, ← h.a]
  congr 1
  ·rw [List.take_set_of_le (Nat.le_refl _)]
  ·rw [List.filter_cons_of_pos (by rw [decide_eq_true_iff]; exact hk)]
   simp [List.getD, hL]
 ·rw [List.drop_set_of_lt (by have := h.lt; omega), ← List.drop_drop, h.b, List.drop_drop]
theorem SfI.skip {m : Int} {l L : List Iv} {i j : Nat} (h : SfI m l L i j) (hj : j < l.length) (hk : ¬ m < (l.getD j default).t) : SfI m l L i (j + 1) := by
 refine ⟨?_, by rw [← List.drop_drop, h.b, List.drop_drop], by have := h.lt; omega, h.ln⟩
 rw [take_snocI hj, List.filter_append, ← h.a, List.filter_cons_of_neg (by rw [decide_eq_true_iff]; exact hk)]
 simp
theorem SfI.start {m : Int} {l : List Iv} {i : Nat} (hi : i < l.length) (h1 : ∀ k, k < i → m < (l.getD k default).t) (h2 : (l.getD i default).t ≤ m) : SfI m l l i (i + 1) := by
 refine ⟨?_, rfl, by omega, rfl⟩
 rw [take_snocI hi, List.filter_append, List.filter_cons_of_neg (by rw [decide_eq_true_iff]; omega)]
 rw [List.filter_nil, List.append_nil]
 refine (List.filter_eq_self.2 ?_).symm
 intro x hx
 rw [decide_eq_true_iff]
 obtain ⟨k, hk, rfl⟩ := List.mem_take_iff_getElem.1 hx
 have := h1 k (by omega)
 simpa [List.getD, show k < l.length by omega] using this
theorem filt_all {m : Int} {l : List Iv} {n : Nat} (hn : l.length = n) (h : ∀ k, k < n → m < (l.getD k default).t) : l.filter (fun x => decide (m < x.t)) = l := by
 rw [List.filter_eq_self]
 intro x hx
 obtain ⟨k, hk, rfl⟩ := List.mem_iff_getElem.1 hx
 have := h k (by omega)
 rw [decide_eq_true_iff]
 simpa [List.getD, hk] using this
def DelR (m : Int) (base g c : Nat) (l : List Iv) (X : World) (e : Ending) (z : World) : Prop := ∃ n', e = .returned (.slice (some ⟨g, 0, none⟩) n' c) ∧ Ow shI 55 z base (.slice (some ⟨g, 0, none⟩) n' c) n' (l.filter fun x => decide (m < x.t)) ∧ Fr (fun j => j = g) X z
set_option maxRecDepth 100000 in
set_option maxHeartbeats 1600000 in
theorem delI_any (m : Int) (A base g n c : Nat) (l : List Iv) (X : World) (h : Ow shI 55 X base (.slice (some ⟨g, 0, none⟩) n c) n l) (hn : n ≤ 1048576) (hA : X.cell? ⟨A, 0, none⟩ = some (.int .i64 m)) (hAg : ¬ A = g) :
  Calls Try.prog 32 #[.slice (some ⟨g, 0, none⟩) n c, .func (.func 33) #[] #[.pointer (some ⟨A, 0, none⟩)]] X (DelR m base g c l X) := by
 have eg : ∀ args w, (callFunc 33 args).run Try.prog w = .ok (.enter 33 args) w := enters_of Try.func33 (by kernel_rfl) rfl
 have hl := h.len
 have HH := Hk.mk h
 obtain ⟨hnc, hcm, -⟩ := h.spare
 have hAX := World.block_lt_of_cell? _ _ hA
 have HCA : Hk (∀ Z, Fr (fun j => j = g) X Z → Z.cell? ⟨A, 0, none⟩ = some (.int .i64 m)) := ⟨fun Z hZ => (hZ.cell hAX hAg).trans hA⟩
 have HGX : Hk (g < X.heap.size) := ⟨(h.lt g rfl).2⟩
 clear h
 go_enter Try.func32, Try.ntmps32
 go_upto_region 2 with (go_at_call 57; (with_reducible refine (idxI_any m A (some ⟨g, 0, none⟩) n c l _ HH.out.qv hn hA).mono ?_); rintro e z ⟨⟨r, rfl, hr⟩, hb⟩; have HR := Hk.mk hr; have HF : Hk (Fr (fun j => j = g) X z) := ⟨Fr.of_all hb⟩; have HO := Hk.mk (HH.out.below hb); clear hr hb)
 rcases HR.out with ⟨rfl, hall⟩ | ⟨i0, rfl, hi0, hk0, ht0⟩
 ·have HA2 := Hk.mk hall
  have HLE := Hk.mk hl
  clear hall
  go_wp2
  go_ret
  exact ⟨n, rfl, by rw [filt_all HLE.out HA2.out]; exact HO.out, HF.out⟩
 ·have HLE := Hk.mk hl
  have HST : Hk (SfI m l l i0 (i0 + 1)) := ⟨SfI.start (by rw [hl]; exact hi0) hk0 ht0⟩
  have f1 : ((i0 : Int) == -1) = false := beq_eq_false_iff_ne.2 (by omega)
  have HI0 := Hk.mk hi0
  have gi : IntKind.i64.wrap ((i0 : Int) + 1) = ((i0 + 1 : Nat) : Int) := by push_cast; exact wr27 (by omega) (by omega)
  clear HR hk0 ht0 hl hA hi0
  go_wp2
  go_loopw [5, 6] (fun x y wr => ∃ (i j : Nat) (L : List Iv), x = .int .i64 i ∧ y = .int .i64 j ∧ j ≤ n ∧ Hk (SfI m l L i j) ∧ Hk (Ow shI 55 wr base (.slice (some ⟨g, 0, none⟩) n c) n L) ∧ Hk (Fr (fun j => j = g) X wr)) (fun _ y _ => n - (intOf y).toNat)
  case atStart => exact ⟨i0, i0 + 1, l, rfl, rfl, by have := HI0.out; omega, HST, HO, HF⟩
  case round =>
   clear HST HO HF
   obtain ⟨i, j, L, rfl, rfl, hj, HS, HO, HF⟩ := hrel
   obtain ⟨_, hcx, -⟩ := HO.out.spare
   by_cases hlt : j < n
   ·have hjl : j < l.length := by rw [HLE.out]; exact hlt
    have hjL : j < L.length := by rw [HS.out.ln]; exact hjl
    have hat := HS.out.at_ hjl
    obtain ⟨b, off, e, hbl, hcc⟩ := HO.out.qv.rd (by omega)
    injection e with e
    injection e with e1 e2
    subst e1 e2
    have p0 := hcc j hjL 0 (by decide)
    have p1 := hcc j hjL 1 (by decide)
    have p2 := hcc j hjL 2 (by decide)
    rw [show L[j] = L.getD j default by simp [List.getD, hjL], hat] at p0 p1 p2
    have HKEEP := Hk.mk (fun hk => HS.out.keep (m := m) hjl hk)
    have HSKIP := Hk.mk (fun hk => HS.out.skip (m := m) hjl hk)
    generalize hq : l.getD j default = pq at *
    replace p0 : wr.cell? ⟨g, j * 3, none⟩ = some (.int .i64 pq.t) := by rw [Nat.zero_add, Nat.add_zero] at p0; exact p0
    replace p1 : wr.cell? ⟨g, j * 3 + 1, none⟩ = some (.int .i64 pq.p) := by rw [Nat.zero_add] at p1; exact p1
    replace p2 : wr.cell? ⟨g, j * 3 + 2, none⟩ = some (.slice pq.a pq.n pq.c) := by rw [Nat.zero_add] at p2; exact p2
    have hgl : g < wr.heap.size := hbl
    have j0 : (0 : Int) ≤ (j : Int) := by omega
    have j1 : (j : Int) < (n : Int) := by omega
    have hij : i < n := by have := HS.out.lt; omega
    have HIJ : Hk (i < n ∧ j < n) := ⟨⟨hij, hlt⟩⟩
    clear hcc hat hjL hjl hq
    have HFA : Hk (Fr (fun j => j = g) X (wr.alloc (.cells #[.int .i64 pq.t, .int .i64 pq.p, .slice pq.a pq.n pq.c] 55))) := ⟨HF.out.trans (Fr.of_all (below_al _ _))⟩
    have HBX : Hk (Bk (wr.alloc (.cells #[.int .i64 pq.t, .int .i64 pq.p, .slice pq.a pq.n pq.c] 55)) wr.heap.size #[.int .i64 pq.t, .int .i64 pq.p, .slice pq.a pq.n pq.c]) := ⟨Bk.new wr #[.int .i64 pq.t, .int .i64 pq.p, .slice pq.a pq.n pq.c] 55⟩
    have HOA : Hk (Ow shI 55 (wr.alloc (.cells #[.int .i64 pq.t, .int .i64 pq.p, .slice pq.a pq.n pq.c] 55)) base (.slice (some ⟨g, 0, none⟩) n c) n L) := ⟨HO.out.alloc _⟩
    have HCX : Hk ((wr.alloc (.cells #[.int .i64 pq.t, .int .i64 pq.p, .slice pq.a pq.n pq.c] 55)).cell? ⟨A, 0, none⟩ = some (.int .i64 m)) := ⟨HCA.out _ HFA.out⟩
    have ng : ¬ wr.heap.size = g := by omega
    go_upto_region 8 with fail
    clear p0 p1 p2 hgl HO HF
    generalize wr.heap.size = Bv at *
    generalize (wr.alloc (.cells #[.int .i64 pq.t, .int .i64 pq.p, .slice pq.a pq.n pq.c] 55)) = V at *
    have b0 := HBX.out.c 0
    have b1 := HBX.out.c 1
    have b2 := HBX.out.c 2
    have bl := HBX.out.lt
    simp at b0 b1 b2
    by_cases ht : pq.t ≤ m
    ·have d1 : decide (pq.t ≤ m) = true := decide_eq_true ht
     have HN := Hk.mk (HSKIP.out (by omega))
     clear ht hij
     go_wp2_with (go_at_fn 33; (with_reducible refine (below1 m pq.t pq.p A pq.a pq.n pq.c _ HCX.out).mono ?_); rintro e z ⟨rfl, hb⟩)
     exact ⟨⟨i, j + 1, L, rfl, by go_num, HIJ.out.2, HN, ⟨HOA.out.below hb⟩, ⟨HFA.out.trans (Fr.of_all hb)⟩⟩, by have := HIJ.out; simp [intOf]; omega⟩
    ·have d1 : decide (pq.t ≤ m) = false := decide_eq_false ht
     have HN := Hk.mk (HKEEP.out (by omega))
     have gi2 : IntKind.i64.wrap ((i : Int) + 1) = ((i + 1 : Nat) : Int) := by push_cast; exact wr27 (by omega) (by omega)
     have i1 : (0 : Int) ≤ (i : Int) := by omega
     have i2 : (i : Int) < (n : Int) := by omega
     clear ht hij
     go_upto_region 9 with (go_at_fn 33; (with_reducible refine (below1 m pq.t pq.p A pq.a pq.n pq.c _ HCX.out).mono ?_); rintro e z ⟨rfl, hb⟩)
     have HOZ := Hk.mk (HOA.out.below hb)
     have HBZ := Hk.mk (HBX.out.below hb)
     have HFZ := Hk.mk (HFA.out.trans (Fr.of_all hb))
     clear hb b0 b1 b2 bl HOA HBX HFA HCX
     have b0 := HBZ.out.c 0
     have b1 := HBZ.out.c 1
     have b2 := HBZ.out.c 2
     have bl := HBZ.out.lt
     simp at b0 b1 b2
     have hiL : i < L.length := by rw [HOZ.out.len]; exact HIJ.out.1
     obtain ⟨b, off, e, hbl2, hcc⟩ := HOZ.out.qv.rd (by have := HIJ.out; omega)
     injection e with e
     injection e with e1 e2
     subst e1 e2
     have p0 := hcc i hiL 0 (by decide)
     have p1 := hcc i hiL 1 (by decide)
     have p2 := hcc i hiL 2 (by decide)
     generalize L[i] = qq at *
     replace p0 : z.cell? ⟨g, i * 3, none⟩ = some (.int .i64 qq.t) := by rw [Nat.zero_add, Nat.add_zero] at p0; exact p0
     replace p1 : z.cell? ⟨g, i * 3 + 1, none⟩ = some (.int .i64 qq.p) := by rw [Nat.zero_add] at p1; exact p1
     replace p2 : z.cell? ⟨g, i * 3 + 2, none⟩ = some (.slice qq.a qq.n qq.c) := by rw [Nat.zero_add] at p2; exact p2
     have f0 := HOZ.out.row.frozenAt (i * 3)
     have f1' := HOZ.out.row.frozenAt (i * 3 + 1)
     have f2 := HOZ.out.row.frozenAt (i * 3 + 2)
     have HGZ : Hk (g < z.heap.size) := ⟨hbl2⟩
     clear hcc hiL
     go_wp2
     have HS2 : Hk (Ow shI 55 ((((z.setCell ⟨g, i * 3, none⟩ (.int .i64 pq.t)).setCell ⟨g, i * 3 + 1, none⟩ (.int .i64 pq.p)).setCell ⟨g, i * 3 + 2, none⟩ (.slice pq.a pq.n pq.c))) base (.slice (some ⟨g, 0, none⟩) n c) n (L.set i pq)) := ⟨HOZ.out.setx i pq⟩
     have HF2 : Hk (Fr (fun j => j = g) X ((((z.setCell ⟨g, i * 3, none⟩ (.int .i64 pq.t)).setCell ⟨g, i * 3 + 1, none⟩ (.int .i64 pq.p)).setCell ⟨g, i * 3 + 2, none⟩ (.slice pq.a pq.n pq.c)))) := ⟨HFZ.out.trans (show Fr (fun j => j = g) z (z.setCells g (i * 3) pq.cs) from Fr.setCells (M := fun j => j = g) rfl _ _ (Fr.refl _ _))⟩
     exact ⟨⟨i + 1, j + 1, L.set i pq, by go_num, by go_num, HIJ.out.2, HN, HS2, HF2⟩, by have := HIJ.out; simp [intOf]; omega⟩
   ·obtain rfl : j = n := by omega
    have hij := HS.out.lt
    have hic : ¬ c = i := by omega
    have hic2 : i ≤ c := by omega
    have i1 : (0 : Int) ≤ (i : Int) := by omega
    have i2 : (i : Int) ≤ (j : Int) := by omega
    have i3 : (i : Int) ≤ (c : Int) := by omega
    have i4 : (j : Int) ≤ (c : Int) := by omega
    have hcl : ∀ ty, (Builtin.clear_ #[24] ty #[.slice (some ⟨g, i * 3, none⟩) (j - i) (c - i)]).run Try.prog wr = .ok (.tuple #[]) (wr.setCells g (i * 3) (flt shI (List.replicate (j - i) zrI0))) := fun ty => by
     obtain ⟨m', hm'⟩ : ∃ m', j - i = m' + 1 := ⟨j - i - 1, by omega⟩
     rw [hm']
     exact run_clear_in wr ty g (i * 3) m' (c - i) (fun x hx => by
      have h1 := HO.out.row
      rcases h1.2 with ⟨e, _⟩ | ⟨g', cap, cur, e, hg, hh, hc, hm2, hs, _⟩
      ·cases e
      ·injection e with e1 e2 e3
       injection e1 with e1
       injection e1 with e1
       subst e1 e3
       have hs : cur.size = c * 3 := hs
       rw [cell_cur hh, Array.getElem?_eq_getElem (by omega)]
       rfl) (fun x hx => HO.out.row.frozenAt _)
    have FIN : Hk (Ow shI 55 (wr.setCells g (i * 3) (flt shI (List.replicate (j - i) zrI0))) base (.slice (some ⟨g, 0, none⟩) i c) i (l.filter fun x => decide (m < x.t))) := ⟨by
     have h1 := own_cutI (flt shI (List.replicate (j - i) zrI0)) HO.out (Nat.le_of_lt hij)
     have h2 := HS.out.a
     rw [← HLE.out, List.take_length] at h2
     rw [← h2]
     exact h1⟩
    have HFF : Hk (Fr (fun j => j = g) X (wr.setCells g (i * 3) (flt shI (List.replicate (j - i) zrI0)))) := ⟨HF.out.trans (Fr.setCells (M := fun j => j = g) rfl _ _ (Fr.refl _ _))⟩
    generalize (wr.setCells g (i * 3) (flt shI (List.replicate (j - i) zrI0))) = W9 at *
    clear HS HO HF hij
    go_wp2
    go_ret
    exact ⟨i, rfl, FIN.out, HFF.out⟩
end Go.Proofs.Ytdpblimhfmfbnaa
namespace Go.Proofs.Ytdpblimhfmfbnaa
open Go.ChangeShapes Go.WideShapes Go.ChangeAt Go.RowKit Go.Deep
set_option maxRecDepth 100000 in
set_option maxHeartbeats 3200000 in
theorem psay_state (p : Pv) (la : Option Addr) (ln lc : Nat) (w : World) (h : PvD w w.heap.size p) (hs : PvS p) (hk : OkP p.ab) (E : p.s = p.t + p.d - 1 ∨ p.s = 1099511627776) :
  Calls Try.prog 13 #[.agg (jjP p), .slice la ln lc] w fun e z => e = .returned (.tuple #[.agg jjZ, .int .i64 10]) ∧ Below w.heap.size w z := by
 have HE := Hk.mk E
 have HOK := Hk.mk hk
 have g1 : IntKind.i64.wrap (p.t + p.d) = p.t + p.d := wr27 (by have := hk.c.t1; have := hk.c.d1; have e1 : p.ab.t = p.t := rfl; have e2 : p.ab.d = p.d := rfl; omega) (by have := hk.c.t2; have := hk.c.d2; have e1 : p.ab.t = p.t := rfl; have e2 : p.ab.d = p.d := rfl; omega)
 have g2 : IntKind.i64.wrap (p.t + p.d - 1) = p.t + p.d - 1 := wr27 (by have := hk.c.t1; have := hk.c.d1; have e1 : p.ab.t = p.t := rfl; have e2 : p.ab.d = p.d := rfl; omega) (by have := hk.c.t2; have := hk.c.d2; have e1 : p.ab.t = p.t := rfl; have e2 : p.ab.d = p.d := rfl; omega)
 have g3 : IntKind.i64.wrap (p.s + 1) = p.s + 1 := wr27 (by have := hk.c.s1; have := hk.c.d1; have e1 : p.ab.s = p.s := rfl; have e2 : p.ab.d = p.d := rfl; omega) (by have := hk.c.s3; have e1 : p.ab.s = p.s := rfl; omega)
 clear E hk g3
 have HBW : Hk (Below w.heap.size w ((w.alloc (.cells (jjP p) 28)).alloc (.cells jjZ 28))) := ⟨((Below.refl _ _).alloc (Nat.le_refl _) _).alloc (by simp) _⟩
 have HPB : Hk (Bx ((w.alloc (.cells (jjP p) 28)).alloc (.cells jjZ 28)) w.heap.size p) := ⟨(Bx.new w p).al _⟩
 have e1 : (w.alloc (.cells (jjP p) 28)).heap.size = w.heap.size + 1 := by simp
 have HRB : Hk (Bx ((w.alloc (.cells (jjP p) 28)).alloc (.cells jjZ 28)) (w.heap.size + 1) nilV) := ⟨by rw [← e1]; exact Bx.new (w.alloc (.cells (jjP p) 28)) nilV⟩
 have HDP : Hk (∀ X, Below w.heap.size w X → PvD X X.heap.size p) := ⟨fun X hX => h.later hX⟩
 have HS := Hk.mk hs
 clear e1 h hs
 go_enter Try.func13, Try.ntmps13
 go_upto_region 1 with fail
 generalize ((w.alloc (.cells (jjP p) 28)).alloc (.cells jjZ 28)) = V at *
 have y0 := HPB.out.bk.c 0; have y1 := HPB.out.bk.c 1; have y2 := HPB.out.bk.c 2; have y3 := HPB.out.bk.c 3; have y4 := HPB.out.bk.c 4; have y5 := HPB.out.bk.c 5; have y6 := HPB.out.bk.c 6; have y7 := HPB.out.bk.c 7; have y8 := HPB.out.bk.c 8; have y9 := HPB.out.bk.c 9; have y10 := HPB.out.bk.c 10; have yl := HPB.out.lt; simp at y0 y1 y2 y3 y4 y5 y6 y7 y8 y9 y10
 by_cases e1 : p.s = p.t + p.d - 1
 ·have f1 : (p.s == p.t + p.d - 1) = true := beq_iff_eq.2 e1
  clear e1
  go_upto_region 5 with (go_at_call 25; (with_reducible refine (pcheck_as true 0 p _ (HDP.out _ HBW.out) HS.out ⟨⟨fun _ => rfl, fun _ => HOK.out⟩⟩ ⟨rfl⟩).mono ?_); rintro e z1 ⟨rfl, hb⟩; have HP9 := Hk.mk (HPB.out.below hb); have HR9 := Hk.mk (HRB.out.below hb); have HB9 := Hk.mk (HBW.out.trans (hb.mono HBW.out.size)); clear hb HPB HRB HBW; clear y0 y1 y2 y3 y4 y5 y6 y7 y8 y9 y10 yl; have HPB := HP9; have HRB := HR9; have HBW := HB9; clear HP9 HR9 HB9; have y0 := HPB.out.bk.c 0; have y1 := HPB.out.bk.c 1; have y2 := HPB.out.bk.c 2; have y3 := HPB.out.bk.c 3; have y4 := HPB.out.bk.c 4; have y5 := HPB.out.bk.c 5; have y6 := HPB.out.bk.c 6; have y7 := HPB.out.bk.c 7; have y8 := HPB.out.bk.c 8; have y9 := HPB.out.bk.c 9; have y10 := HPB.out.bk.c 10; have yl := HPB.out.lt; simp at y0 y1 y2 y3 y4 y5 y6 y7 y8 y9 y10)
  have r0 := HRB.out.bk.c 0; have f0 := HRB.out.bk.f 0; have r1 := HRB.out.bk.c 1; have f1 := HRB.out.bk.f 1; have r2 := HRB.out.bk.c 2; have f2 := HRB.out.bk.f 2; have r3 := HRB.out.bk.c 3; have f3 := HRB.out.bk.f 3; have r4 := HRB.out.bk.c 4; have f4 := HRB.out.bk.f 4; have r5 := HRB.out.bk.c 5; have f5 := HRB.out.bk.f 5; have r6 := HRB.out.bk.c 6; have f6 := HRB.out.bk.f 6; have r7 := HRB.out.bk.c 7; have f7 := HRB.out.bk.f 7; have r8 := HRB.out.bk.c 8; have f8 := HRB.out.bk.f 8; have r9 := HRB.out.bk.c 9; have f9 := HRB.out.bk.f 9; have r10 := HRB.out.bk.c 10; have f10 := HRB.out.bk.f 10; have rl := HRB.out.lt; simp at r0 r1 r2 r3 r4 r5 r6 r7 r8 r9 r10
  have HFB := Hk.mk ((Kt.put (B := w.heap.size) HRB.out (by omega) nilV).bl)
  go_wp2
  refine bodyPost_ret (v := .tuple #[.agg jjZ, .int .i64 10]) (by simp [results, Try.results13, go_sem, r0, r1, r2, r3, r4, r5, r6, r7, r8, r9, r10, f0, f1, f2, f3, f4, f5, f6, f7, f8, f9, f10]) rfl ⟨rfl, HBW.out.trans HFB.out⟩
 ·have f1 : (p.s == p.t + p.d - 1) = false := beq_eq_false_iff_ne.2 e1
  have f2 : (p.s == 1099511627776) = true := beq_iff_eq.2 (HE.out.resolve_left e1)
  clear e1
  go_upto_region 5 with (go_at_call 25; (with_reducible refine (pcheck_as true 0 p _ (HDP.out _ HBW.out) HS.out ⟨⟨fun _ => rfl, fun _ => HOK.out⟩⟩ ⟨rfl⟩).mono ?_); rintro e z1 ⟨rfl, hb⟩; have HP9 := Hk.mk (HPB.out.below hb); have HR9 := Hk.mk (HRB.out.below hb); have HB9 := Hk.mk (HBW.out.trans (hb.mono HBW.out.size)); clear hb HPB HRB HBW; clear y0 y1 y2 y3 y4 y5 y6 y7 y8 y9 y10 yl; have HPB := HP9; have HRB := HR9; have HBW := HB9; clear HP9 HR9 HB9; have y0 := HPB.out.bk.c 0; have y1 := HPB.out.bk.c 1; have y2 := HPB.out.bk.c 2; have y3 := HPB.out.bk.c 3; have y4 := HPB.out.bk.c 4; have y5 := HPB.out.bk.c 5; have y6 := HPB.out.bk.c 6; have y7 := HPB.out.bk.c 7; have y8 := HPB.out.bk.c 8; have y9 := HPB.out.bk.c 9; have y10 := HPB.out.bk.c 10; have yl := HPB.out.lt; simp at y0 y1 y2 y3 y4 y5 y6 y7 y8 y9 y10)
  have r0 := HRB.out.bk.c 0; have f0 := HRB.out.bk.f 0; have r1 := HRB.out.bk.c 1; have f1 := HRB.out.bk.f 1; have r2 := HRB.out.bk.c 2; have f2 := HRB.out.bk.f 2; have r3 := HRB.out.bk.c 3; have f3 := HRB.out.bk.f 3; have r4 := HRB.out.bk.c 4; have f4 := HRB.out.bk.f 4; have r5 := HRB.out.bk.c 5; have f5 := HRB.out.bk.f 5; have r6 := HRB.out.bk.c 6; have f6 := HRB.out.bk.f 6; have r7 := HRB.out.bk.c 7; have f7 := HRB.out.bk.f 7; have r8 := HRB.out.bk.c 8; have f8 := HRB.out.bk.f 8; have r9 := HRB.out.bk.c 9; have f9 := HRB.out.bk.f 9; have r10 := HRB.out.bk.c 10; have f10 := HRB.out.bk.f 10; have rl := HRB.out.lt; simp at r0 r1 r2 r3 r4 r5 r6 r7 r8 r9 r10
  have HFB := Hk.mk ((Kt.put (B := w.heap.size) HRB.out (by omega) nilV).bl)
  go_wp2
  refine bodyPost_ret (v := .tuple #[.agg jjZ, .int .i64 10]) (by simp [results, Try.results13, go_sem, r0, r1, r2, r3, r4, r5, r6, r7, r8, r9, r10, f0, f1, f2, f3, f4, f5, f6, f7, f8, f9, f10]) rfl ⟨rfl, HBW.out.trans HFB.out⟩
end Go.Proofs.Ytdpblimhfmfbnaa
namespace Go.Proofs.Ytdpblimhfmfbnaa
open List renaming getElem_toArray → jjA, getElem_cons_succ → jjB, getElem_cons_zero → jjC, setIfInBounds_toArray → jjD, set_cons_zero → jjE, set_cons_succ → jjF
open Go.ChangeShapes Go.WideShapes Go.ChangeAt Go.RowKit Go.Deep
theorem Bk.frz {M : Nat → Prop} {w z : World} {P : Nat} {cs : Array Value} (h : Bk w P cs) (k : Fr M w z) (hm : ¬ M P) : Bk z P cs := by
 obtain ⟨T, e⟩ := h.bl
 exact ⟨T, by rw [k.block P h.lt hm]; exact e⟩
theorem frS13 {N P : Nat} {V X : World} (h : Fr (fun j => j = P ∨ N ≤ j) V X) (hN : N ≤ V.heap.size) : (∀ b o, b < N → ¬ b = P → X.cell? ⟨b, o, none⟩ = V.cell? ⟨b, o, none⟩) ∧ Fr (fun j => j = P ∨ N ≤ j) V X := ⟨fun b o hb hn => h.cell (Nat.lt_of_lt_of_le hb hN) (fun e => by rcases e with e | e; exact hn e; omega), h⟩
set_option maxRecDepth 100000 in
set_option maxHeartbeats 6400000 in
theorem psay_yes (p : Pv) (la : Option Addr) (ln lc : Nat) (l : List Cv) (M : List In) (w : World) (h : PvD w w.heap.size p) (hs : PvS p) (hk : OkP p.ab) (hl : CmD w w.heap.size la ln l) (hsl : SmC l) (E : ¬ (p.s = p.t + p.d - 1 ∨ p.s = 1099511627776)) (EM : okN (sayI p.ab (abC l)) = true) (EP : putN (sayI p.ab (abC l)) p.ab.l = some M) (hmn : p.mn + 1 ≤ 1048576) (hln : p.ln + 1 ≤ 1048576) :
  Calls Try.prog 13 #[.agg (jjP p), .slice la ln lc] w fun e z => ∃ q : Pv, e = .returned (.tuple #[.agg (jjP q), .int .i64 0]) ∧ PvO z w.heap.size q ∧ q.ab = sayM p.ab (abC l) M ∧ PvS q ∧ Below w.heap.size w z := by
 obtain ⟨ii, hii, hiz0, hiz1, hiz2⟩ := info_parts info_in
 have HEA : Hk (Hk (askN (⟨p.s + 1, p.i, la, ln, lc, l⟩ : Iv).ab (abI p.ll) = true)) := ⟨⟨by unfold askN; rw [show okN (⟨p.s + 1, p.i, la, ln, lc, l⟩ : Iv).ab = true from EM, show ordN none (abI p.ll) = true from hk.w.o]; rfl⟩⟩
 have HEP : Hk (Hk (putN (⟨p.s + 1, p.i, la, ln, lc, l⟩ : Iv).ab (abI p.ll) = some M)) := ⟨⟨EP⟩⟩
 have HOK := Hk.mk hk
 have HSL := Hk.mk hsl
 have HMN := Hk.mk hmn
 have HLN2 := Hk.mk hln
 have HLX : Hk (∀ X, Below w.heap.size w X → CmD X X.heap.size la ln l) := ⟨fun X hX => hl.later hX⟩
 have HK1 : Hk (0 < p.hn ∧ 0 < p.an ∧ 1 ≤ p.i ∧ p.i.toNat - 1 < p.hn ∧ p.i.toNat - 1 < p.an ∧ p.i ≤ 8 ∧ p.hl.getD (p.i.toNat - 1) 0 = p.s ∧ p.al.getD (p.i.toNat - 1) 0 = p.s) := ⟨by
  have h1 := hk.k.h1
  have h2 := hk.k.a1
  have h3 : p.ab.h.length = p.hl.length := rfl
  have h4 : p.ab.a.length = p.al.length := rfl
  have h5 := h.h.len
  have h6 := h.a.len
  have h7 := hk.c.i1
  have h8 := hk.c.i2
  have h9 := hk.c.n2
  have e1 : p.ab.i = p.i := rfl
  have e2 : p.ab.n = p.n := rfl
  have ha : p.hl.getD (p.i.toNat - 1) 0 = p.s := hk.k.h2
  have hb : p.al.getD (p.i.toNat - 1) 0 = p.s := hk.k.a2
  exact ⟨by omega, by omega, by omega, by omega, by omega, by omega, ha, hb⟩⟩
 have f1 : (p.s == p.t + p.d - 1) = false := beq_eq_false_iff_ne.2 fun e => E (.inl e)
 have f2 : (p.s == 1099511627776) = false := beq_eq_false_iff_ne.2 fun e => E (.inr e)
 have g1 : IntKind.i64.wrap (p.t + p.d) = p.t + p.d := wr27 (by have := hk.c.t1; have := hk.c.d1; have e1 : p.ab.t = p.t := rfl; have e2 : p.ab.d = p.d := rfl; omega) (by have := hk.c.t2; have := hk.c.d2; have e1 : p.ab.t = p.t := rfl; have e2 : p.ab.d = p.d := rfl; omega)
 have g2 : IntKind.i64.wrap (p.t + p.d - 1) = p.t + p.d - 1 := wr27 (by have := hk.c.t1; have := hk.c.d1; have e1 : p.ab.t = p.t := rfl; have e2 : p.ab.d = p.d := rfl; omega) (by have := hk.c.t2; have := hk.c.d2; have e1 : p.ab.t = p.t := rfl; have e2 : p.ab.d = p.d := rfl; omega)
 have g3 : IntKind.i64.wrap (p.s + 1) = p.s + 1 := wr27 (by have := hk.c.s1; have := hk.c.d1; have e1 : p.ab.s = p.s := rfl; have e2 : p.ab.d = p.d := rfl; omega) (by have := hk.c.s3; have e1 : p.ab.s = p.s := rfl; omega)
 clear E EM EP hk hl hsl hmn hln
 have HBW : Hk (Below w.heap.size w ((w.alloc (.cells (jjP p) 28)).alloc (.cells jjZ 28))) := ⟨((Below.refl _ _).alloc (Nat.le_refl _) _).alloc (by simp) _⟩
 have HPB : Hk (Bx ((w.alloc (.cells (jjP p) 28)).alloc (.cells jjZ 28)) w.heap.size p) := ⟨(Bx.new w p).al _⟩
 have e1 : (w.alloc (.cells (jjP p) 28)).heap.size = w.heap.size + 1 := by simp
 have HRB : Hk (Bx ((w.alloc (.cells (jjP p) 28)).alloc (.cells jjZ 28)) (w.heap.size + 1) nilV) := ⟨by rw [← e1]; exact Bx.new (w.alloc (.cells (jjP p) 28)) nilV⟩
 have HDP : Hk (∀ X, Below w.heap.size w X → PvD X X.heap.size p) := ⟨fun X hX => h.later hX⟩
 have HS := Hk.mk hs
 clear e1 h hs
 go_enter Try.func13, Try.ntmps13
 go_upto_region 1 with fail
 generalize ((w.alloc (.cells (jjP p) 28)).alloc (.cells jjZ 28)) = V at *
 obtain ⟨y0, y1, y2, y3, y4, y5, y6, y7, y8, y9, y10, yl⟩ := HPB.out.cs
 go_upto_region 7 with (go_at_call 25; (with_reducible refine (pcheck_as true 0 p _ (HDP.out _ HBW.out) HS.out ⟨⟨fun _ => rfl, fun _ => HOK.out⟩⟩ ⟨rfl⟩).mono ?_); rintro e z1 ⟨rfl, hb⟩; have HP9 := Hk.mk (HPB.out.below hb); have HR9 := Hk.mk (HRB.out.below hb); have HB9 := Hk.mk (HBW.out.trans (hb.mono HBW.out.size)); clear hb HPB HRB HBW; clear y0 y1 y2 y3 y4 y5 y6 y7 y8 y9 y10 yl; have HPB := HP9; have HRB := HR9; have HBW := HB9; clear HP9 HR9 HB9; obtain ⟨y0, y1, y2, y3, y4, y5, y6, y7, y8, y9, y10, yl⟩ := HPB.out.cs)
 clear f1 f2
 have HP9 : Hk (Bx (z1.alloc (.cells #[.int .i64 (p.s + 1), .int .i64 p.i, .slice la ln lc] 55)) w.heap.size p) := ⟨HPB.out.al _⟩
 have HR9 : Hk (Bx (z1.alloc (.cells #[.int .i64 (p.s + 1), .int .i64 p.i, .slice la ln lc] 55)) (w.heap.size + 1) nilV) := ⟨HRB.out.al _⟩
 have HB9 : Hk (Below w.heap.size w (z1.alloc (.cells #[.int .i64 (p.s + 1), .int .i64 p.i, .slice la ln lc] 55))) := ⟨kw_al HBW.out (Nat.le_refl _) _⟩
 have HXI := Hk.mk (Bk.new z1 #[.int .i64 (p.s + 1), .int .i64 p.i, .slice la ln lc] 55)
 have HXP : Hk (w.heap.size < z1.heap.size) := ⟨HPB.out.lt⟩
 have HBV1 : Hk (w.heap.size < (z1.alloc (.cells #[.int .i64 (p.s + 1), .int .i64 p.i, .slice la ln lc] 55)).heap.size) := ⟨by have := HPB.out.lt; simp; omega⟩
 clear HPB HRB HBW
 clear y0 y1 y2 y3 y4 y5 y6 y7 y8 y9 y10 yl
 generalize z1.heap.size = Xi at *
 generalize (z1.alloc (.cells #[.int .i64 (p.s + 1), .int .i64 p.i, .slice la ln lc] 55)) = V1 at *
 have HPB := HP9
 have HRB := HR9
 have HBW := HB9
 clear HP9 HR9 HB9
 obtain ⟨y0, y1, y2, y3, y4, y5, y6, y7, y8, y9, y10, yl⟩ := HPB.out.cs
 have HXV := Hk.mk HXI.out.lt
 have i0 := HXI.out.c 0
 have i1 := HXI.out.c 1
 have i2 := HXI.out.c 2
 have il := HXI.out.lt
 simp at i0 i1 i2
 go_upto_region 10 with (go_at_call 26; (with_reducible refine (tput_yes ⟨p.s + 1, p.i, la, ln, lc, l⟩ (some M) p.la p.ln p.lc p.ll _ (HDP.out _ HBW.out).l HS.out.l (HLX.out _ HBW.out) HSL.out HEA.out HEP.out).mono ?_); rintro e z4 hput; obtain ⟨s2, n2, e2, M2, rfl, hm2, ha2⟩ := hput.yes M rfl; have hb := hput.bl; have HV1 : Hk (V1.heap.size ≤ z4.heap.size) := ⟨hput.bl.size⟩; have HM4 := Hk.mk hm2; have HA2 := Hk.mk ha2; have HX4 := Hk.mk (HXI.out.below hb); clear hput hm2 ha2 HXI; have HP9 := Hk.mk (HPB.out.below hb); have HR9 := Hk.mk (HRB.out.below hb); have HB9 := Hk.mk (HBW.out.trans (hb.mono HBW.out.size)); clear hb HPB HRB HBW; clear y0 y1 y2 y3 y4 y5 y6 y7 y8 y9 y10 yl; have HPB := HP9; have HRB := HR9; have HBW := HB9; clear HP9 HR9 HB9; obtain ⟨y0, y1, y2, y3, y4, y5, y6, y7, y8, y9, y10, yl⟩ := HPB.out.cs)
 clear i0 i1 i2 il
 go_upto_region 11 with (go_at_call 27; (with_reducible refine (cpq_any p _ (HDP.out _ HBW.out) HS.out).mono ?_); rintro e z5 ⟨u, N3, N4, rfl, ho, hlay, hn3, hab, g1', g2', g3', g4', g5', hb⟩; have HO3 := Hk.mk (ho.weak HBW.out.size); have HMLO : Hk (∀ j, Value.ownBlock (.slice u.ma u.mn u.mc) = some j → z4.heap.size ≤ j) := ⟨fun j hj => (ho.m.o.lt j hj).1⟩; have HLY := Hk.mk hlay; have HN3 := Hk.mk hn3; have HAU := Hk.mk hab; have HSU := Hk.mk (HS.out.like (HDP.out _ HBW.out) ho.d hab g1' g2' g3' g4' g5'); have HLN : Hk (u.hn = p.hn ∧ u.an = p.an) := ⟨⟨g3', g4'⟩⟩; have HLM : Hk (u.mn = p.mn ∧ u.ln = p.ln) := ⟨⟨g1', g2'⟩⟩; have HP3 := Hk.mk (HPB.out.below hb); have HR3 := Hk.mk (HRB.out.below hb); have HX3 := Hk.mk (HX4.out.below hb); have HB3 := Hk.mk (HBW.out.trans (hb.mono HBW.out.size)); have HF3 : Hk (Fr (fun j => j = w.heap.size) z4 z5) := ⟨Fr.of_all hb⟩; have HPK := Hk.mk HP3.out.bk; clear ho hlay hn3 hab g1' g2' g3' g4' g5' hb; have m0 := HPK.out.c 0; have k0 := HPK.out.f 0; have m1 := HPK.out.c 1; have k1 := HPK.out.f 1; have m2 := HPK.out.c 2; have k2 := HPK.out.f 2; have m3 := HPK.out.c 3; have k3 := HPK.out.f 3; have m4 := HPK.out.c 4; have k4 := HPK.out.f 4; have m5 := HPK.out.c 5; have k5 := HPK.out.f 5; have m6 := HPK.out.c 6; have k6 := HPK.out.f 6; have m7 := HPK.out.c 7; have k7 := HPK.out.f 7; have m8 := HPK.out.c 8; have k8 := HPK.out.f 8; have m9 := HPK.out.c 9; have k9 := HPK.out.f 9; have m10 := HPK.out.c 10; have k10 := HPK.out.f 10; simp at m0 m1 m2 m3 m4 m5 m6 m7 m8 m9 m10)
 clear m0 m1 m2 m3 m4 m5 m6 m7 m8 m9 m10 k0 k1 k2 k3 k4 k5 k6 k7 k8 k9 k10 HPK
 have HP5 : Hk (Bx ((((((((((((World.setCell z5 ⟨w.heap.size, 0, none⟩ (.int .i64 u.i)).setCell ⟨w.heap.size, 1, none⟩ (.int .i64 u.n)).setCell ⟨w.heap.size, 2, none⟩ (.int .i64 u.d)).setCell ⟨w.heap.size, 3, none⟩ (.int .i64 u.t)).setCell ⟨w.heap.size, 4, none⟩ (.int .i64 u.s)).setCell ⟨w.heap.size, 5, none⟩ (.slice u.ma u.mn u.mc)).setCell ⟨w.heap.size, 6, none⟩ (.slice u.la u.ln u.lc)).setCell ⟨w.heap.size, 7, none⟩ (.slice u.ha u.hn u.hc)).setCell ⟨w.heap.size, 8, none⟩ (.slice u.aa u.an u.ac)).setCell ⟨w.heap.size, 9, none⟩ (.slice u.xa u.xn u.xc)).setCell ⟨w.heap.size, 10, none⟩ (.bool u.b))) w.heap.size u) := ⟨HP3.out.put u⟩
 have HR5 : Hk (Bx ((((((((((((World.setCell z5 ⟨w.heap.size, 0, none⟩ (.int .i64 u.i)).setCell ⟨w.heap.size, 1, none⟩ (.int .i64 u.n)).setCell ⟨w.heap.size, 2, none⟩ (.int .i64 u.d)).setCell ⟨w.heap.size, 3, none⟩ (.int .i64 u.t)).setCell ⟨w.heap.size, 4, none⟩ (.int .i64 u.s)).setCell ⟨w.heap.size, 5, none⟩ (.slice u.ma u.mn u.mc)).setCell ⟨w.heap.size, 6, none⟩ (.slice u.la u.ln u.lc)).setCell ⟨w.heap.size, 7, none⟩ (.slice u.ha u.hn u.hc)).setCell ⟨w.heap.size, 8, none⟩ (.slice u.aa u.an u.ac)).setCell ⟨w.heap.size, 9, none⟩ (.slice u.xa u.xn u.xc)).setCell ⟨w.heap.size, 10, none⟩ (.bool u.b))) (w.heap.size + 1) nilV) := ⟨HR3.out.fr (fr_put u) (by omega)⟩
 have HX5 : Hk (Bk ((((((((((((World.setCell z5 ⟨w.heap.size, 0, none⟩ (.int .i64 u.i)).setCell ⟨w.heap.size, 1, none⟩ (.int .i64 u.n)).setCell ⟨w.heap.size, 2, none⟩ (.int .i64 u.d)).setCell ⟨w.heap.size, 3, none⟩ (.int .i64 u.t)).setCell ⟨w.heap.size, 4, none⟩ (.int .i64 u.s)).setCell ⟨w.heap.size, 5, none⟩ (.slice u.ma u.mn u.mc)).setCell ⟨w.heap.size, 6, none⟩ (.slice u.la u.ln u.lc)).setCell ⟨w.heap.size, 7, none⟩ (.slice u.ha u.hn u.hc)).setCell ⟨w.heap.size, 8, none⟩ (.slice u.aa u.an u.ac)).setCell ⟨w.heap.size, 9, none⟩ (.slice u.xa u.xn u.xc)).setCell ⟨w.heap.size, 10, none⟩ (.bool u.b))) Xi #[.int .i64 (p.s + 1), .int .i64 p.i, .slice la ln lc]) := ⟨HX3.out.frz (fr_put u) (by have := HXP.out; omega)⟩
 have HKP := Hk.mk (Kt.put HP3.out (Nat.le_refl _) u)
 have HO5 : Hk (PvO ((((((((((((World.setCell z5 ⟨w.heap.size, 0, none⟩ (.int .i64 u.i)).setCell ⟨w.heap.size, 1, none⟩ (.int .i64 u.n)).setCell ⟨w.heap.size, 2, none⟩ (.int .i64 u.d)).setCell ⟨w.heap.size, 3, none⟩ (.int .i64 u.t)).setCell ⟨w.heap.size, 4, none⟩ (.int .i64 u.s)).setCell ⟨w.heap.size, 5, none⟩ (.slice u.ma u.mn u.mc)).setCell ⟨w.heap.size, 6, none⟩ (.slice u.la u.ln u.lc)).setCell ⟨w.heap.size, 7, none⟩ (.slice u.ha u.hn u.hc)).setCell ⟨w.heap.size, 8, none⟩ (.slice u.aa u.an u.ac)).setCell ⟨w.heap.size, 9, none⟩ (.slice u.xa u.xn u.xc)).setCell ⟨w.heap.size, 10, none⟩ (.bool u.b))) w.heap.size u) := ⟨HKP.out.pvo HO3.out⟩
 have HF5 : Hk (Fr (fun j => j = w.heap.size) z4 ((((((((((((World.setCell z5 ⟨w.heap.size, 0, none⟩ (.int .i64 u.i)).setCell ⟨w.heap.size, 1, none⟩ (.int .i64 u.n)).setCell ⟨w.heap.size, 2, none⟩ (.int .i64 u.d)).setCell ⟨w.heap.size, 3, none⟩ (.int .i64 u.t)).setCell ⟨w.heap.size, 4, none⟩ (.int .i64 u.s)).setCell ⟨w.heap.size, 5, none⟩ (.slice u.ma u.mn u.mc)).setCell ⟨w.heap.size, 6, none⟩ (.slice u.la u.ln u.lc)).setCell ⟨w.heap.size, 7, none⟩ (.slice u.ha u.hn u.hc)).setCell ⟨w.heap.size, 8, none⟩ (.slice u.aa u.an u.ac)).setCell ⟨w.heap.size, 9, none⟩ (.slice u.xa u.xn u.xc)).setCell ⟨w.heap.size, 10, none⟩ (.bool u.b)))) := ⟨HF3.out.trans (fr_put u)⟩
 have HB5 : Hk (Below w.heap.size w ((((((((((((World.setCell z5 ⟨w.heap.size, 0, none⟩ (.int .i64 u.i)).setCell ⟨w.heap.size, 1, none⟩ (.int .i64 u.n)).setCell ⟨w.heap.size, 2, none⟩ (.int .i64 u.d)).setCell ⟨w.heap.size, 3, none⟩ (.int .i64 u.t)).setCell ⟨w.heap.size, 4, none⟩ (.int .i64 u.s)).setCell ⟨w.heap.size, 5, none⟩ (.slice u.ma u.mn u.mc)).setCell ⟨w.heap.size, 6, none⟩ (.slice u.la u.ln u.lc)).setCell ⟨w.heap.size, 7, none⟩ (.slice u.ha u.hn u.hc)).setCell ⟨w.heap.size, 8, none⟩ (.slice u.aa u.an u.ac)).setCell ⟨w.heap.size, 9, none⟩ (.slice u.xa u.xn u.xc)).setCell ⟨w.heap.size, 10, none⟩ (.bool u.b)))) := ⟨HB3.out.trans HKP.out.bl⟩
 have HN5 : Hk (z5.heap.size ≤ (((((((((((((World.setCell z5 ⟨w.heap.size, 0, none⟩ (.int .i64 u.i)).setCell ⟨w.heap.size, 1, none⟩ (.int .i64 u.n)).setCell ⟨w.heap.size, 2, none⟩ (.int .i64 u.d)).setCell ⟨w.heap.size, 3, none⟩ (.int .i64 u.t)).setCell ⟨w.heap.size, 4, none⟩ (.int .i64 u.s)).setCell ⟨w.heap.size, 5, none⟩ (.slice u.ma u.mn u.mc)).setCell ⟨w.heap.size, 6, none⟩ (.slice u.la u.ln u.lc)).setCell ⟨w.heap.size, 7, none⟩ (.slice u.ha u.hn u.hc)).setCell ⟨w.heap.size, 8, none⟩ (.slice u.aa u.an u.ac)).setCell ⟨w.heap.size, 9, none⟩ (.slice u.xa u.xn u.xc)).setCell ⟨w.heap.size, 10, none⟩ (.bool u.b)))).heap.size) := ⟨HKP.out.bl.size⟩
 have HML : Hk (∀ x, x ∈ u.ml → ∃ W0, CmD W0 N3 x.a x.n x.l) := ⟨fun x hx => ⟨_, HLY.out.m.u x hx⟩⟩
 have HHQ : Hk (∃ W0, Nq W0 N4 u.ha u.hn u.hl) := ⟨⟨_, HLY.out.hq⟩⟩
 have HLQ : Hk (∀ x, x ∈ M2 → ∃ W0, CmD W0 N3 x.a x.n x.l) := ⟨fun x hx => ⟨z4, (HM4.out.d.u x hx).mono HN3.out⟩⟩
 have HVP : Hk (w.heap.size < V1.heap.size) := ⟨by have h1 := HBV1.out; omega⟩
 obtain ⟨ga, ea, hga1, hga2⟩ : ∃ ga, u.aa = some ⟨ga, 0, none⟩ ∧ N4 ≤ ga ∧ ga < z5.heap.size := by
  rcases HLY.out.a.blk with ⟨_, e, _⟩ | ⟨ga, e, h1, h2, _⟩
  ·have := HK1.out; have := HLN.out; omega
  ·exact ⟨ga, e, h1, h2⟩
 obtain ⟨gh, eh, hgh1, hgh2⟩ : ∃ gh, u.ha = some ⟨gh, 0, none⟩ ∧ N3 ≤ gh ∧ gh < N4 := by
  obtain ⟨b, off, e, hb, _⟩ := HLY.out.hq.rd (by have := HK1.out; have := HLN.out; omega)
  rcases HLY.out.h.blk with ⟨_, e, _⟩ | ⟨gh, e1, h1, h2, _⟩
  ·have := HK1.out; have := HLN.out; omega
  ·rw [e1] at e
   injection e with e
   injection e with e2 e3
   subst e2
   exact ⟨gh, e1, h1, hb⟩
 have HGA : Hk (u.aa = some ⟨ga, 0, none⟩ ∧ N4 ≤ ga ∧ ga < z5.heap.size) := ⟨⟨ea, hga1, hga2⟩⟩
 have HGH : Hk (u.ha = some ⟨gh, 0, none⟩ ∧ N3 ≤ gh ∧ gh < N4) := ⟨⟨eh, hgh1, hgh2⟩⟩
 have HN34 : Hk (V1.heap.size ≤ z4.heap.size ∧ z4.heap.size ≤ N3 ∧ N3 ≤ N4 ∧ N4 ≤ z5.heap.size ∧ w.heap.size ≤ N3) := ⟨⟨HV1.out, HN3.out, HLY.out.le, by omega, by have h1 := HVP.out; have h2 := HV1.out; have h3 := HN3.out; omega⟩⟩
 have HSM := Hk.mk (put_mem HEP.out.out)
 have HLL : Hk (∀ x, x ∈ p.ll → ∀ c, c ∈ x.l → c.u.length = c.m) := ⟨fun x hx c hc => (((HDP.out w (Below.refl _ _)).l.u x hx).u c hc).len⟩
 have HLC : Hk (∀ c, c ∈ l → c.u.length = c.m) := ⟨fun c hc => ((HLX.out w (Below.refl _ _)).u c hc).len⟩
 have HLL2 : Hk (p.ll.length + 1 ≤ 1048576) := ⟨by have h1 := (HDP.out w (Below.refl _ _)).l.q.len; have h3 := HLN2.out; omega⟩
 clear HP3 HR3 HX3 HO3 HF3 HB3 HKP HLY HN3 HPB HRB HBW HX4 ea hga1 hga2 eh hgh1 hgh2
 clear y0 y1 y2 y3 y4 y5 y6 y7 y8 y9 y10 yl
 generalize z5.heap.size = N5 at *
 generalize ((((((((((((World.setCell z5 ⟨w.heap.size, 0, none⟩ (.int .i64 u.i)).setCell ⟨w.heap.size, 1, none⟩ (.int .i64 u.n)).setCell ⟨w.heap.size, 2, none⟩ (.int .i64 u.d)).setCell ⟨w.heap.size, 3, none⟩ (.int .i64 u.t)).setCell ⟨w.heap.size, 4, none⟩ (.int .i64 u.s)).setCell ⟨w.heap.size, 5, none⟩ (.slice u.ma u.mn u.mc)).setCell ⟨w.heap.size, 6, none⟩ (.slice u.la u.ln u.lc)).setCell ⟨w.heap.size, 7, none⟩ (.slice u.ha u.hn u.hc)).setCell ⟨w.heap.size, 8, none⟩ (.slice u.aa u.an u.ac)).setCell ⟨w.heap.size, 9, none⟩ (.slice u.xa u.xn u.xc)).setCell ⟨w.heap.size, 10, none⟩ (.bool u.b))) = V5 at *
 obtain ⟨d0, d1, d2, d3, d4, d5, d6, d7, d8, d9, d10, dl⟩ := HP5.out.cs; obtain ⟨-, -, -, -, q4, q5, q6, -, -, -, -⟩ := HP5.out.fs
 go_upto_region 12 with fail
 obtain ⟨u1, hu1⟩ : ∃ x : Pv, x = { u with la := s2, ln := n2, lc := e2, ll := M2 } := ⟨_, rfl⟩
 have HP6 : Hk (Bx (V5.setCell ⟨w.heap.size, 6, none⟩ (.slice s2 n2 e2)) w.heap.size u1) := ⟨by rw [hu1]; exact HP5.out.set 6 _ _ rfl⟩
 have HR6 : Hk (Bx (V5.setCell ⟨w.heap.size, 6, none⟩ (.slice s2 n2 e2)) (w.heap.size + 1) nilV) := ⟨HR5.out.oth (by omega) _ _⟩
 have HX6 : Hk (Bk (V5.setCell ⟨w.heap.size, 6, none⟩ (.slice s2 n2 e2)) Xi #[.int .i64 (p.s + 1), .int .i64 p.i, .slice la ln lc]) := ⟨HX5.out.oth (by have := HXP.out; omega) _ _⟩
 have HF6 : Hk (Fr (fun j => j = w.heap.size) z4 (V5.setCell ⟨w.heap.size, 6, none⟩ (.slice s2 n2 e2))) := ⟨HF5.out.setCell (p := ⟨w.heap.size, 6, none⟩) (fun _ => rfl) _⟩
 have HK6 := Hk.mk (Kt.set (Nat.le_refl _) HP5.out.bl 6 (.slice s2 n2 e2))
 have HO6 : Hk (PvO (V5.setCell ⟨w.heap.size, 6, none⟩ (.slice s2 n2 e2)) w.heap.size u1) := ⟨by rw [hu1]; exact HK6.out.pvo (HO5.out.setl ((HM4.out.up HF5.out (fun j hj e => by have := HVP.out; omega)).weak (Nat.le_of_lt HVP.out)))⟩
 have HB6 := Hk.mk (HB5.out.trans HK6.out.bl)
 have HN6 : Hk (N5 ≤ (V5.setCell ⟨w.heap.size, 6, none⟩ (.slice s2 n2 e2)).heap.size) := ⟨Nat.le_trans HN5.out HK6.out.bl.size⟩
 have HU1 := Hk.mk hu1
 clear hu1 HP5 HR5 HX5 HF5 HK6 HO5 HB5 HN5
 clear d0 d1 d2 d3 d4 d5 d6 d7 d8 d9 d10 dl q4 q5 q6
 generalize (V5.setCell ⟨w.heap.size, 6, none⟩ (.slice s2 n2 e2)) = V6 at *
 obtain ⟨d0, d1, d2, d3, d4, d5, d6, d7, d8, d9, d10, dl⟩ := HP6.out.cs; obtain ⟨-, -, -, -, q4, q5, q6, -, -, -, -⟩ := HP6.out.fs
 have HN1 : Hk (u1.n = p.n) := ⟨by rw [HU1.out]; exact ((ab_iff u p).1 HAU.out).2.1⟩
 obtain ⟨bb, f0⟩ : ∃ bb, decide ((1 : Int) < u1.n) = bb := ⟨_, rfl⟩
 go_upto_if 54 with fail
 have HF0 := Hk.mk f0
 clear f0
 go_cut [] (fun wx => ∃ u2 : Pv, Hk (Bx wx w.heap.size u2) ∧ Hk (PvO wx w.heap.size u2) ∧ Hk (∀ x, x ∈ u2.ml → (∃ W0, CmD W0 N3 x.a x.n x.l) ∨ OwCE wx N5 x.a x.n x.c x.l) ∧ Hk (∃ ma mn mc ml, u2 = { u1 with ma := ma, mn := mn, mc := mc, ml := ml } ∧ abI ml = (if 1 < p.n then abI u.ml ++ [sayI p.ab (abC l)] else abI u.ml) ∧ SmI ml) ∧ Hk (Bx wx (w.heap.size + 1) nilV) ∧ Hk (Below w.heap.size w wx))
 case first =>
  cases bb
  ·go_wp2
   go_meet
   case rel => exact ⟨u1, HP6, HO6, ⟨fun x hx => .inl (HML.out x (by rw [HU1.out] at hx; exact hx))⟩, ⟨u1.ma, u1.mn, u1.mc, u1.ml, rfl, by rw [if_neg (HN1.out ▸ of_decide_eq_false HF0.out), HU1.out], by rw [HU1.out]; exact HSU.out.m⟩, HR6, HB6⟩
  ·have i0 := HX6.out.c 0
   have i1 := HX6.out.c 1
   have i2 := HX6.out.c 2
   have il : Xi < z4.heap.size := by have h1 := HXV.out; have h2 := HN34.out.1; omega
   have xn : ¬ Xi = w.heap.size := by have := HXP.out; omega
   have HBZ6 : Hk (w.heap.size ≤ V6.heap.size) := ⟨HB6.out.size⟩
   simp at i0 i1 i2
   have hxm : u1.ma = u.ma ∧ u1.mn = u.mn ∧ u1.mc = u.mc ∧ u1.ml = u.ml := by rw [HU1.out]; exact ⟨rfl, rfl, rfl, rfl⟩
   have HXM := Hk.mk hxm
   rw [hxm.1, hxm.2.1, hxm.2.2.1] at d5
   clear hxm d0 d1 d2 d3 d4 d6 d7 d8 d9 d10 q4 q6
   go_upto_region 13 with fail
   refine wp_region_held_drew (S := (fun X => (∀ b o, b < z4.heap.size → ¬ b = w.heap.size → X.cell? ⟨b, o, none⟩ = V6.cell? ⟨b, o, none⟩) ∧ Fr (fun j => j = w.heap.size ∨ z4.heap.size ≤ j) V6 X)) (by kernel_rfl) ?_ (fun hHeld => ?_)
   ·exact frS13 (Fr.refl _ _).drew HF6.out.size
   have HI : Ix [0, 2] := trivial
   iterate 2 (refine tkA HI (v := ?_) rfl (by kernel_rfl) (fun _ _ _ h => h) (.inl ⟨by rfl, fun wX hSw => ?_⟩) hHeld (fun HJ => ?_); rotate_left; (focus ((try dsimp only at hSw); go_simp; try with_reducible rfl)); clear HI; have HI := HJ; clear HJ; try simp only [Act.put, jjA, jjB, jjC, jjD, jjE, jjF])
   clear HI
   refine wpAnyH_ready (rs := [1, 3]) (by kernel_rfl) (by simp) ?_
   refine AllReadyH.cons rfl (fun K hK => ?_) (AllReadyH.cons rfl (fun K hK => ?_) (AllReadyH.nil))
   ·skip
    go_simp
    refine hK.out _ _ ?_ (fun hHeld => ?_)
    ·first | exact frS13 hHeld.2 HF6.out.size | exact frS13 (hHeld.2.trans (Fr.of_all hb)) HF6.out.size | exact frS13 (hHeld.2.alloc _) HF6.out.size | exact frS13 HS9.out HF6.out.size | exact frS13 (hHeld.2.setCell (p := ⟨w.heap.size, 5, none⟩) (fun _ => .inl rfl) _) HF6.out.size
    clear hK K
    (try simp only [Act.put, jjA, jjB, jjC, jjD, jjE, jjF])
    refine wpAnyH_ready (rs := [3]) (by kernel_rfl) (by simp) ?_
    refine AllReadyH.cons rfl (fun K hK => ?_) (AllReadyH.nil)
    go_simp
    ((go_at_call 28; (with_reducible refine (cpin_any (p.s + 1) p.i la ln lc l _ (HLX.out _ HB6.out.drew) HSL.out).mono ?_); rintro e z6 ⟨a3, c3, L3, rfl, ho, hab, hb⟩; have HO3c := Hk.mk ho; have HA3c := Hk.mk hab; have HZ5 : Hk (Below V6.heap.size V6 z6) := ⟨kw_step ((Below.refl _ _).drew) (Nat.le_refl _) hb⟩; have y5 := (HP6.out.below HZ5.out).bk.c 5; have yl9 := (HP6.out.below HZ5.out).lt; have eM := HXM.out; simp at y5; rw [eM.1, eM.2.1, eM.2.2.1] at y5; clear ho hab eM))
    refine hK.out _ _ ?_ (fun hHeld => ?_)
    ·first | exact frS13 hHeld.2 HF6.out.size | exact frS13 (hHeld.2.trans (Fr.of_all hb)) HF6.out.size | exact frS13 (hHeld.2.alloc _) HF6.out.size | exact frS13 HS9.out HF6.out.size | exact frS13 (hHeld.2.setCell (p := ⟨w.heap.size, 5, none⟩) (fun _ => .inl rfl) _) HF6.out.size
    clear hK K
    (try simp only [Act.put, jjA, jjB, jjC, jjD, jjE, jjF])
    refine wpAnyH_ready (rs := [4]) (by kernel_rfl) (by simp) ?_
    refine AllReadyH.cons rfl (fun K hK => ?_) (AllReadyH.nil)
    go_simp
    refine hK.out _ _ ?_ (fun hHeld => ?_)
    ·first | exact frS13 hHeld.2 HF6.out.size | exact frS13 (hHeld.2.trans (Fr.of_all hb)) HF6.out.size | exact frS13 (hHeld.2.alloc _) HF6.out.size | exact frS13 HS9.out HF6.out.size | exact frS13 (hHeld.2.setCell (p := ⟨w.heap.size, 5, none⟩) (fun _ => .inl rfl) _) HF6.out.size
    clear hK K
    (try simp only [Act.put, jjA, jjB, jjC, jjD, jjE, jjF])
    refine wpAnyH_ready (rs := [5]) (by kernel_rfl) (by simp) ?_
    refine AllReadyH.cons rfl (fun K hK => ?_) (AllReadyH.nil)
    (have HOA : Hk (PvO (z6.alloc (.cells #[.int .i64 (p.s + 1), .int .i64 p.i, .slice a3 ln c3] 55)) w.heap.size u1) := ⟨(HO6.out.below HZ5.out).below (below_al _ _)⟩; have HRW : Hk (World.ownsRow (z6.alloc (.cells #[.int .i64 (p.s + 1), .int .i64 p.i, .slice a3 ln c3] 55)) w.heap.size 55 3 (.slice u.ma u.mn u.mc) u.mn (flt shI u.ml)) := ⟨by have := HOA.out.m.o.row; rw [HXM.out.1, HXM.out.2.1, HXM.out.2.2.1, HXM.out.2.2.2] at this; exact this⟩; have HBL : Hk (w.heap.size ≤ (z6.alloc (.cells #[.int .i64 (p.s + 1), .int .i64 p.i, .slice a3 ln c3] 55)).heap.size) := ⟨Nat.le_trans HBZ6.out (Nat.le_trans HZ5.out.size (by simp))⟩; refine step_append27 (by rfl) (.tmp 56) (.tmp 59) 24 (by rfl) w.heap.size 55 ii (.agg #[.int .i64 0, .int .i64 0, .slice none 0 0]) 3 40 Try.underlying24 hii hiz0 hiz1 hiz2 (by rfl) (by decide) (.slice u.ma u.mn u.mc) u.mn (flt shI u.ml) (by rfl) HRW.out ⟨z6.heap.size, 0, none⟩ 1 1 ((⟨p.s + 1, p.i, a3, ln, c3, L3⟩ : Iv).cs) (by rfl) (by rfl) (lit_at z6 _ _) (is_one _) (by have h1 := HMN.out; have h2 := HLM.out.1; unfold maxLen; omega) (by have h1 := HMN.out; have h2 := HLM.out.1; omega) HBL.out ?_; intro v9 z9 hown hgrow; obtain ⟨g9, c9, rfl, hcc9, hg9, hg9'⟩ := row_slice hown (by omega); have HKI := Hk.mk (Kt.grown HBL.out HRW.out hgrow); have HOWN := Hk.mk hown; have HGRW := Hk.mk hgrow; have HQ9a := Hk.mk (((HP6.out.below HZ5.out).al (.cells #[.int .i64 (p.s + 1), .int .i64 p.i, .slice a3 ln c3] 55)).kt HKI.out (by decide)); have HB9a : Hk (Below w.heap.size V6 z9) := ⟨((HZ5.out.mono HBZ6.out).trans ((below_al z6 (.cells #[.int .i64 (p.s + 1), .int .i64 p.i, .slice a3 ln c3] 55)).mono (Nat.le_trans HBZ6.out HZ5.out.size))).trans HKI.out.bl⟩; have w5 := HQ9a.out.bk.c 5; have wf5 := HQ9a.out.bk.f 5; have wl5 := HQ9a.out.lt; simp at w5; clear hown hgrow; have HFG : Hk (Fr (fun j => Value.ownBlock (.slice u.ma u.mn u.mc) = some j) (z6.alloc (.cells #[.int .i64 (p.s + 1), .int .i64 p.i, .slice a3 ln c3] 55)) z9) := ⟨(Fr.refl _ _).grown HGRW.out (fun j _ e => e)⟩; have HF9 : Hk (Fr (fun j => j = w.heap.size) z4 z9) := ⟨((HF6.out.trans (Fr.of_all HZ5.out)).trans (Fr.of_all (below_al _ _))).andThen HFG.out (fun j hj e => absurd hj (by have := HMLO.out j e; omega))⟩; have HS9 : Hk (Fr (fun j => j = w.heap.size ∨ z4.heap.size ≤ j) V6 z9) := ⟨((Fr.of_all HZ5.out).trans (Fr.of_all (below_al _ _))).andThen HFG.out (fun j hj e => .inr (HMLO.out j e))⟩)
    refine hK.out _ _ ?_ (fun hHeld => ?_)
    ·first | exact frS13 hHeld.2 HF6.out.size | exact frS13 (hHeld.2.trans (Fr.of_all hb)) HF6.out.size | exact frS13 (hHeld.2.alloc _) HF6.out.size | exact frS13 HS9.out HF6.out.size | exact frS13 (hHeld.2.setCell (p := ⟨w.heap.size, 5, none⟩) (fun _ => .inl rfl) _) HF6.out.size
    clear hK K
    (try simp only [Act.put, jjA, jjB, jjC, jjD, jjE, jjF])
    have HI : Ix [6] := trivial
    (refine tkA HI (v := ?_) rfl (by kernel_rfl) (fun _ _ _ h => h) (.inl ⟨by rfl, fun wX hSw => ?_⟩) hHeld (fun HJ => ?_); rotate_left; (focus ((try dsimp only at hSw); go_simp; try with_reducible rfl)); clear HI; have HI := HJ; clear HJ; try simp only [Act.put, jjA, jjB, jjC, jjD, jjE, jjF])
    clear HI
    refine wpAnyH_ready (rs := [7]) (by kernel_rfl) (by simp) ?_
    refine AllReadyH.cons rfl (fun K hK => ?_) (AllReadyH.nil)
    go_simp
    refine hK.out _ _ ?_ (fun hHeld => ?_)
    ·first | exact frS13 hHeld.2 HF6.out.size | exact frS13 (hHeld.2.trans (Fr.of_all hb)) HF6.out.size | exact frS13 (hHeld.2.alloc _) HF6.out.size | exact frS13 HS9.out HF6.out.size | exact frS13 (hHeld.2.setCell (p := ⟨w.heap.size, 5, none⟩) (fun _ => .inl rfl) _) HF6.out.size
    clear hK K
    (try simp only [Act.put, jjA, jjB, jjC, jjD, jjE, jjF])
    refine wpAnyH_done (by kernel_rfl) ?_ _
    have HFQ : Hk (Fr (fun j => j = w.heap.size) z9 (z9.setCell ⟨w.heap.size, 5, none⟩ (.slice (some ⟨g9, 0, none⟩) (u.mn + 1) c9))) := ⟨Fr.setCell (M := fun j => j = w.heap.size) (p := ⟨w.heap.size, 5, none⟩) (Fr.refl _ z9) (fun _ => rfl) _⟩
    have HKQ := Hk.mk (Kt.set (Nat.le_refl _) HQ9a.out.bl 5 (.slice (some ⟨g9, 0, none⟩) (u.mn + 1) c9))
    have HN9 : Hk (OwCE z9 V6.heap.size a3 ln c3 L3) := ⟨HKI5 HKI.out HGRW.out HRW.out HO3c.out HZ5.out⟩
    have HM9 : Hk (OwN z9 V1.heap.size (.slice s2 n2 e2) n2 M2) := ⟨HM4.out.up HF9.out (fun j hj e => by have := HVP.out; omega)⟩
    have HML9 : Hk (OwN z9 w.heap.size (.slice (some ⟨g9, 0, none⟩) (u.mn + 1) c9) (u.mn + 1) (u.ml ++ [(⟨p.s + 1, p.i, a3, ln, c3, L3⟩ : Iv)])) := ⟨⟨by have h1 := HOA.out.m.o.len; rw [HXM.out.2.1, HXM.out.2.2.2] at h1; rw [List.length_append, h1]; rfl, by rw [flt_app, flt_one1]; exact HOWN.out⟩, fun y hy => by
     rcases List.mem_append.1 hy with hy | hy
     ·exact HKI.out.owce (HOA.out.m.u y (by rw [HXM.out.2.2.2]; exact hy)) (by decide) (by decide)
     ·obtain rfl := List.mem_singleton.1 hy
      exact HN9.out.weak HBZ6.out⟩
    have HO9a : Hk (PvO z9 w.heap.size { u1 with ma := some ⟨g9, 0, none⟩, mn := u.mn + 1, mc := c9, ml := u.ml ++ [(⟨p.s + 1, p.i, a3, ln, c3, L3⟩ : Iv)] }) := ⟨HML9.out, by rw [HU1.out]; exact HM9.out.weak (Nat.le_of_lt HVP.out), HKI.out.owni HOA.out.h (by decide), HKI.out.owni HOA.out.a (by decide), HKI.out.ow HOA.out.x (by decide)⟩
    go_wp2
    go_meet
    case rel => exact ⟨{ u1 with ma := some ⟨g9, 0, none⟩, mn := u.mn + 1, mc := c9, ml := u.ml ++ [(⟨p.s + 1, p.i, a3, ln, c3, L3⟩ : Iv)] }, ⟨HQ9a.out.set 5 _ _ rfl⟩, ⟨HKQ.out.pvo HO9a.out⟩, ⟨fun x hx => by
      rcases List.mem_append.1 hx with hx | hx
      ·exact .inl (HML.out x hx)
      ·obtain rfl := List.mem_singleton.1 hx
       exact .inr ((HN9.out.up HFQ.out (fun j hj e => by have h1 := HP6.out.lt; omega)).weak HN6.out)⟩, ⟨_, _, _, _, rfl, by
      rw [if_pos (HN1.out ▸ of_decide_eq_true HF0.out), abI_app]
      show abI u.ml ++ [(⟨p.s + 1, p.i, abC L3⟩ : In)] = abI u.ml ++ [⟨p.s + 1, p.i, abC l⟩]
      rw [HA3c.out], smI_snoc HSU.out.m (smC_like HA3c.out (fun x hx => (HO3c.out.u x hx).nq.len) HLC.out HSL.out) (by have h1 := HOA.out.m.o.len; rw [HXM.out.2.1, HXM.out.2.2.2] at h1; have h2 := HMN.out; have h3 := HLM.out.1; omega)⟩, ⟨((((HR6.out.below HZ5.out).al (.cells #[.int .i64 (p.s + 1), .int .i64 p.i, .slice a3 ln c3] 55)).kt HKI.out (by decide)).oth (by omega) _ _)⟩, ⟨(HB6.out.trans HB9a.out).trans HKQ.out.bl⟩⟩
   ·skip
    go_simp
    ((go_at_call 28; (with_reducible refine (cpin_any (p.s + 1) p.i la ln lc l _ (HLX.out _ HB6.out.drew) HSL.out).mono ?_); rintro e z6 ⟨a3, c3, L3, rfl, ho, hab, hb⟩; have HO3c := Hk.mk ho; have HA3c := Hk.mk hab; have HZ5 : Hk (Below V6.heap.size V6 z6) := ⟨kw_step ((Below.refl _ _).drew) (Nat.le_refl _) hb⟩; have y5 := (HP6.out.below HZ5.out).bk.c 5; have yl9 := (HP6.out.below HZ5.out).lt; have eM := HXM.out; simp at y5; rw [eM.1, eM.2.1, eM.2.2.1] at y5; clear ho hab eM))
    refine hK.out _ _ ?_ (fun hHeld => ?_)
    ·first | exact frS13 hHeld.2 HF6.out.size | exact frS13 (hHeld.2.trans (Fr.of_all hb)) HF6.out.size | exact frS13 (hHeld.2.alloc _) HF6.out.size | exact frS13 HS9.out HF6.out.size | exact frS13 (hHeld.2.setCell (p := ⟨w.heap.size, 5, none⟩) (fun _ => .inl rfl) _) HF6.out.size
    clear hK K
    (try simp only [Act.put, jjA, jjB, jjC, jjD, jjE, jjF])
    refine wpAnyH_ready (rs := [1, 4]) (by kernel_rfl) (by simp) ?_
    refine AllReadyH.cons rfl (fun K hK => ?_) (AllReadyH.cons rfl (fun K hK => ?_) (AllReadyH.nil))
    ·skip
     go_simp
     refine hK.out _ _ ?_ (fun hHeld => ?_)
     ·first | exact frS13 hHeld.2 HF6.out.size | exact frS13 (hHeld.2.trans (Fr.of_all hb)) HF6.out.size | exact frS13 (hHeld.2.alloc _) HF6.out.size | exact frS13 HS9.out HF6.out.size | exact frS13 (hHeld.2.setCell (p := ⟨w.heap.size, 5, none⟩) (fun _ => .inl rfl) _) HF6.out.size
     clear hK K
     (try simp only [Act.put, jjA, jjB, jjC, jjD, jjE, jjF])
     refine wpAnyH_ready (rs := [4]) (by kernel_rfl) (by simp) ?_
     refine AllReadyH.cons rfl (fun K hK => ?_) (AllReadyH.nil)
     go_simp
     refine hK.out _ _ ?_ (fun hHeld => ?_)
     ·first | exact frS13 hHeld.2 HF6.out.size | exact frS13 (hHeld.2.trans (Fr.of_all hb)) HF6.out.size | exact frS13 (hHeld.2.alloc _) HF6.out.size | exact frS13 HS9.out HF6.out.size | exact frS13 (hHeld.2.setCell (p := ⟨w.heap.size, 5, none⟩) (fun _ => .inl rfl) _) HF6.out.size
     clear hK K
     (try simp only [Act.put, jjA, jjB, jjC, jjD, jjE, jjF])
     refine wpAnyH_ready (rs := [5]) (by kernel_rfl) (by simp) ?_
     refine AllReadyH.cons rfl (fun K hK => ?_) (AllReadyH.nil)
     (have HOA : Hk (PvO (z6.alloc (.cells #[.int .i64 (p.s + 1), .int .i64 p.i, .slice a3 ln c3] 55)) w.heap.size u1) := ⟨(HO6.out.below HZ5.out).below (below_al _ _)⟩; have HRW : Hk (World.ownsRow (z6.alloc (.cells #[.int .i64 (p.s + 1), .int .i64 p.i, .slice a3 ln c3] 55)) w.heap.size 55 3 (.slice u.ma u.mn u.mc) u.mn (flt shI u.ml)) := ⟨by have := HOA.out.m.o.row; rw [HXM.out.1, HXM.out.2.1, HXM.out.2.2.1, HXM.out.2.2.2] at this; exact this⟩; have HBL : Hk (w.heap.size ≤ (z6.alloc (.cells #[.int .i64 (p.s + 1), .int .i64 p.i, .slice a3 ln c3] 55)).heap.size) := ⟨Nat.le_trans HBZ6.out (Nat.le_trans HZ5.out.size (by simp))⟩; refine step_append27 (by rfl) (.tmp 56) (.tmp 59) 24 (by rfl) w.heap.size 55 ii (.agg #[.int .i64 0, .int .i64 0, .slice none 0 0]) 3 40 Try.underlying24 hii hiz0 hiz1 hiz2 (by rfl) (by decide) (.slice u.ma u.mn u.mc) u.mn (flt shI u.ml) (by rfl) HRW.out ⟨z6.heap.size, 0, none⟩ 1 1 ((⟨p.s + 1, p.i, a3, ln, c3, L3⟩ : Iv).cs) (by rfl) (by rfl) (lit_at z6 _ _) (is_one _) (by have h1 := HMN.out; have h2 := HLM.out.1; unfold maxLen; omega) (by have h1 := HMN.out; have h2 := HLM.out.1; omega) HBL.out ?_; intro v9 z9 hown hgrow; obtain ⟨g9, c9, rfl, hcc9, hg9, hg9'⟩ := row_slice hown (by omega); have HKI := Hk.mk (Kt.grown HBL.out HRW.out hgrow); have HOWN := Hk.mk hown; have HGRW := Hk.mk hgrow; have HQ9a := Hk.mk (((HP6.out.below HZ5.out).al (.cells #[.int .i64 (p.s + 1), .int .i64 p.i, .slice a3 ln c3] 55)).kt HKI.out (by decide)); have HB9a : Hk (Below w.heap.size V6 z9) := ⟨((HZ5.out.mono HBZ6.out).trans ((below_al z6 (.cells #[.int .i64 (p.s + 1), .int .i64 p.i, .slice a3 ln c3] 55)).mono (Nat.le_trans HBZ6.out HZ5.out.size))).trans HKI.out.bl⟩; have w5 := HQ9a.out.bk.c 5; have wf5 := HQ9a.out.bk.f 5; have wl5 := HQ9a.out.lt; simp at w5; clear hown hgrow; have HFG : Hk (Fr (fun j => Value.ownBlock (.slice u.ma u.mn u.mc) = some j) (z6.alloc (.cells #[.int .i64 (p.s + 1), .int .i64 p.i, .slice a3 ln c3] 55)) z9) := ⟨(Fr.refl _ _).grown HGRW.out (fun j _ e => e)⟩; have HF9 : Hk (Fr (fun j => j = w.heap.size) z4 z9) := ⟨((HF6.out.trans (Fr.of_all HZ5.out)).trans (Fr.of_all (below_al _ _))).andThen HFG.out (fun j hj e => absurd hj (by have := HMLO.out j e; omega))⟩; have HS9 : Hk (Fr (fun j => j = w.heap.size ∨ z4.heap.size ≤ j) V6 z9) := ⟨((Fr.of_all HZ5.out).trans (Fr.of_all (below_al _ _))).andThen HFG.out (fun j hj e => .inr (HMLO.out j e))⟩)
     refine hK.out _ _ ?_ (fun hHeld => ?_)
     ·first | exact frS13 hHeld.2 HF6.out.size | exact frS13 (hHeld.2.trans (Fr.of_all hb)) HF6.out.size | exact frS13 (hHeld.2.alloc _) HF6.out.size | exact frS13 HS9.out HF6.out.size | exact frS13 (hHeld.2.setCell (p := ⟨w.heap.size, 5, none⟩) (fun _ => .inl rfl) _) HF6.out.size
     clear hK K
     (try simp only [Act.put, jjA, jjB, jjC, jjD, jjE, jjF])
     have HI : Ix [6] := trivial
     (refine tkA HI (v := ?_) rfl (by kernel_rfl) (fun _ _ _ h => h) (.inl ⟨by rfl, fun wX hSw => ?_⟩) hHeld (fun HJ => ?_); rotate_left; (focus ((try dsimp only at hSw); go_simp; try with_reducible rfl)); clear HI; have HI := HJ; clear HJ; try simp only [Act.put, jjA, jjB, jjC, jjD, jjE, jjF])
     clear HI
     refine wpAnyH_ready (rs := [7]) (by kernel_rfl) (by simp) ?_
     refine AllReadyH.cons rfl (fun K hK => ?_) (AllReadyH.nil)
     go_simp
     refine hK.out _ _ ?_ (fun hHeld => ?_)
     ·first | exact frS13 hHeld.2 HF6.out.size | exact frS13 (hHeld.2.trans (Fr.of_all hb)) HF6.out.size | exact frS13 (hHeld.2.alloc _) HF6.out.size | exact frS13 HS9.out HF6.out.size | exact frS13 (hHeld.2.setCell (p := ⟨w.heap.size, 5, none⟩) (fun _ => .inl rfl) _) HF6.out.size
     clear hK K
     (try simp only [Act.put, jjA, jjB, jjC, jjD, jjE, jjF])
     refine wpAnyH_done (by kernel_rfl) ?_ _
     have HFQ : Hk (Fr (fun j => j = w.heap.size) z9 (z9.setCell ⟨w.heap.size, 5, none⟩ (.slice (some ⟨g9, 0, none⟩) (u.mn + 1) c9))) := ⟨Fr.setCell (M := fun j => j = w.heap.size) (p := ⟨w.heap.size, 5, none⟩) (Fr.refl _ z9) (fun _ => rfl) _⟩
     have HKQ := Hk.mk (Kt.set (Nat.le_refl _) HQ9a.out.bl 5 (.slice (some ⟨g9, 0, none⟩) (u.mn + 1) c9))
     have HN9 : Hk (OwCE z9 V6.heap.size a3 ln c3 L3) := ⟨HKI5 HKI.out HGRW.out HRW.out HO3c.out HZ5.out⟩
     have HM9 : Hk (OwN z9 V1.heap.size (.slice s2 n2 e2) n2 M2) := ⟨HM4.out.up HF9.out (fun j hj e => by have := HVP.out; omega)⟩
     have HML9 : Hk (OwN z9 w.heap.size (.slice (some ⟨g9, 0, none⟩) (u.mn + 1) c9) (u.mn + 1) (u.ml ++ [(⟨p.s + 1, p.i, a3, ln, c3, L3⟩ : Iv)])) := ⟨⟨by have h1 := HOA.out.m.o.len; rw [HXM.out.2.1, HXM.out.2.2.2] at h1; rw [List.length_append, h1]; rfl, by rw [flt_app, flt_one1]; exact HOWN.out⟩, fun y hy => by
      rcases List.mem_append.1 hy with hy | hy
      ·exact HKI.out.owce (HOA.out.m.u y (by rw [HXM.out.2.2.2]; exact hy)) (by decide) (by decide)
      ·obtain rfl := List.mem_singleton.1 hy
       exact HN9.out.weak HBZ6.out⟩
     have HO9a : Hk (PvO z9 w.heap.size { u1 with ma := some ⟨g9, 0, none⟩, mn := u.mn + 1, mc := c9, ml := u.ml ++ [(⟨p.s + 1, p.i, a3, ln, c3, L3⟩ : Iv)] }) := ⟨HML9.out, by rw [HU1.out]; exact HM9.out.weak (Nat.le_of_lt HVP.out), HKI.out.owni HOA.out.h (by decide), HKI.out.owni HOA.out.a (by decide), HKI.out.ow HOA.out.x (by decide)⟩
     go_wp2
     go_meet
     case rel => exact ⟨{ u1 with ma := some ⟨g9, 0, none⟩, mn := u.mn + 1, mc := c9, ml := u.ml ++ [(⟨p.s + 1, p.i, a3, ln, c3, L3⟩ : Iv)] }, ⟨HQ9a.out.set 5 _ _ rfl⟩, ⟨HKQ.out.pvo HO9a.out⟩, ⟨fun x hx => by
       rcases List.mem_append.1 hx with hx | hx
       ·exact .inl (HML.out x hx)
       ·obtain rfl := List.mem_singleton.1 hx
        exact .inr ((HN9.out.up HFQ.out (fun j hj e => by have h1 := HP6.out.lt; omega)).weak HN6.out)⟩, ⟨_, _, _, _, rfl, by
       rw [if_pos (HN1.out ▸ of_decide_eq_true HF0.out), abI_app]
       show abI u.ml ++ [(⟨p.s + 1, p.i, abC L3⟩ : In)] = abI u.ml ++ [⟨p.s + 1, p.i, abC l⟩]
       rw [HA3c.out], smI_snoc HSU.out.m (smC_like HA3c.out (fun x hx => (HO3c.out.u x hx).nq.len) HLC.out HSL.out) (by have h1 := HOA.out.m.o.len; rw [HXM.out.2.1, HXM.out.2.2.2] at h1; have h2 := HMN.out; have h3 := HLM.out.1; omega)⟩, ⟨((((HR6.out.below HZ5.out).al (.cells #[.int .i64 (p.s + 1), .int .i64 p.i, .slice a3 ln c3] 55)).kt HKI.out (by decide)).oth (by omega) _ _)⟩, ⟨(HB6.out.trans HB9a.out).trans HKQ.out.bl⟩⟩
    ·skip
     go_simp
     refine hK.out _ _ ?_ (fun hHeld => ?_)
     ·first | exact frS13 hHeld.2 HF6.out.size | exact frS13 (hHeld.2.trans (Fr.of_all hb)) HF6.out.size | exact frS13 (hHeld.2.alloc _) HF6.out.size | exact frS13 HS9.out HF6.out.size | exact frS13 (hHeld.2.setCell (p := ⟨w.heap.size, 5, none⟩) (fun _ => .inl rfl) _) HF6.out.size
     clear hK K
     (try simp only [Act.put, jjA, jjB, jjC, jjD, jjE, jjF])
     refine wpAnyH_ready (rs := [1]) (by kernel_rfl) (by simp) ?_
     refine AllReadyH.cons rfl (fun K hK => ?_) (AllReadyH.nil)
     go_simp
     refine hK.out _ _ ?_ (fun hHeld => ?_)
     ·first | exact frS13 hHeld.2 HF6.out.size | exact frS13 (hHeld.2.trans (Fr.of_all hb)) HF6.out.size | exact frS13 (hHeld.2.alloc _) HF6.out.size | exact frS13 HS9.out HF6.out.size | exact frS13 (hHeld.2.setCell (p := ⟨w.heap.size, 5, none⟩) (fun _ => .inl rfl) _) HF6.out.size
     clear hK K
     (try simp only [Act.put, jjA, jjB, jjC, jjD, jjE, jjF])
     refine wpAnyH_ready (rs := [5]) (by kernel_rfl) (by simp) ?_
     refine AllReadyH.cons rfl (fun K hK => ?_) (AllReadyH.nil)
     (have HOA : Hk (PvO (z6.alloc (.cells #[.int .i64 (p.s + 1), .int .i64 p.i, .slice a3 ln c3] 55)) w.heap.size u1) := ⟨(HO6.out.below HZ5.out).below (below_al _ _)⟩; have HRW : Hk (World.ownsRow (z6.alloc (.cells #[.int .i64 (p.s + 1), .int .i64 p.i, .slice a3 ln c3] 55)) w.heap.size 55 3 (.slice u.ma u.mn u.mc) u.mn (flt shI u.ml)) := ⟨by have := HOA.out.m.o.row; rw [HXM.out.1, HXM.out.2.1, HXM.out.2.2.1, HXM.out.2.2.2] at this; exact this⟩; have HBL : Hk (w.heap.size ≤ (z6.alloc (.cells #[.int .i64 (p.s + 1), .int .i64 p.i, .slice a3 ln c3] 55)).heap.size) := ⟨Nat.le_trans HBZ6.out (Nat.le_trans HZ5.out.size (by simp))⟩; refine step_append27 (by rfl) (.tmp 56) (.tmp 59) 24 (by rfl) w.heap.size 55 ii (.agg #[.int .i64 0, .int .i64 0, .slice none 0 0]) 3 40 Try.underlying24 hii hiz0 hiz1 hiz2 (by rfl) (by decide) (.slice u.ma u.mn u.mc) u.mn (flt shI u.ml) (by rfl) HRW.out ⟨z6.heap.size, 0, none⟩ 1 1 ((⟨p.s + 1, p.i, a3, ln, c3, L3⟩ : Iv).cs) (by rfl) (by rfl) (lit_at z6 _ _) (is_one _) (by have h1 := HMN.out; have h2 := HLM.out.1; unfold maxLen; omega) (by have h1 := HMN.out; have h2 := HLM.out.1; omega) HBL.out ?_; intro v9 z9 hown hgrow; obtain ⟨g9, c9, rfl, hcc9, hg9, hg9'⟩ := row_slice hown (by omega); have HKI := Hk.mk (Kt.grown HBL.out HRW.out hgrow); have HOWN := Hk.mk hown; have HGRW := Hk.mk hgrow; have HQ9a := Hk.mk (((HP6.out.below HZ5.out).al (.cells #[.int .i64 (p.s + 1), .int .i64 p.i, .slice a3 ln c3] 55)).kt HKI.out (by decide)); have HB9a : Hk (Below w.heap.size V6 z9) := ⟨((HZ5.out.mono HBZ6.out).trans ((below_al z6 (.cells #[.int .i64 (p.s + 1), .int .i64 p.i, .slice a3 ln c3] 55)).mono (Nat.le_trans HBZ6.out HZ5.out.size))).trans HKI.out.bl⟩; have w5 := HQ9a.out.bk.c 5; have wf5 := HQ9a.out.bk.f 5; have wl5 := HQ9a.out.lt; simp at w5; clear hown hgrow; have HFG : Hk (Fr (fun j => Value.ownBlock (.slice u.ma u.mn u.mc) = some j) (z6.alloc (.cells #[.int .i64 (p.s + 1), .int .i64 p.i, .slice a3 ln c3] 55)) z9) := ⟨(Fr.refl _ _).grown HGRW.out (fun j _ e => e)⟩; have HF9 : Hk (Fr (fun j => j = w.heap.size) z4 z9) := ⟨((HF6.out.trans (Fr.of_all HZ5.out)).trans (Fr.of_all (below_al _ _))).andThen HFG.out (fun j hj e => absurd hj (by have := HMLO.out j e; omega))⟩; have HS9 : Hk (Fr (fun j => j = w.heap.size ∨ z4.heap.size ≤ j) V6 z9) := ⟨((Fr.of_all HZ5.out).trans (Fr.of_all (below_al _ _))).andThen HFG.out (fun j hj e => .inr (HMLO.out j e))⟩)
     refine hK.out _ _ ?_ (fun hHeld => ?_)
     ·first | exact frS13 hHeld.2 HF6.out.size | exact frS13 (hHeld.2.trans (Fr.of_all hb)) HF6.out.size | exact frS13 (hHeld.2.alloc _) HF6.out.size | exact frS13 HS9.out HF6.out.size | exact frS13 (hHeld.2.setCell (p := ⟨w.heap.size, 5, none⟩) (fun _ => .inl rfl) _) HF6.out.size
     clear hK K
     (try simp only [Act.put, jjA, jjB, jjC, jjD, jjE, jjF])
     have HI : Ix [6] := trivial
     (refine tkA HI (v := ?_) rfl (by kernel_rfl) (fun _ _ _ h => h) (.inl ⟨by rfl, fun wX hSw => ?_⟩) hHeld (fun HJ => ?_); rotate_left; (focus ((try dsimp only at hSw); go_simp; try with_reducible rfl)); clear HI; have HI := HJ; clear HJ; try simp only [Act.put, jjA, jjB, jjC, jjD, jjE, jjF])
     clear HI
     refine wpAnyH_ready (rs := [7]) (by kernel_rfl) (by simp) ?_
     refine AllReadyH.cons rfl (fun K hK => ?_) (AllReadyH.nil)
     go_simp
     refine hK.out _ _ ?_ (fun hHeld => ?_)
     ·first | exact frS13 hHeld.2 HF6.out.size | exact frS13 (hHeld.2.trans (Fr.of_all hb)) HF6.out.size | exact frS13 (hHeld.2.alloc _) HF6.out.size | exact frS13 HS9.out HF6.out.size | exact frS13 (hHeld.2.setCell (p := ⟨w.heap.size, 5, none⟩) (fun _ => .inl rfl) _) HF6.out.size
     clear hK K
     (try simp only [Act.put, jjA, jjB, jjC, jjD, jjE, jjF])
     refine wpAnyH_done (by kernel_rfl) ?_ _
     have HFQ : Hk (Fr (fun j => j = w.heap.size) z9 (z9.setCell ⟨w.heap.size, 5, none⟩ (.slice (some ⟨g9, 0, none⟩) (u.mn + 1) c9))) := ⟨Fr.setCell (M := fun j => j = w.heap.size) (p := ⟨w.heap.size, 5, none⟩) (Fr.refl _ z9) (fun _ => rfl) _⟩
     have HKQ := Hk.mk (Kt.set (Nat.le_refl _) HQ9a.out.bl 5 (.slice (some ⟨g9, 0, none⟩) (u.mn + 1) c9))
     have HN9 : Hk (OwCE z9 V6.heap.size a3 ln c3 L3) := ⟨HKI5 HKI.out HGRW.out HRW.out HO3c.out HZ5.out⟩
     have HM9 : Hk (OwN z9 V1.heap.size (.slice s2 n2 e2) n2 M2) := ⟨HM4.out.up HF9.out (fun j hj e => by have := HVP.out; omega)⟩
     have HML9 : Hk (OwN z9 w.heap.size (.slice (some ⟨g9, 0, none⟩) (u.mn + 1) c9) (u.mn + 1) (u.ml ++ [(⟨p.s + 1, p.i, a3, ln, c3, L3⟩ : Iv)])) := ⟨⟨by have h1 := HOA.out.m.o.len; rw [HXM.out.2.1, HXM.out.2.2.2] at h1; rw [List.length_append, h1]; rfl, by rw [flt_app, flt_one1]; exact HOWN.out⟩, fun y hy => by
      rcases List.mem_append.1 hy with hy | hy
      ·exact HKI.out.owce (HOA.out.m.u y (by rw [HXM.out.2.2.2]; exact hy)) (by decide) (by decide)
      ·obtain rfl := List.mem_singleton.1 hy
       exact HN9.out.weak HBZ6.out⟩
     have HO9a : Hk (PvO z9 w.heap.size { u1 with ma := some ⟨g9, 0, none⟩, mn := u.mn + 1, mc := c9, ml := u.ml ++ [(⟨p.s + 1, p.i, a3, ln, c3, L3⟩ : Iv)] }) := ⟨HML9.out, by rw [HU1.out]; exact HM9.out.weak (Nat.le_of_lt HVP.out), HKI.out.owni HOA.out.h (by decide), HKI.out.owni HOA.out.a (by decide), HKI.out.ow HOA.out.x (by decide)⟩
     go_wp2
     go_meet
     case rel => exact ⟨{ u1 with ma := some ⟨g9, 0, none⟩, mn := u.mn + 1, mc := c9, ml := u.ml ++ [(⟨p.s + 1, p.i, a3, ln, c3, L3⟩ : Iv)] }, ⟨HQ9a.out.set 5 _ _ rfl⟩, ⟨HKQ.out.pvo HO9a.out⟩, ⟨fun x hx => by
       rcases List.mem_append.1 hx with hx | hx
       ·exact .inl (HML.out x hx)
       ·obtain rfl := List.mem_singleton.1 hx
        exact .inr ((HN9.out.up HFQ.out (fun j hj e => by have h1 := HP6.out.lt; omega)).weak HN6.out)⟩, ⟨_, _, _, _, rfl, by
       rw [if_pos (HN1.out ▸ of_decide_eq_true HF0.out), abI_app]
       show abI u.ml ++ [(⟨p.s + 1, p.i, abC L3⟩ : In)] = abI u.ml ++ [⟨p.s + 1, p.i, abC l⟩]
       rw [HA3c.out], smI_snoc HSU.out.m (smC_like HA3c.out (fun x hx => (HO3c.out.u x hx).nq.len) HLC.out HSL.out) (by have h1 := HOA.out.m.o.len; rw [HXM.out.2.1, HXM.out.2.2.2] at h1; have h2 := HMN.out; have h3 := HLM.out.1; omega)⟩, ⟨((((HR6.out.below HZ5.out).al (.cells #[.int .i64 (p.s + 1), .int .i64 p.i, .slice a3 ln c3] 55)).kt HKI.out (by decide)).oth (by omega) _ _)⟩, ⟨(HB6.out.trans HB9a.out).trans HKQ.out.bl⟩⟩
 case rest =>
 obtain ⟨u2, HQ6, HO6b, HMX, HU2, HR6b, HB6b⟩ := hcut
 clear HP6 HO6 HR6 HB6 HX6 HF0 HF6 HN6
 have HO6 := HO6b
 have HR6 := HR6b
 have HB6 := HB6b
 clear HO6b HR6b HB6b
 clear d0 d1 d2 d3 d4 d5 d6 d7 d8 d9 d10 dl q4 q5 q6
 have HS2 : Hk (u2.s = p.s) := ⟨by obtain ⟨_, _, _, _, e, _⟩ := HU2.out; rw [e, HU1.out]; exact ((ab_iff u p).1 HAU.out).2.2.2.2.1⟩
 obtain ⟨d0, d1, d2, d3, d4, d5, d6, d7, d8, d9, d10, dl⟩ := HQ6.out.cs; obtain ⟨-, -, -, -, q4, q5, q6, -, -, -, -⟩ := HQ6.out.fs
 have gs : IntKind.i64.wrap (u2.s + 1) = u2.s + 1 := wr27 (by have h1 := HS2.out; have h2 := HOK.out.c.s1; have h3 := HOK.out.c.d1; have e1 : p.ab.s = p.s := rfl; omega) (by have h1 := HS2.out; have h2 := HOK.out.c.s3; have e1 : p.ab.s = p.s := rfl; omega)
 obtain ⟨kk, hkk⟩ : ∃ kk : Nat, p.i = (kk : Int) + 1 := ⟨p.i.toNat - 1, by have := HK1.out; omega⟩
 have gi : IntKind.i64.wrap (p.i - 1) = (kk : Int) := by rw [wr27 (by have := HK1.out; omega) (by have := HK1.out; omega)]; omega
 have HKK : Hk (p.i.toNat - 1 = kk ∧ kk < p.hn ∧ kk < p.an) := ⟨by have := HK1.out; omega⟩
 clear hkk
 go_upto_region 15 with fail
 obtain ⟨u3, hu3⟩ : ∃ x : Pv, x = { u2 with s := u2.s + 1 } := ⟨_, rfl⟩
 have HF6 : Hk (Fr (fun j => j = w.heap.size) wc (wc.setCell ⟨w.heap.size, 4, none⟩ (.int .i64 (u2.s + 1)))) := ⟨Fr.setCell (M := fun j => j = w.heap.size) (p := ⟨w.heap.size, 4, none⟩) (Fr.refl _ wc) (fun _ => rfl) _⟩
 have HQ7 : Hk (Bx (wc.setCell ⟨w.heap.size, 4, none⟩ (.int .i64 (u2.s + 1))) w.heap.size u3) := ⟨by rw [hu3]; exact HQ6.out.set 4 _ _ rfl⟩
 have HR7 : Hk (Bx (wc.setCell ⟨w.heap.size, 4, none⟩ (.int .i64 (u2.s + 1))) (w.heap.size + 1) nilV) := ⟨HR6.out.oth (by omega) _ _⟩
 have HK7 := Hk.mk (Kt.set (Nat.le_refl _) HQ6.out.bl 4 (.int .i64 (u2.s + 1)))
 have HO7 : Hk (PvO (wc.setCell ⟨w.heap.size, 4, none⟩ (.int .i64 (u2.s + 1))) w.heap.size u3) := ⟨by rw [hu3]; have o := HK7.out.pvo HO6.out; exact ⟨o.m, o.l, o.h, o.a, o.x⟩⟩
 have HX7 : Hk (∀ x, x ∈ u3.ml → (∃ W0, CmD W0 N3 x.a x.n x.l) ∨ OwCE (wc.setCell ⟨w.heap.size, 4, none⟩ (.int .i64 (u2.s + 1))) N5 x.a x.n x.c x.l) := ⟨fun x hx => (HMX.out x (by rw [hu3] at hx; exact hx)).imp id (fun o => o.up HF6.out (fun j hj e => by have := HN34.out; have := HVP.out; omega))⟩
 have HB7 := Hk.mk (HB6.out.trans (HK7.out.bl))
 have HSS : Hk (u3.s = u2.s + 1) := ⟨by rw [hu3]⟩
 have HEH : Hk (u3.ha = some ⟨gh, 0, none⟩ ∧ u3.aa = some ⟨ga, 0, none⟩ ∧ u3.hn = p.hn ∧ u3.an = p.an ∧ u3.ll = M2 ∧ u3.ha = u.ha ∧ u3.hn = u.hn) := ⟨by obtain ⟨_, _, _, _, e, _⟩ := HU2.out; rw [hu3, e, HU1.out]; exact ⟨HGH.out.1, HGA.out.1, HLN.out.1, HLN.out.2, rfl, rfl, rfl⟩⟩
 have HEV : Hk (u3.hl.getD kk 0 = p.s ∧ u3.al.getD kk 0 = p.s) := ⟨by obtain ⟨-, -, -, -, -, -, -, b8, b9, -⟩ := (ab_iff u p).1 HAU.out; obtain ⟨_, _, _, _, e, _⟩ := HU2.out; rw [hu3, e, HU1.out]; show u.hl.getD kk 0 = p.s ∧ u.al.getD kk 0 = p.s; rw [b8, b9, ← HKK.out.1]; exact ⟨HK1.out.2.2.2.2.2.2.1, HK1.out.2.2.2.2.2.2.2⟩⟩
 have HEI3 : Hk (u3.i = p.i) := ⟨by obtain ⟨_, _, _, _, e, _⟩ := HU2.out; rw [hu3, e, HU1.out]; exact ((ab_iff u p).1 HAU.out).1⟩
 have HU3 := Hk.mk hu3
 clear hu3 HF6 HQ6 HR6 HK7 HO6 HMX HB6 gs
 clear d0 d1 d2 d3 d4 d5 d6 d7 d8 d9 d10 dl q4 q5 q6
 generalize (wc.setCell ⟨w.heap.size, 4, none⟩ (.int .i64 (u2.s + 1))) = V7 at *
 have HOH : Hk (OwnI V7 w.heap.size (.slice (some ⟨gh, 0, none⟩) p.hn u3.hc) p.hn u3.hl) := ⟨by have := HO7.out.h; rw [HEH.out.1, HEH.out.2.2.1] at this; exact this⟩
 obtain ⟨b8, o8, e8, _, hc8⟩ := HOH.out.nq2.at_ (by have := HK1.out; omega)
 injection e8 with e8
 injection e8 with e81 e82
 subst e81 e82
 have xh : V7.cell? ⟨gh, kk, none⟩ = some (.int .i64 p.s) := by have := hc8 kk HKK.out.2.1; rw [Nat.zero_add, HEV.out.1] at this; exact this
 have fh := HOH.out.2.frozenAt kk
 clear hc8
 obtain ⟨d0, d1, d2, d3, d4, d5, d6, d7, d8, d9, d10, dl⟩ := HQ7.out.cs; obtain ⟨-, -, -, -, q4, q5, q6, -, -, -, -⟩ := HQ7.out.fs
 rw [HEI3.out] at d0
 have t0 : (0 : Int) ≤ (kk : Int) := by omega
 have t1 : (kk : Int) < (p.hn : Int) := by have := HKK.out; omega
 have t2 : kk < p.hn := HKK.out.2.1
 rw [HEH.out.1, HEH.out.2.2.1] at d7
 go_upto_region 16 with fail
 obtain ⟨u4, hu4⟩ : ∃ x : Pv, x = { u3 with hl := u3.hl.set kk (p.s + 1) } := ⟨_, rfl⟩
 have HKN := Hk.mk (kt_num HOH.out kk (p.s + 1))
 have HFN := Hk.mk (fr_num V7 gh kk (p.s + 1))
 have HQ8 : Hk (Bx (V7.setCell ⟨gh, kk, none⟩ (.int .i64 (p.s + 1))) w.heap.size u4) := ⟨by rw [hu4]; exact ⟨(HQ7.out.kt HKN.out (by decide)).bl⟩⟩
 have HR8 : Hk (Bx (V7.setCell ⟨gh, kk, none⟩ (.int .i64 (p.s + 1))) (w.heap.size + 1) nilV) := ⟨HR7.out.kt HKN.out (by decide)⟩
 have HAB : Hk (OwnI V7 N4 (.slice u3.aa u3.an u3.ac) u3.an u3.al) := ⟨by have := HO7.out.a; rw [HEH.out.2.1] at this ⊢; exact this.base HGA.out.2.1⟩
 have HO8 : Hk (PvO (V7.setCell ⟨gh, kk, none⟩ (.int .i64 (p.s + 1))) w.heap.size u4) := ⟨by
  rw [hu4]
  exact HO7.out.has HEH.out.1 (fun x hx => (HX7.out x hx).imp id (fun o => o.weak HN34.out.2.2.2.1)) (fun x hx => .inl (HLQ.out x (by rw [HEH.out.2.2.2.2.1] at hx; exact hx))) HAB.out HGH.out.2.1 HGH.out.2.2 (Nat.le_trans HN34.out.2.2.2.2 HN34.out.2.2.1)⟩
 have HX8 : Hk (∀ x, x ∈ u4.ml → (∃ W0, CmD W0 N4 x.a x.n x.l) ∨ OwCE (V7.setCell ⟨gh, kk, none⟩ (.int .i64 (p.s + 1))) N5 x.a x.n x.c x.l) := ⟨fun x hx => (HX7.out x (by rw [hu4] at hx; exact hx)).imp (fun ⟨W0, h⟩ => ⟨W0, h.mono HN34.out.2.2.1⟩) (fun o => o.up HFN.out (fun j hj e => by have := HGH.out.2.2; have := HN34.out.2.2.2.1; omega))⟩
 have HB8 := Hk.mk (HB7.out.trans (HKN.out.bl))
 have HEI4 : Hk (u4.i = p.i) := ⟨by rw [hu4]; exact HEI3.out⟩
 have HU4 := Hk.mk hu4
 have HEA : Hk (u4.aa = some ⟨ga, 0, none⟩ ∧ u4.an = p.an ∧ u4.ll = M2 ∧ u4.ha = u.ha ∧ u4.hn = u.hn ∧ u4.al.getD kk 0 = p.s) := ⟨by rw [hu4]; exact ⟨HEH.out.2.1, HEH.out.2.2.2.1, HEH.out.2.2.2.2.1, HEH.out.2.2.2.2.2.1, HEH.out.2.2.2.2.2.2, HEV.out.2⟩⟩
 clear hu4 HKN HFN HQ7 HR7 HAB HO7 HX7 HB7 HOH xh fh
 clear d0 d1 d2 d3 d4 d5 d6 d7 d8 d9 d10 dl q4 q5 q6
 generalize (V7.setCell ⟨gh, kk, none⟩ (.int .i64 (p.s + 1))) = V8 at *
 have HOA : Hk (OwnI V8 w.heap.size (.slice (some ⟨ga, 0, none⟩) p.an u4.ac) p.an u4.al) := ⟨by have := HO8.out.a; rw [HEA.out.1, HEA.out.2.1] at this; exact this⟩
 obtain ⟨b9, o9, e9, _, hc9⟩ := HOA.out.nq2.at_ (by have := HK1.out; omega)
 injection e9 with e9
 injection e9 with e91 e92
 subst e91 e92
 have xa : V8.cell? ⟨ga, kk, none⟩ = some (.int .i64 p.s) := by have := hc9 kk HKK.out.2.2; rw [Nat.zero_add, HEA.out.2.2.2.2.2] at this; exact this
 have fa := HOA.out.2.frozenAt kk
 clear hc9
 obtain ⟨d0, d1, d2, d3, d4, d5, d6, d7, d8, d9, d10, dl⟩ := HQ8.out.cs; obtain ⟨-, -, -, -, q4, q5, q6, -, -, -, -⟩ := HQ8.out.fs
 rw [HEI4.out] at d0
 have t3 : (kk : Int) < (p.an : Int) := by have := HKK.out; omega
 have t4 : kk < p.an := HKK.out.2.2
 rw [HEA.out.1, HEA.out.2.1] at d8
 go_upto_region 17 with fail
 obtain ⟨u5, hu5⟩ : ∃ x : Pv, x = { u4 with al := u4.al.set kk (p.s + 1) } := ⟨_, rfl⟩
 have HKN := Hk.mk (kt_num HOA.out kk (p.s + 1))
 have HQ9 : Hk (Bx (V8.setCell ⟨ga, kk, none⟩ (.int .i64 (p.s + 1))) w.heap.size u5) := ⟨by rw [hu5]; exact ⟨(HQ8.out.kt HKN.out (by decide)).bl⟩⟩
 have HR9 : Hk (Bx (V8.setCell ⟨ga, kk, none⟩ (.int .i64 (p.s + 1))) (w.heap.size + 1) nilV) := ⟨HR8.out.kt HKN.out (by decide)⟩
 have HO9 : Hk (PvO (V8.setCell ⟨ga, kk, none⟩ (.int .i64 (p.s + 1))) w.heap.size u5) := ⟨by
  rw [hu5]
  exact HO8.out.acked (N4 := N4) (N5 := N5) HEA.out.1 HX8.out (fun x hx => .inl (by obtain ⟨W0, h⟩ := HLQ.out x (by rw [HEA.out.2.2.1] at hx; exact hx); exact ⟨W0, h.mono HN34.out.2.2.1⟩)) (by rw [HEA.out.2.2.2.1, HEA.out.2.2.2.2.1]; obtain ⟨W0, h⟩ := HHQ.out; exact ⟨W0, _, h⟩) HGA.out.2.1 HGA.out.2.2 (by have := HN34.out; omega)⟩
 have HB9 := Hk.mk (HB8.out.trans (HKN.out.bl))
 have HU5 := Hk.mk hu5
 clear hu5 HKN HQ8 HR8 HO8 HX8 HB8 HOA xa fa
 clear d0 d1 d2 d3 d4 d5 d6 d7 d8 d9 d10 dl q4 q5 q6
 generalize (V8.setCell ⟨ga, kk, none⟩ (.int .i64 (p.s + 1))) = V9 at *
 obtain ⟨d0, d1, d2, d3, d4, d5, d6, d7, d8, d9, d10, dl⟩ := HQ9.out.cs; obtain ⟨-, -, -, -, q4, q5, q6, -, -, -, -⟩ := HQ9.out.fs
 obtain ⟨r0, r1, r2, r3, r4, r5, r6, r7, r8, r9, r10, rl⟩ := HR9.out.cs; obtain ⟨f0, f1, f2, f3, f4, f5, f6, f7, f8, f9, f10⟩ := HR9.out.fs
 have HFB := Hk.mk ((Kt.put (B := w.heap.size) HR9.out (by omega) u5))
 go_wp2
 refine bodyPost_ret (v := .tuple #[.agg (jjP u5), .int .i64 0]) (by simp [results, Try.results13, go_sem, r0, r1, r2, r3, r4, r5, r6, r7, r8, r9, r10, f0, f1, f2, f3, f4, f5, f6, f7, f8, f9, f10]) rfl ⟨u5, rfl, HFB.out.pvo HO9.out, ?_, ?_, HB9.out.trans HFB.out.bl⟩
 ·obtain ⟨ma, mn', mc, ml, e, hml, hsml⟩ := HU2.out
  obtain ⟨b1, b2, b3, b4, b5, b6, b7, b8, b9, b10, b11⟩ := (ab_iff u p).1 HAU.out
  have e5 := HU5.out
  rw [HU4.out, HU3.out, e, HU1.out] at e5
  rw [e5]
  show Pm.mk u.i u.n u.d u.t (u.s + 1) (abI ml) (abI M2) (u.hl.set kk (p.s + 1)) (u.al.set kk (p.s + 1)) u.xl u.b = Pm.mk p.i p.n p.d p.t (p.s + 1) (if 1 < p.n then abI p.ml ++ [sayI p.ab (abC l)] else abI p.ml) M (p.hl.set (p.i.toNat - 1) (p.s + 1)) (p.al.set (p.i.toNat - 1) (p.s + 1)) p.xl p.b
  rw [b1, b2, b3, b4, b5, hml, HA2.out, b6, b8, b9, b10, b11, HKK.out.1]
 ·obtain ⟨ma, mn', mc, ml, e, hml, hsml⟩ := HU2.out
  have e5 := HU5.out
  have hd := HO9.out.d
  rw [HU4.out, HU3.out, e, HU1.out] at e5
  rw [e5] at hd ⊢
  exact ⟨hsml, smI_put HSM.out HA2.out (fun x hx c hc => ((hd.l.u x hx).u c hc).len) HLL.out HLC.out HS.out.l HSL.out HLL2.out, HSU.out.h, HSU.out.a, HSU.out.x⟩
end Go.Proofs.Ytdpblimhfmfbnaa
