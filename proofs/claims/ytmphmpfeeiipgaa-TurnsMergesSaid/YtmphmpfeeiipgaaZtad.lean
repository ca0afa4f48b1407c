import Derived.Deep.QuietTactic
import Derived.BigQuiet
import Derived.Deep.RegionWith
import Derived.Deep.RegionHeld3
import Derived.Deep.DeepCutAuto
import Derived.Deep.DeepFit
import Derived.Outline
import Derived.Test.YtmphmpfeeiipgaaZtac
/- Inputs of one's own spoilt. -/
namespace Go.Proofs.Ytmphmpfeeiipgaa
open Go.ChangeShapes Go.WideShapes Go.ChangeAt Go.RowKit Go.Deep
set_option linter.unusedVariables false
set_option linter.unusedSimpArgs false
/-- Blocks of numbers, of commands and of inputs from B on are written with such alone; no other block is written. -/
structure Si (B : Nat) (w z : World) : Prop where
  bl : Below B w z
  i : ∀ a n c, ShI w B a n c → ShI z B a n c
theorem Si.refl (B : Nat) (w : World) : Si B w w := ⟨Below.refl _ _, fun _ _ _ h => h⟩
theorem Si.trans {B : Nat} {w y z : World} (h : Si B w y) (k : Si B y z) : Si B w z := ⟨h.bl.trans k.bl, fun a n c o => k.i a n c (h.i a n c o)⟩
theorem Si.of_sc {B : Nat} {w z : World} (h : Sc B w z) : Si B w z := ⟨h.bl, fun a n c ⟨hn, l, ho, hu⟩ => ⟨hn, l, h.ow ho (by decide) (by decide), fun x hx => h.shc (hu x hx)⟩⟩
theorem Si.of_all {B : Nat} {w z : World} (hB : B ≤ w.heap.size) (h : Below w.heap.size w z) : Si B w z := Si.of_sc (Sc.of_all hB h)
theorem Si.setI {B n c g : Nat} {w : World} {l : List Iv} (h : Ow shI 29 w B (.slice (some ⟨g, 0, none⟩) n c) n l) (k : Nat) (y : Int) : Si B w (w.setCells g (k * 3) (zrI y).cs) := by
  obtain ⟨cur, fr, e⟩ := h.typ (j := g) rfl
  have hg := (h.lt g rfl).1
  have hF : Fr (fun j => j = g) w (w.setCells g (k * 3) (zrI y).cs) := Fr.setCells (M := fun j => j = g) rfl _ _ (Fr.refl (fun j => j = g) w)
  have hI : ∀ (T : TypeId), T ≠ 29 → ∀ j cur fr, w.heap[j]? = some (.cells cur T fr) → ¬ j = g := fun T hT j cur' fr' e' hj => by
    subst hj
    rw [e] at e'
    injection e' with e'
    injection e' with _ e'
    exact hT e'.symm
  refine ⟨hF.below (Nat.le_of_lt (Nat.lt_of_le_of_lt hg (cells_lt e))) (fun j _ hj => by omega), fun a n' c' ⟨hn, l', o, hu⟩ => ⟨hn, ?_⟩⟩
  have hU : ∀ x, x ∈ l' → ShC (w.setCells g (k * 3) (zrI y).cs) B x.a x.n x.c := fun x hx => (hu x hx).fr hF (hI _ (by decide)) (hI _ (by decide))
  rcases o.blk with ⟨rfl, rfl, rfl⟩ | ⟨g', rfl, _⟩
  · exact ⟨l', o.fr hF fun j hj => by simp [Value.ownBlock] at hj, hU⟩
  · by_cases hg' : g' = g
    · subst hg'
      refine ⟨_, o.setx k (zrI y), fun x hx => ?_⟩
      rcases List.mem_or_eq_of_mem_set hx with h | rfl
      · exact hU x h
      · exact ⟨Nat.zero_le _, .inr ⟨rfl, rfl⟩⟩
    · exact ⟨l', o.fr hF fun j hj => by simp [Value.ownBlock] at hj; omega, hU⟩
set_option maxRecDepth 100000 in
set_option maxHeartbeats 1600000 in
theorem inps_own (B n c : Nat) (a : Option Addr) (w : World) (h : ShI w B a n c) (hB : B ≤ w.heap.size) :
    Calls Try.prog 26 #[.slice a n c] w fun e z => e = .returned (.tuple #[]) ∧ Si B w z := by
  obtain ⟨ii, hii, hiz0, hiz1, hiz2⟩ := info_parts info_in
  have HO := Hk.mk h
  have hn := h.1
  clear h
  go_enter Try.func26, Try.ntmps26
  go_wp2
  go_loopw [2] (fun i wr => ∃ (k : Nat), i = .int .i64 k ∧ k ≤ n ∧ Hk (ShI wr B a n c) ∧ Hk (Si B w wr)) (fun i _ => n - (intOf i).toNat)
  case atStart => exact ⟨0, rfl, by omega, HO, ⟨Si.refl _ _⟩⟩
  case round =>
    clear HO
    obtain ⟨k, rfl, hk, HO, HS⟩ := hrel
    obtain ⟨l, ho, hu⟩ := HO.out.2
    by_cases hlt : k < n
    · obtain ⟨g, rfl, hg1, hg2, -⟩ := ho.blk.resolve_left (fun h => by omega)
      have hkl : k < l.length := by have := ho.len; omega
      have HOW := Hk.mk ho
      have HOH := Hk.mk HO.out
      have HNU := Hk.mk (hu _ (List.getElem_mem hkl))
      have hcc : ∀ X : World, Ow shI 29 X B (.slice (some ⟨g, 0, none⟩) n c) n l → X.cell? ⟨g, k * 3, none⟩ = some (.int .i64 l[k].t) ∧ X.cell? ⟨g, k * 3 + 1, none⟩ = some (.int .i64 l[k].p) ∧ X.cell? ⟨g, k * 3 + 2, none⟩ = some (.slice l[k].a l[k].n l[k].c) := fun X hX => by
        obtain ⟨b', off', e, _, hc⟩ := hX.qv.rd (by omega)
        injection e with e
        injection e with e1 e2
        subst e1 e2
        have h := hc k hkl
        rw [Nat.zero_add] at h
        exact ⟨h 0 (by decide), h 1 (by decide), h 2 (by decide)⟩
      generalize l[k] = q at *
      have HCC := Hk.mk hcc
      obtain ⟨p0, p1, p2⟩ := hcc wr ho
      have j1 : (0 : Int) ≤ (k : Int) := by omega
      have j2 : (k : Int) < (n : Int) := by omega
      have HLT := Hk.mk hlt
      have HBW := Hk.mk (Nat.le_trans hB HS.out.bl.size)
      have HG := Hk.mk hg1
      have HN := Hk.mk hn
      clear hcc hu ho hkl HO p0 p1
      focus
        go_wp2_with (go_at_call 22; (with_reducible refine (cmds_own B q.n q.c q.a _ HNU.out HBW.out).mono ?_); rintro e z ⟨rfl, hs⟩; have HSC := Hk.mk hs; have hoz := hs.ow HOW.out (by decide) (by decide); obtain ⟨p0, p1, p2z⟩ := HCC.out z hoz; have hgz := World.block_lt_of_cell? _ _ p0; have f0 := hoz.row.frozenAt (k * 3); have f1 := hoz.row.frozenAt (k * 3 + 1); have f2 := hoz.row.frozenAt (k * 3 + 2); have HOZ := Hk.mk hoz; clear hs hoz)
        have H1 : Hk (Si B wr (((z.setCell ⟨g, k * 3, none⟩ (.int .i64 (-9))).setCell ⟨g, k * 3 + 1, none⟩ (.int .i64 0)).setCell ⟨g, k * 3 + 2, none⟩ (.slice none 0 0))) := ⟨(Si.of_sc HSC.out).trans (Si.setI HOZ.out k (-9))⟩
        have H4 := Hk.mk (HS.out.trans H1.out)
        have H3 := Hk.mk (H1.out.i _ _ _ HOH.out)
        exact ⟨⟨k + 1, by go_num, HLT.out, H3, H4⟩, by first | exact nx_ms HLT.out | exact nx_ms' HLT.out⟩
    · obtain rfl : k = n := by omega
      have HAL := Hk.mk (Si.of_all (Nat.le_trans hB HS.out.bl.size) (below_al wr (.cells #[.int .i64 0, .int .i64 0, .slice none 0 0] 29)))
      have hoa := ho.alloc (.cells #[.int .i64 0, .int .i64 0, .slice none 0 0] 29)
      obtain ⟨hkc, hnone, hcs⟩ := hoa.fin
      have HLO : Hk ((flt shI l).length = k * 3) := ⟨by rw [flt_len, ho.len]; rfl⟩
      have HCS := Hk.mk hcs
      have HNN := Hk.mk hnone
      clear hcs hnone
      by_cases hc : k < c
      · obtain ⟨g, rfl, -⟩ := hoa.blk.resolve_left (fun h => by omega)
        have HSP := Hk.mk (own_spare hoa.row 1 hc)
        have HHO := Hk.mk (own_holds hoa.row)
        have H4 : Hk (Si B w ((wr.alloc (.cells #[.int .i64 0, .int .i64 0, .slice none 0 0] 29)).setCells g (k * 3) (zrI 0).cs)) := ⟨(HS.out.trans HAL.out).trans (Si.setI hoa k 0)⟩
        clear hoa ho HO HS HAL hu
        focus
          go_wp2_with (at_builtin; go_must (refine wpList_append_arg _ rfl _ _ 22 rfl 29 ii (.agg #[.int .i64 0, .int .i64 0, .slice none 0 0]) 3 40 Try.underlying22 hii hiz0 hiz1 hiz2 rfl (by decide) g 0 k c (flt shI l) rfl HLO.out HHO.out ⟨wr.heap.size, 0, none⟩ 1 1 [.int .i64 0, .int .i64 0, .slice none 0 0] rfl rfl (lit_at wr _ _) (is_one (zrI 0)) (fun _ => HSP.out) (by unfold maxLen; omega) (by omega) (fun _ => ?_) (fun h => absurd h (by omega))); generalize hW : World.setCells (wr.alloc (.cells #[.int .i64 0, .int .i64 0, .slice none 0 0] 29)) g _ _ = W9; have H9 : Hk (Si B w W9) := ⟨by rw [← hW, Nat.zero_add]; exact H4.out⟩; clear hW H4)
          go_end0
          exact ⟨rfl, H9.out⟩
      · have hcn : c < k + 1 := by omega
        clear hoa ho HO hu
        focus
          go_wp2_with (at_builtin; go_must (refine wpList_append_grows _ rfl _ _ 22 rfl 29 ii (.agg #[.int .i64 0, .int .i64 0, .slice none 0 0]) 3 40 Try.underlying22 hii hiz0 hiz1 hiz2 rfl (by decide) a k c (flt shI l) rfl HNN.out HLO.out HCS.out ⟨wr.heap.size, 0, none⟩ 1 1 [.int .i64 0, .int .i64 0, .slice none 0 0] rfl rfl (lit_at wr _ _) (is_one (zrI 0)) hcn (by unfold maxLen; omega) (by omega) ?_); intro v8 z8 hown hgrow; have H8 := Hk.mk (HS.out.trans (Si.of_all (Nat.le_trans hB HS.out.bl.size) (below_gr hgrow))); clear hown hgrow)
          go_end0
          exact ⟨rfl, H8.out⟩
end Go.Proofs.Ytmphmpfeeiipgaa
/- What is taken: lists that are played. -/
namespace Go.Proofs.Ytmphmpfeeiipgaa
open Go.ChangeShapes Go.WideShapes Go.ChangeAt Go.RowKit Go.Deep
set_option linter.unusedVariables false
set_option linter.unusedSimpArgs false
theorem smI_of {w z : World} {B1 B2 n1 n2 : Nat} {a1 a2 : Option Addr} {M l : List Iv} (h1 : InD z B1 a1 n1 M) (h2 : InD w B2 a2 n2 l) (hs : SmI l) (hm : ∀ x, x ∈ abI M → x ∈ abI l) (hl : M.length ≤ l.length) : SmI M := ⟨Nat.le_trans hl hs.n, fun x hx => by
  obtain ⟨y, hy, e⟩ := List.mem_map.1 (hm x.ab (List.mem_map_of_mem hx))
  have e1 : abC y.l = abC x.l := congrArg In.l e
  have e2 := congrArg List.length e1
  rw [abC_len, abC_len] at e2
  refine ⟨by have := (hs.m y hy).n; omega, fun q hq => ?_⟩
  have h3 : q.ab ∈ abC y.l := by rw [e1]; exact List.mem_map_of_mem hq
  obtain ⟨r, hr, e4⟩ := List.mem_map.1 h3
  have h5 := congrArg (fun c : Cm => c.f.u.length) e4
  have h6 : r.u.length = q.u.length := h5
  have h7 := ((h2.u y hy).u r hr).len
  have h8 := ((h1.u x hx).u q hq).len
  have h9 := (hs.m y hy).m r hr
  omega⟩
theorem TkR.weak {w : World} {B B' n n' : Nat} {v v' : Value} {l l' : List Iv} (h : TkR w B v n l v' n' l') (hb : B' ≤ B) : TkR w B' v n l v' n' l' := ⟨h.a.weak hb, h.b.weak hb, h.ds⟩
/-- What was taken, and the others. -/
structure Tk2 (w : World) (B : Nat) (s1 : Option Addr) (n1 e1 : Nat) (M1 : List Iv) (s2 : Option Addr) (n2 e2 : Nat) (M2 : List Iv) (F1 F2 : List In) : Prop where
  r : TkR w B (.slice s1 n1 e1) n1 M1 (.slice s2 n2 e2) n2 M2
  f1 : abI M1 = F1
  f2 : abI M2 = F2
section
variable {w z : World} {B B' n1 e1 n2 e2 : Nat} {s1 s2 : Option Addr} {M1 M2 : List Iv} {F1 F2 : List In}
theorem Tk2.below (h : Tk2 w B s1 n1 e1 M1 s2 n2 e2 M2 F1 F2) (hb : Below w.heap.size w z) : Tk2 z B s1 n1 e1 M1 s2 n2 e2 M2 F1 F2 := ⟨h.r.below hb, h.f1, h.f2⟩
theorem Tk2.weak (h : Tk2 w B s1 n1 e1 M1 s2 n2 e2 M2 F1 F2) (hb : B' ≤ B) : Tk2 w B' s1 n1 e1 M1 s2 n2 e2 M2 F1 F2 := ⟨h.r.weak hb, h.f1, h.f2⟩
theorem Tk2.nil (w : World) (B : Nat) : Tk2 w B none 0 0 [] none 0 0 [] [] [] := ⟨TkR.nil _ _, rfl, rfl⟩
/-- All that is asked of them. -/
structure Tk3 (w : World) (B : Nat) (s1 : Option Addr) (n1 e1 : Nat) (M1 : List Iv) (s2 : Option Addr) (n2 e2 : Nat) (M2 : List Iv) (F1 F2 : List In) : Prop where
  t : Tk2 w B s1 n1 e1 M1 s2 n2 e2 M2 F1 F2
  q1 : SmI M1
  q2 : SmI M2
theorem Tk3.of {W : World} {B2 n : Nat} {a : Option Addr} {l : List Iv} (h : Tk2 w B s1 n1 e1 M1 s2 n2 e2 M2 F1 F2) (hd : InD W B2 a n l) (hs : SmI l) (p q : In → Bool) (h1 : F1 = (abI l).filter p) (h2 : F2 = (abI l).filter q) : Tk3 w B s1 n1 e1 M1 s2 n2 e2 M2 F1 F2 := ⟨h, smI_of h.r.a.d hd hs (fun x hx => by rw [h.f1, h1] at hx; exact (List.mem_filter.1 hx).1) (by
  have := congrArg List.length h.f1
  rw [abI_len, h1] at this
  rw [this, ← abI_len l]
  exact List.length_filter_le _ _), smI_of h.r.b.d hd hs (fun x hx => by rw [h.f2, h2] at hx; exact (List.mem_filter.1 hx).1) (by
  have := congrArg List.length h.f2
  rw [abI_len, h2] at this
  rw [this, ← abI_len l]
  exact List.length_filter_le _ _)⟩
theorem SmI.nil : SmI [] := ⟨Nat.zero_le _, fun _ h => by cases h⟩
theorem Tk3.nil (w : World) (B : Nat) : Tk3 w B none 0 0 [] none 0 0 [] [] [] := ⟨Tk2.nil _ _, SmI.nil, SmI.nil⟩
theorem Tk3.below (h : Tk3 w B s1 n1 e1 M1 s2 n2 e2 M2 F1 F2) (hb : Below w.heap.size w z) : Tk3 z B s1 n1 e1 M1 s2 n2 e2 M2 F1 F2 := ⟨h.t.below hb, h.q1, h.q2⟩
end
end Go.Proofs.Ytmphmpfeeiipgaa
