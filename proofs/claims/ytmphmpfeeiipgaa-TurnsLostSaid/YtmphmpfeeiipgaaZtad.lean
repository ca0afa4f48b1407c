import Derived.Deep.QuietTactic
import Derived.BigQuiet
import Derived.Deep.RegionWith
import Derived.Deep.RegionHeld3
import Derived.Deep.DeepCutAuto
import Derived.Deep.DeepFit
import Derived.Outline
import Derived.Test.YtmphmpfeeiipgaaZtac
import Derived.Test.YtmphmpfeeiipgaaZtz
import Derived.Shelf.Abstract
/- Inputs of one's own spoilt. -/
namespace Go.Proofs.Ytmphmpfeeiipgaa
open Go.ChangeShapes Go.WideShapes Go.ChangeAt Go.RowKit Go.Deep
set_option linter.unusedVariables false
set_option linter.unusedSimpArgs false
/-- Blocks of numbers, of commands and of inputs from B on are written with such alone; no other block is written. -/
structure Si (B : Nat) (w z : World) : Prop where
  bl : Below B w z
  i : ∀ a n c, ShI w B a n c → ShI z B a n c
theorem Si.refl (B : Nat) (w : World) : Si B w w := ⟨Below.refl _ _, fun _ _ _ h => h⟩
theorem Si.trans {B : Nat} {w y z : World} (h : Si B w y) (k : Si B y z) : Si B w z := ⟨h.bl.trans k.bl, fun a n c o => k.i a n c (h.i a n c o)⟩
theorem Si.of_sc {B : Nat} {w z : World} (h : Sc B w z) : Si B w z := ⟨h.bl, fun a n c ⟨hn, l, ho, hu⟩ => ⟨hn, l, h.ow ho (by decide) (by decide), fun x hx => h.shc (hu x hx)⟩⟩
theorem Si.of_all {B : Nat} {w z : World} (hB : B ≤ w.heap.size) (h : Below w.heap.size w z) : Si B w z := Si.of_sc (Sc.of_all hB h)
theorem Si.setI {B n c g : Nat} {w : World} {l : List Iv} (h : Ow shI 29 w B (.slice (some ⟨g, 0, none⟩) n c) n l) (k : Nat) (y : Int) : Si B w (w.setCells g (k * 3) (zrI y).cs) := by
  obtain ⟨cur, fr, e⟩ := h.typ (j := g) rfl
  have hg := (h.lt g rfl).1
  have hF : Fr (fun j => j = g) w (w.setCells g (k * 3) (zrI y).cs) := Fr.setCells (M := fun j => j = g) rfl _ _ (Fr.refl (fun j => j = g) w)
  have hI : ∀ (T : TypeId), T ≠ 29 → ∀ j cur fr, w.heap[j]? = some (.cells cur T fr) → ¬ j = g := fun T hT j cur' fr' e' hj => by
    subst hj
    rw [e] at e'
    injection e' with e'
    injection e' with _ e'
    exact hT e'.symm
  refine ⟨hF.below (Nat.le_of_lt (Nat.lt_of_le_of_lt hg (cells_lt e))) (fun j _ hj => by omega), fun a n' c' ⟨hn, l', o, hu⟩ => ⟨hn, ?_⟩⟩
  have hU : ∀ x, x ∈ l' → ShC (w.setCells g (k * 3) (zrI y).cs) B x.a x.n x.c := fun x hx => (hu x hx).fr hF (hI _ (by decide)) (hI _ (by decide))
  rcases o.blk with ⟨rfl, rfl, rfl⟩ | ⟨g', rfl, _⟩
  · exact ⟨l', o.fr hF fun j hj => by simp [Value.ownBlock] at hj, hU⟩
  · by_cases hg' : g' = g
    · subst hg'
      refine ⟨_, o.setx k (zrI y), fun x hx => ?_⟩
      rcases List.mem_or_eq_of_mem_set hx with h | rfl
      · exact hU x h
      · exact ⟨Nat.zero_le _, .inr ⟨rfl, rfl⟩⟩
    · exact ⟨l', o.fr hF fun j hj => by simp [Value.ownBlock] at hj; omega, hU⟩
set_option maxRecDepth 100000 in
set_option maxHeartbeats 1600000 in
theorem inps_own (B n c : Nat) (a : Option Addr) (w : World) (h : ShI w B a n c) (hB : B ≤ w.heap.size) :
    Calls Try.prog 26 #[.slice a n c] w fun e z => e = .returned (.tuple #[]) ∧ Si B w z := by
  obtain ⟨ii, hii, hiz0, hiz1, hiz2⟩ := info_parts info_in
  have HO := Hk.mk h
  have hn := h.1
  clear h
  go_enter Try.func26, Try.ntmps26
  go_wp2
  go_loopw [2] (fun i wr => ∃ (k : Nat), i = .int .i64 k ∧ k ≤ n ∧ Hk (ShI wr B a n c) ∧ Hk (Si B w wr)) (fun i _ => n - (intOf i).toNat)
  case atStart => exact ⟨0, rfl, by omega, HO, ⟨Si.refl _ _⟩⟩
  case round =>
    clear HO
    obtain ⟨k, rfl, hk, HO, HS⟩ := hrel
    obtain ⟨l, ho, hu⟩ := HO.out.2
    by_cases hlt : k < n
    · obtain ⟨g, rfl, hg1, hg2, -⟩ := ho.blk.resolve_left (fun h => by omega)
      have hkl : k < l.length := by have := ho.len; omega
      have HOW := Hk.mk ho
      have HOH := Hk.mk HO.out
      have HNU := Hk.mk (hu _ (List.getElem_mem hkl))
      have hcc : ∀ X : World, Ow shI 29 X B (.slice (some ⟨g, 0, none⟩) n c) n l → X.cell? ⟨g, k * 3, none⟩ = some (.int .i64 l[k].t) ∧ X.cell? ⟨g, k * 3 + 1, none⟩ = some (.int .i64 l[k].p) ∧ X.cell? ⟨g, k * 3 + 2, none⟩ = some (.slice l[k].a l[k].n l[k].c) := fun X hX => by
        obtain ⟨b', off', e, _, hc⟩ := hX.qv.rd (by omega)
        injection e with e
        injection e with e1 e2
        subst e1 e2
        have h := hc k hkl
        rw [Nat.zero_add] at h
        exact ⟨h 0 (by decide), h 1 (by decide), h 2 (by decide)⟩
      generalize l[k] = q at *
      have HCC := Hk.mk hcc
      obtain ⟨p0, p1, p2⟩ := hcc wr ho
      have j1 : (0 : Int) ≤ (k : Int) := by omega
      have j2 : (k : Int) < (n : Int) := by omega
      have HLT := Hk.mk hlt
      have HBW := Hk.mk (Nat.le_trans hB HS.out.bl.size)
      have HG := Hk.mk hg1
      have HN := Hk.mk hn
      clear hcc hu ho hkl HO p0 p1
      focus
        go_wp2_with (go_at_call 22; (with_reducible refine (cmds_own B q.n q.c q.a _ HNU.out HBW.out).mono ?_); rintro e z ⟨rfl, hs⟩; have HSC := Hk.mk hs; have hoz := hs.ow HOW.out (by decide) (by decide); obtain ⟨p0, p1, p2z⟩ := HCC.out z hoz; have hgz := World.block_lt_of_cell? _ _ p0; have f0 := hoz.row.frozenAt (k * 3); have f1 := hoz.row.frozenAt (k * 3 + 1); have f2 := hoz.row.frozenAt (k * 3 + 2); have HOZ := Hk.mk hoz; clear hs hoz)
        have H1 : Hk (Si B wr (((z.setCell ⟨g, k * 3, none⟩ (.int .i64 (-9))).setCell ⟨g, k * 3 + 1, none⟩ (.int .i64 0)).setCell ⟨g, k * 3 + 2, none⟩ (.slice none 0 0))) := ⟨(Si.of_sc HSC.out).trans (Si.setI HOZ.out k (-9))⟩
        have H4 := Hk.mk (HS.out.trans H1.out)
        have H3 := Hk.mk (H1.out.i _ _ _ HOH.out)
        exact ⟨⟨k + 1, by go_num, HLT.out, H3, H4⟩, by first | exact nx_ms HLT.out | exact nx_ms' HLT.out⟩
    · obtain rfl : k = n := by omega
      have HAL := Hk.mk (Si.of_all (Nat.le_trans hB HS.out.bl.size) (below_al wr (.cells #[.int .i64 0, .int .i64 0, .slice none 0 0] 29)))
      have hoa := ho.alloc (.cells #[.int .i64 0, .int .i64 0, .slice none 0 0] 29)
      obtain ⟨hkc, hnone, hcs⟩ := hoa.fin
      have HLO : Hk ((flt shI l).length = k * 3) := ⟨by rw [flt_len, ho.len]; rfl⟩
      have HCS := Hk.mk hcs
      have HNN := Hk.mk hnone
      clear hcs hnone
      by_cases hc : k < c
      · obtain ⟨g, rfl, -⟩ := hoa.blk.resolve_left (fun h => by omega)
        have HSP := Hk.mk (own_spare hoa.row 1 hc)
        have HHO := Hk.mk (own_holds hoa.row)
        have H4 : Hk (Si B w ((wr.alloc (.cells #[.int .i64 0, .int .i64 0, .slice none 0 0] 29)).setCells g (k * 3) (zrI 0).cs)) := ⟨(HS.out.trans HAL.out).trans (Si.setI hoa k 0)⟩
        clear hoa ho HO HS HAL hu
        focus
          go_wp2_with (at_builtin; go_must (refine wpList_append_arg _ rfl _ _ 22 rfl 29 ii (.agg #[.int .i64 0, .int .i64 0, .slice none 0 0]) 3 40 Try.underlying22 hii hiz0 hiz1 hiz2 rfl (by decide) g 0 k c (flt shI l) rfl HLO.out HHO.out ⟨wr.heap.size, 0, none⟩ 1 1 [.int .i64 0, .int .i64 0, .slice none 0 0] rfl rfl (lit_at wr _ _) (is_one (zrI 0)) (fun _ => HSP.out) (by unfold maxLen; omega) (by omega) (fun _ => ?_) (fun h => absurd h (by omega))); generalize hW : World.setCells (wr.alloc (.cells #[.int .i64 0, .int .i64 0, .slice none 0 0] 29)) g _ _ = W9; have H9 : Hk (Si B w W9) := ⟨by rw [← hW, Nat.zero_add]; exact H4.out⟩; clear hW H4)
          go_end0
          exact ⟨rfl, H9.out⟩
      · have hcn : c < k + 1 := by omega
        clear hoa ho HO hu
        focus
          go_wp2_with (at_builtin; go_must (refine wpList_append_grows _ rfl _ _ 22 rfl 29 ii (.agg #[.int .i64 0, .int .i64 0, .slice none 0 0]) 3 40 Try.underlying22 hii hiz0 hiz1 hiz2 rfl (by decide) a k c (flt shI l) rfl HNN.out HLO.out HCS.out ⟨wr.heap.size, 0, none⟩ 1 1 [.int .i64 0, .int .i64 0, .slice none 0 0] rfl rfl (lit_at wr _ _) (is_one (zrI 0)) hcn (by unfold maxLen; omega) (by omega) ?_); intro v8 z8 hown hgrow; have H8 := Hk.mk (HS.out.trans (Si.of_all (Nat.le_trans hB HS.out.bl.size) (below_gr hgrow))); clear hown hgrow)
          go_end0
          exact ⟨rfl, H8.out⟩
end Go.Proofs.Ytmphmpfeeiipgaa
/- What is taken: lists that are played. -/
namespace Go.Proofs.Ytmphmpfeeiipgaa
open Go.ChangeShapes Go.WideShapes Go.ChangeAt Go.RowKit Go.Deep
set_option linter.unusedVariables false
set_option linter.unusedSimpArgs false
theorem smI_of {w z : World} {B1 B2 n1 n2 : Nat} {a1 a2 : Option Addr} {M l : List Iv} (h1 : InD z B1 a1 n1 M) (h2 : InD w B2 a2 n2 l) (hs : SmI l) (hm : ∀ x, x ∈ abI M → x ∈ abI l) (hl : M.length ≤ l.length) : SmI M := ⟨Nat.le_trans hl hs.n, fun x hx => by
  obtain ⟨y, hy, e⟩ := List.mem_map.1 (hm x.ab (List.mem_map_of_mem hx))
  have e1 : abC y.l = abC x.l := congrArg In.l e
  have e2 := congrArg List.length e1
  rw [abC_len, abC_len] at e2
  refine ⟨by have := (hs.m y hy).n; omega, fun q hq => ?_⟩
  have h3 : q.ab ∈ abC y.l := by rw [e1]; exact List.mem_map_of_mem hq
  obtain ⟨r, hr, e4⟩ := List.mem_map.1 h3
  have h5 := congrArg (fun c : Cm => c.f.u.length) e4
  have h6 : r.u.length = q.u.length := h5
  have h7 := ((h2.u y hy).u r hr).len
  have h8 := ((h1.u x hx).u q hq).len
  have h9 := (hs.m y hy).m r hr
  omega⟩
theorem TkR.weak {w : World} {B B' n n' : Nat} {v v' : Value} {l l' : List Iv} (h : TkR w B v n l v' n' l') (hb : B' ≤ B) : TkR w B' v n l v' n' l' := ⟨h.a.weak hb, h.b.weak hb, h.ds⟩
/-- What was taken, and the others. -/
structure Tk2 (w : World) (B : Nat) (s1 : Option Addr) (n1 e1 : Nat) (M1 : List Iv) (s2 : Option Addr) (n2 e2 : Nat) (M2 : List Iv) (F1 F2 : List In) : Prop where
  r : TkR w B (.slice s1 n1 e1) n1 M1 (.slice s2 n2 e2) n2 M2
  f1 : abI M1 = F1
  f2 : abI M2 = F2
section
variable {w z : World} {B B' n1 e1 n2 e2 : Nat} {s1 s2 : Option Addr} {M1 M2 : List Iv} {F1 F2 : List In}
theorem Tk2.below (h : Tk2 w B s1 n1 e1 M1 s2 n2 e2 M2 F1 F2) (hb : Below w.heap.size w z) : Tk2 z B s1 n1 e1 M1 s2 n2 e2 M2 F1 F2 := ⟨h.r.below hb, h.f1, h.f2⟩
theorem Tk2.weak (h : Tk2 w B s1 n1 e1 M1 s2 n2 e2 M2 F1 F2) (hb : B' ≤ B) : Tk2 w B' s1 n1 e1 M1 s2 n2 e2 M2 F1 F2 := ⟨h.r.weak hb, h.f1, h.f2⟩
theorem Tk2.nil (w : World) (B : Nat) : Tk2 w B none 0 0 [] none 0 0 [] [] [] := ⟨TkR.nil _ _, rfl, rfl⟩
/-- All that is asked of them. -/
structure Tk3 (w : World) (B : Nat) (s1 : Option Addr) (n1 e1 : Nat) (M1 : List Iv) (s2 : Option Addr) (n2 e2 : Nat) (M2 : List Iv) (F1 F2 : List In) : Prop where
  t : Tk2 w B s1 n1 e1 M1 s2 n2 e2 M2 F1 F2
  q1 : SmI M1
  q2 : SmI M2
theorem Tk3.of {W : World} {B2 n : Nat} {a : Option Addr} {l : List Iv} (h : Tk2 w B s1 n1 e1 M1 s2 n2 e2 M2 F1 F2) (hd : InD W B2 a n l) (hs : SmI l) (p q : In → Bool) (h1 : F1 = (abI l).filter p) (h2 : F2 = (abI l).filter q) : Tk3 w B s1 n1 e1 M1 s2 n2 e2 M2 F1 F2 := ⟨h, smI_of h.r.a.d hd hs (fun x hx => by rw [h.f1, h1] at hx; exact (List.mem_filter.1 hx).1) (by
  have := congrArg List.length h.f1
  rw [abI_len, h1] at this
  rw [this, ← abI_len l]
  exact List.length_filter_le _ _), smI_of h.r.b.d hd hs (fun x hx => by rw [h.f2, h2] at hx; exact (List.mem_filter.1 hx).1) (by
  have := congrArg List.length h.f2
  rw [abI_len, h2] at this
  rw [this, ← abI_len l]
  exact List.length_filter_le _ _)⟩
theorem SmI.nil : SmI [] := ⟨Nat.zero_le _, fun _ h => by cases h⟩
theorem Tk3.nil (w : World) (B : Nat) : Tk3 w B none 0 0 [] none 0 0 [] [] [] := ⟨Tk2.nil _ _, SmI.nil, SmI.nil⟩
theorem Tk3.below (h : Tk3 w B s1 n1 e1 M1 s2 n2 e2 M2 F1 F2) (hb : Below w.heap.size w z) : Tk3 z B s1 n1 e1 M1 s2 n2 e2 M2 F1 F2 := ⟨h.t.below hb, h.q1, h.q2⟩
end
end Go.Proofs.Ytmphmpfeeiipgaa
/- An input put in its place, by the number of those ahead of it. -/
namespace Go.Proofs.Ytmphmpfeeiipgaa
open Go.ChangeShapes Go.WideShapes Go.ChangeAt Go.RowKit Go.Deep
set_option linter.unusedVariables false
set_option linter.unusedSimpArgs false
theorem put_app {x : In} : ∀ {a b : List In}, (∀ y, y ∈ a → ltB y x = true) → putN x (a ++ b) = (putN x b).map (a ++ ·)
  | [], b, _ => by cases h : putN x b <;> simp [h]
  | y :: a, b, h => by
    show (if ltB y x = true then (putN x (a ++ b)).map (y :: ·) else _) = _
    rw [if_pos (h y List.mem_cons_self), put_app fun z hz => h z (List.mem_cons_of_mem _ hz)]
    cases putN x b <;> rfl
theorem put_end {x : In} {l : List In} (h : ∀ y, y ∈ l → ltB y x = true) : putN x l = some (l ++ [x]) := by
  have := put_app (b := []) h
  rw [List.append_nil] at this
  rw [this]; rfl
theorem put_mid {x : In} {l : List In} {k : Nat} (hk : k < l.length) (h : ∀ y, y ∈ l.take k → ltB y x = true) (h1 : ltB l[k] x = false) : putN x l = if ltB x l[k] = true then some (l.take k ++ x :: l.drop k) else none := by
  have e : l = l.take k ++ l.drop k := (List.take_append_drop k l).symm
  have e2 : l.drop k = l[k] :: l.drop (k + 1) := List.drop_eq_getElem_cons hk
  have : putN x l = (putN x (l.drop k)).map (l.take k ++ ·) := by
    conv => lhs; rw [e]
    exact put_app h
  rw [this, e2]
  show (if ltB l[k] x = true then _ else if ltB x l[k] = true then _ else _ : Option (List In)).map _ = _
  rw [if_neg (by rw [h1]; decide)]
  by_cases h2 : ltB x l[k] = true
  · rw [if_pos h2, if_pos h2]; rfl
  · rw [if_neg h2, if_neg h2]; rfl
end Go.Proofs.Ytmphmpfeeiipgaa
/- Where an input stands among others. -/
namespace Go.Proofs.Ytmphmpfeeiipgaa
open Go.ChangeShapes Go.WideShapes Go.ChangeAt Go.RowKit Go.Deep
set_option linter.unusedVariables false
set_option linter.unusedSimpArgs false
theorem compI_as (x y : Iv) (r : Int) (W : World) (E : Hk (cfI x y = r)) :
    Calls Try.prog 41 #[.agg #[.int .i64 x.t, .int .i64 x.p, .slice x.a x.n x.c], .agg #[.int .i64 y.t, .int .i64 y.p, .slice y.a y.n y.c]] W fun e w' => e = .returned (.int .i64 r) ∧ Below W.heap.size W w' := by
  rw [← E.out]; exact compI_b x y W
theorem sorted_lt {l : List Iv} (h : sortedN (abI l)) {i j : Nat} (hij : i < j) (hj : j < l.length) : ltI (l.getD i default) (l.getD j default) := by
  have := List.pairwise_iff_getElem.1 h i j (by rw [abI_len]; omega) (by rw [abI_len]; exact hj) hij
  rw [← ltB_iff]
  simpa [abI, List.getD, hj, show i < l.length by omega] using this
theorem ltI_trans {x y z : Iv} (h : ltI x y) (k : ltI y z) : ltI x z := by unfold ltI at *; omega
theorem cfI_zero {x y : Iv} : cfI x y = 0 ↔ ¬ ltI x y ∧ ¬ ltI y x := by
  unfold cfI orI cmpI ltI
  by_cases a : x.t < y.t
  · simp [a]
  · by_cases b : y.t < x.t
    · simp [a, b]
    · by_cases c : x.p < y.p
      · simp [a, b, c] <;> omega
      · by_cases d : y.p < x.p
        · simp [a, b, c, d] <;> omega
        · simp [a, b, c, d] <;> omega
set_option maxRecDepth 100000 in
set_option maxHeartbeats 1600000 in
theorem bsI_any (q : Iv) (a : Option Addr) (n c : Nat) (l : List Iv) (w : World) (h : Qv shI w w.heap.size a n l) (hn : n ≤ 1048576) (hso : sortedN (abI l)) :
    Calls Try.prog 47 #[.slice a n c, .agg #[.int .i64 q.t, .int .i64 q.p, .slice q.a q.n q.c], .func (.func 41) #[] #[]] w fun e w' => (∃ (i : Nat) (d : Bool), e = .returned (.tuple #[.int .i64 i, .bool d]) ∧ i ≤ n ∧ (∀ k, k < i → ltI (l.getD k default) q) ∧ (∀ k, i ≤ k → k < n → ¬ ltI (l.getD k default) q) ∧ (d = true ↔ (i < n ∧ ¬ ltI q (l.getD i default)))) ∧ Below w.heap.size w w' := by
  have eg : ∀ args w, (callFunc 41 args).run Try.prog w = .ok (.enter 41 args) w := enters_of Try.func41 (by kernel_rfl) rfl
  have HWB : Hk (Below w.heap.size w (w.alloc (.cells #[.int .i64 q.t, .int .i64 q.p, .slice q.a q.n q.c] 29))) := ⟨(Below.refl _ _).alloc (Nat.le_refl _) _⟩
  have hNW : (w.heap.size + 1) ≤ (w.alloc (.cells #[.int .i64 q.t, .int .i64 q.p, .slice q.a q.n q.c] 29)).heap.size := by simp
  have HB : Hk (Below (w.heap.size + 1) (w.alloc (.cells #[.int .i64 q.t, .int .i64 q.p, .slice q.a q.n q.c] 29)) (w.alloc (.cells #[.int .i64 q.t, .int .i64 q.p, .slice q.a q.n q.c] 29))) := ⟨Below.refl _ _⟩
  have HTR : Hk (∀ X, Below (w.heap.size + 1) (w.alloc (.cells #[.int .i64 q.t, .int .i64 q.p, .slice q.a q.n q.c] 29)) X → Below w.heap.size w X) := ⟨fun X hX => HWB.out.trans (hX.mono (by omega))⟩
  have HP := Hk.mk (Bk.new w #[.int .i64 q.t, .int .i64 q.p, .slice q.a q.n q.c] 29)
  have HVF : Hk (∀ X, Below (w.heap.size + 1) (w.alloc (.cells #[.int .i64 q.t, .int .i64 q.p, .slice q.a q.n q.c] 29)) X → X.cell? ⟨w.heap.size, 0, none⟩ = some (.int .i64 q.t) ∧ X.cell? ⟨w.heap.size, 1, none⟩ = some (.int .i64 q.p) ∧ X.cell? ⟨w.heap.size, 2, none⟩ = some (.slice q.a q.n q.c) ∧ w.heap.size < X.heap.size) := ⟨fun X hX => by
    have h0 := (hX.cell (p := ⟨w.heap.size, 0, none⟩) (Nat.lt_succ_self _)).trans (HP.out.c 0)
    exact ⟨h0, (hX.cell (p := ⟨w.heap.size, 1, none⟩) (Nat.lt_succ_self _)).trans (HP.out.c 1), (hX.cell (p := ⟨w.heap.size, 2, none⟩) (Nat.lt_succ_self _)).trans (HP.out.c 2), World.block_lt_of_cell? _ _ h0⟩⟩
  have HI : Hk (∀ X, Below (w.heap.size + 1) (w.alloc (.cells #[.int .i64 q.t, .int .i64 q.p, .slice q.a q.n q.c] 29)) X → Qv shI X X.heap.size a n l) := ⟨fun X hX => (h.below (HTR.out X hX) (Nat.le_refl _)).mono (HTR.out X hX).size⟩
  have HL := Hk.mk h.len
  have HSO := Hk.mk hso
  clear h hso HP
  go_enter Try.func47, Try.ntmps47
  go_wp2_with fail
  go_loopw [9, 10] (fun x y wr => ∃ i j : Nat, x = .int .i64 i ∧ y = .int .i64 j ∧ i ≤ j ∧ j ≤ n ∧ Hk (∀ k, k < i → ltI (l.getD k default) q) ∧ Hk (∀ k, j ≤ k → k < n → ¬ ltI (l.getD k default) q) ∧ Hk (Below (w.heap.size + 1) (w.alloc (.cells #[.int .i64 q.t, .int .i64 q.p, .slice q.a q.n q.c] 29)) wr)) (fun x y _ => (intOf y).toNat - (intOf x).toNat)
  case atStart => exact ⟨0, n, rfl, rfl, by omega, by omega, ⟨fun k hk => absurd hk (by omega)⟩, ⟨fun k h1 h2 => absurd h1 (by omega)⟩, HB⟩
  case round =>
    clear HB
    obtain ⟨i, j, rfl, rfl, hij, hjn, HLo, HHi, HB⟩ := hrel
    obtain ⟨x0, x1, x2, xl⟩ := HVF.out _ HB.out
    have HV : Hk (Below wr.heap.size wr wr) := ⟨Below.refl _ _⟩
    by_cases hlt : i < j
    · obtain ⟨m, hm2, hm3, hm4⟩ : ∃ m : Nat, ((i : Int) + (j : Int)) / 2 = m ∧ i ≤ m ∧ m < j := ⟨(((i : Int) + (j : Int)) / 2).toNat, by omega, by omega, by omega⟩
      have hml : m < l.length := by rw [HL.out]; omega
      obtain ⟨b, off, rfl, hbl, hcc⟩ := (HI.out _ HB.out).rd (by omega)
      have p0 := hcc m hml 0 (by decide)
      have p1 := hcc m hml 1 (by decide)
      have p2 := hcc m hml 2 (by decide)
      have hgd : l[m] = l.getD m default := by simp [List.getD, hml]
      rw [hgd] at p0 p1 p2
      obtain ⟨pq, he⟩ : ∃ e, l.getD m default = e := ⟨_, rfl⟩
      rw [he] at p0 p1 p2
      replace p0 : wr.cell? ⟨b, off + m * 3, none⟩ = some (.int .i64 pq.t) := p0
      replace p1 : wr.cell? ⟨b, off + m * 3 + 1, none⟩ = some (.int .i64 pq.p) := p1
      replace p2 : wr.cell? ⟨b, off + m * 3 + 2, none⟩ = some (.slice pq.a pq.n pq.c) := p2
      have HE := Hk.mk he
      clear he hgd hcc
      have m0 : (0 : Int) ≤ (m : Int) := by omega
      have m1 : (m : Int) < (n : Int) := by omega
      have u1 : IntKind.u64.wrap ((i : Int) + (j : Int)) = (i : Int) + (j : Int) := by rw [IntKind.wrap_u64]; omega
      have u2 : ((i : Int) + (j : Int)) / 2 ^ (1 : Int).toNat = (m : Int) := by simpa using hm2
      have HIJ : Hk (i ≤ m ∧ m < j ∧ j ≤ n) := ⟨⟨hm3, hm4, hjn⟩⟩
      have HML := Hk.mk hml
      by_cases hlo : ltI pq q
      · have HN : Hk (∀ k, k < m + 1 → ltI (l.getD k default) q) := ⟨fun k hk => by
          by_cases e : k = m
          · rw [e, HE.out]; exact hlo
          · exact ltI_trans (sorted_lt HSO.out (show k < m by omega) HML.out) (by rw [HE.out]; exact hlo)⟩
        obtain ⟨r, hr⟩ : ∃ r, cfI pq q = r := ⟨_, rfl⟩
        have EC := Hk.mk hr
        have dr : decide (r < 0) = true := by rw [decide_eq_true_iff, ← hr]; exact (cfI_neg pq q).2 hlo
        clear hlo hr hml
        go_upto_region 5 with fail
        focus
          refine wp_region_held_drew (S := (fun X => (∀ b o, b < wr.heap.size → X.cell? ⟨b, o, none⟩ = wr.cell? ⟨b, o, none⟩) ∧ Below wr.heap.size wr X)) (by kernel_rfl) ?_ (fun hHeld => ?_)
          · exact kw_S (kw_drew HV.out)
          refine wpAnyH_take (i := 0) (v := ?_) rfl (by kernel_rfl) (by kernel_rfl) (by kernel_rfl) (fun _ _ _ h => h) (Or.inl ⟨by rfl, fun wX hSw => ?_⟩) (by assumption) ?_
          rotate_left
          · (try dsimp only at hSw); go_simp; try with_reducible rfl
          (try simp only [Act.put, List.getElem_toArray, List.getElem_cons_succ, List.getElem_cons_zero, List.setIfInBounds_toArray, List.set_cons_zero, List.set_cons_succ])
          refine wpAnyH_take (i := 1) (v := ?_) rfl (by kernel_rfl) (by kernel_rfl) (by kernel_rfl) (fun _ _ _ h => h) (Or.inl ⟨by rfl, fun wX hSw => ?_⟩) (by assumption) ?_
          rotate_left
          · (try dsimp only at hSw); go_simp; try with_reducible rfl
          (try simp only [Act.put, List.getElem_toArray, List.getElem_cons_succ, List.getElem_cons_zero, List.setIfInBounds_toArray, List.set_cons_zero, List.set_cons_succ])
          refine wpAnyH_take (i := 2) (v := ?_) rfl (by kernel_rfl) (by kernel_rfl) (by kernel_rfl) (fun _ _ _ h => h) (Or.inl ⟨by rfl, fun wX hSw => ?_⟩) (by assumption) ?_
          rotate_left
          · (try dsimp only at hSw); go_simp; try with_reducible rfl
          (try simp only [Act.put, List.getElem_toArray, List.getElem_cons_succ, List.getElem_cons_zero, List.setIfInBounds_toArray, List.set_cons_zero, List.set_cons_succ])
          refine wpAnyH_take (i := 3) (v := ?_) rfl (by kernel_rfl) (by kernel_rfl) (by kernel_rfl) (fun _ _ _ h => h) (Or.inl ⟨by rfl, fun wX hSw => ?_⟩) (by assumption) ?_
          rotate_left
          · (try dsimp only at hSw); go_simp; try with_reducible rfl
          (try simp only [Act.put, List.getElem_toArray, List.getElem_cons_succ, List.getElem_cons_zero, List.setIfInBounds_toArray, List.set_cons_zero, List.set_cons_succ])
          refine wpAnyH_take (i := 4) (v := ?_) rfl (by kernel_rfl) (by kernel_rfl) (by kernel_rfl) (fun _ _ _ h => h) (Or.inl ⟨by rfl, fun wX hSw => ?_⟩) (by assumption) ?_
          rotate_left
          · (try dsimp only at hSw); go_simp; try with_reducible rfl
          (try simp only [Act.put, List.getElem_toArray, List.getElem_cons_succ, List.getElem_cons_zero, List.setIfInBounds_toArray, List.set_cons_zero, List.set_cons_succ])
          refine wpAnyH_take (i := 5) (v := ?_) rfl (by kernel_rfl) (by kernel_rfl) (by kernel_rfl) (fun _ _ _ h => h) (Or.inl ⟨by rfl, fun wX hSw => ?_⟩) (by assumption) ?_
          rotate_left
          · (try dsimp only at hSw); go_simp; try with_reducible rfl
          (try simp only [Act.put, List.getElem_toArray, List.getElem_cons_succ, List.getElem_cons_zero, List.setIfInBounds_toArray, List.set_cons_zero, List.set_cons_succ])
          refine wpAnyH_ready (rs := [6]) (by kernel_rfl) (by simp) ?_
          refine AllReadyH.cons rfl (fun K hK => ?_) (AllReadyH.nil)
          go_simp
          ((refine (compI_as pq q r _ EC).mono ?_; rintro e z ⟨rfl, hb⟩; have hB2 : Hk (Below wr.heap.size wr z) := ⟨by first | exact kw_step HV.out (Nat.le_refl _) hb | exact kw_step HV.out.drew (Nat.le_refl _) hb⟩; clear hb; replace HV := hB2; clear hB2))
          refine hK.out _ _ ?_ (fun hHeld => ?_)
          · exact kw_S HV.out
          clear hK K
          (try simp only [Act.put, List.getElem_toArray, List.getElem_cons_succ, List.getElem_cons_zero, List.setIfInBounds_toArray, List.set_cons_zero, List.set_cons_succ])
          refine wpAnyH_take (i := 7) (v := ?_) rfl (by kernel_rfl) (by kernel_rfl) (by kernel_rfl) (fun _ _ _ h => h) (Or.inl ⟨by rfl, fun wX hSw => ?_⟩) (by assumption) ?_
          rotate_left
          · (try dsimp only at hSw); go_simp; try with_reducible rfl
          (try simp only [Act.put, List.getElem_toArray, List.getElem_cons_succ, List.getElem_cons_zero, List.setIfInBounds_toArray, List.set_cons_zero, List.set_cons_succ])
          refine wpAnyH_done (by kernel_rfl) ?_ _
          have HB2 := Hk.mk (HB.out.trans (HV.out.mono (kw_size HB.out hNW)))
          go_wp2_with fail
          exact ⟨⟨m + 1, j, by go_num, rfl, by have := HIJ.out; omega, HIJ.out.2.2, HN, HHi, HB2⟩, by have := HIJ.out; simp [intOf]; omega⟩
      · have HN : Hk (∀ k, m ≤ k → k < n → ¬ ltI (l.getD k default) q) := ⟨fun k h1 h2 h3 => by
          by_cases e : k = m
          · rw [e, HE.out] at h3; exact hlo h3
          · have := ltI_trans (sorted_lt HSO.out (show m < k by omega) (by rw [HL.out]; omega)) h3
            rw [HE.out] at this; exact hlo this⟩
        obtain ⟨r, hr⟩ : ∃ r, cfI pq q = r := ⟨_, rfl⟩
        have EC := Hk.mk hr
        have dr : decide (r < 0) = false := by rw [decide_eq_false_iff_not, ← hr]; exact fun h => hlo ((cfI_neg pq q).1 h)
        clear hlo hr hml
        go_upto_region 5 with fail
        focus
          refine wp_region_held_drew (S := (fun X => (∀ b o, b < wr.heap.size → X.cell? ⟨b, o, none⟩ = wr.cell? ⟨b, o, none⟩) ∧ Below wr.heap.size wr X)) (by kernel_rfl) ?_ (fun hHeld => ?_)
          · exact kw_S (kw_drew HV.out)
          refine wpAnyH_take (i := 0) (v := ?_) rfl (by kernel_rfl) (by kernel_rfl) (by kernel_rfl) (fun _ _ _ h => h) (Or.inl ⟨by rfl, fun wX hSw => ?_⟩) (by assumption) ?_
          rotate_left
          · (try dsimp only at hSw); go_simp; try with_reducible rfl
          (try simp only [Act.put, List.getElem_toArray, List.getElem_cons_succ, List.getElem_cons_zero, List.setIfInBounds_toArray, List.set_cons_zero, List.set_cons_succ])
          refine wpAnyH_take (i := 1) (v := ?_) rfl (by kernel_rfl) (by kernel_rfl) (by kernel_rfl) (fun _ _ _ h => h) (Or.inl ⟨by rfl, fun wX hSw => ?_⟩) (by assumption) ?_
          rotate_left
          · (try dsimp only at hSw); go_simp; try with_reducible rfl
          (try simp only [Act.put, List.getElem_toArray, List.getElem_cons_succ, List.getElem_cons_zero, List.setIfInBounds_toArray, List.set_cons_zero, List.set_cons_succ])
          refine wpAnyH_take (i := 2) (v := ?_) rfl (by kernel_rfl) (by kernel_rfl) (by kernel_rfl) (fun _ _ _ h => h) (Or.inl ⟨by rfl, fun wX hSw => ?_⟩) (by assumption) ?_
          rotate_left
          · (try dsimp only at hSw); go_simp; try with_reducible rfl
          (try simp only [Act.put, List.getElem_toArray, List.getElem_cons_succ, List.getElem_cons_zero, List.setIfInBounds_toArray, List.set_cons_zero, List.set_cons_succ])
          refine wpAnyH_take (i := 3) (v := ?_) rfl (by kernel_rfl) (by kernel_rfl) (by kernel_rfl) (fun _ _ _ h => h) (Or.inl ⟨by rfl, fun wX hSw => ?_⟩) (by assumption) ?_
          rotate_left
          · (try dsimp only at hSw); go_simp; try with_reducible rfl
          (try simp only [Act.put, List.getElem_toArray, List.getElem_cons_succ, List.getElem_cons_zero, List.setIfInBounds_toArray, List.set_cons_zero, List.set_cons_succ])
          refine wpAnyH_take (i := 4) (v := ?_) rfl (by kernel_rfl) (by kernel_rfl) (by kernel_rfl) (fun _ _ _ h => h) (Or.inl ⟨by rfl, fun wX hSw => ?_⟩) (by assumption) ?_
          rotate_left
          · (try dsimp only at hSw); go_simp; try with_reducible rfl
          (try simp only [Act.put, List.getElem_toArray, List.getElem_cons_succ, List.getElem_cons_zero, List.setIfInBounds_toArray, List.set_cons_zero, List.set_cons_succ])
          refine wpAnyH_take (i := 5) (v := ?_) rfl (by kernel_rfl) (by kernel_rfl) (by kernel_rfl) (fun _ _ _ h => h) (Or.inl ⟨by rfl, fun wX hSw => ?_⟩) (by assumption) ?_
          rotate_left
          · (try dsimp only at hSw); go_simp; try with_reducible rfl
          (try simp only [Act.put, List.getElem_toArray, List.getElem_cons_succ, List.getElem_cons_zero, List.setIfInBounds_toArray, List.set_cons_zero, List.set_cons_succ])
          refine wpAnyH_ready (rs := [6]) (by kernel_rfl) (by simp) ?_
          refine AllReadyH.cons rfl (fun K hK => ?_) (AllReadyH.nil)
          go_simp
          ((refine (compI_as pq q r _ EC).mono ?_; rintro e z ⟨rfl, hb⟩; have hB2 : Hk (Below wr.heap.size wr z) := ⟨by first | exact kw_step HV.out (Nat.le_refl _) hb | exact kw_step HV.out.drew (Nat.le_refl _) hb⟩; clear hb; replace HV := hB2; clear hB2))
          refine hK.out _ _ ?_ (fun hHeld => ?_)
          · exact kw_S HV.out
          clear hK K
          (try simp only [Act.put, List.getElem_toArray, List.getElem_cons_succ, List.getElem_cons_zero, List.setIfInBounds_toArray, List.set_cons_zero, List.set_cons_succ])
          refine wpAnyH_take (i := 7) (v := ?_) rfl (by kernel_rfl) (by kernel_rfl) (by kernel_rfl) (fun _ _ _ h => h) (Or.inl ⟨by rfl, fun wX hSw => ?_⟩) (by assumption) ?_
          rotate_left
          · (try dsimp only at hSw); go_simp; try with_reducible rfl
          (try simp only [Act.put, List.getElem_toArray, List.getElem_cons_succ, List.getElem_cons_zero, List.setIfInBounds_toArray, List.set_cons_zero, List.set_cons_succ])
          refine wpAnyH_done (by kernel_rfl) ?_ _
          have HB2 := Hk.mk (HB.out.trans (HV.out.mono (kw_size HB.out hNW)))
          go_wp2_with fail
          exact ⟨⟨i, m, rfl, rfl, HIJ.out.1, by have := HIJ.out; omega, HLo, HN, HB2⟩, by have := HIJ.out; simp [intOf]; omega⟩
    · have hji : j = i := by omega
      subst hji
      by_cases hin : j < n
      · have hml : j < l.length := by rw [HL.out]; omega
        obtain ⟨b, off, rfl, hbl, hcc⟩ := (HI.out _ HB.out).rd (by omega)
        have p0 := hcc j hml 0 (by decide)
        have p1 := hcc j hml 1 (by decide)
        have p2 := hcc j hml 2 (by decide)
        have hgd : l[j] = l.getD j default := by simp [List.getD, hml]
        rw [hgd] at p0 p1 p2
        have hge := HHi.out j (Nat.le_refl _) hin
        obtain ⟨pq, he⟩ : ∃ e, l.getD j default = e := ⟨_, rfl⟩
        rw [he] at p0 p1 p2 hge
        replace p0 : wr.cell? ⟨b, off + j * 3, none⟩ = some (.int .i64 pq.t) := p0
        replace p1 : wr.cell? ⟨b, off + j * 3 + 1, none⟩ = some (.int .i64 pq.p) := p1
        replace p2 : wr.cell? ⟨b, off + j * 3 + 2, none⟩ = some (.slice pq.a pq.n pq.c) := p2
        have HE := Hk.mk he
        clear he hgd hcc
        have m0 : (0 : Int) ≤ (j : Int) := by omega
        have m1 : (j : Int) < (n : Int) := by omega
        have HJN := Hk.mk hin
        obtain ⟨r, hr⟩ : ∃ r, cfI pq q = r := ⟨_, rfl⟩
        have EC := Hk.mk hr
        obtain ⟨d, hd⟩ : ∃ d, decide (r = 0) = d := ⟨_, rfl⟩
        have hd2 : (r == 0) = d := by rw [← hd]; rfl
        have ED : Hk (d = true ↔ (j < n ∧ ¬ ltI q (l.getD j default))) := ⟨by
          rw [← hd, decide_eq_true_iff, ← hr, cfI_zero, HE.out]
          exact ⟨fun h => ⟨HJN.out, h.2⟩, fun h => ⟨hge, h.2⟩⟩⟩
        clear hge hr hml hd
        go_upto_region 8 with fail
        focus
          refine wp_region_held_drew (S := (fun X => (∀ b o, b < wr.heap.size → X.cell? ⟨b, o, none⟩ = wr.cell? ⟨b, o, none⟩) ∧ Below wr.heap.size wr X)) (by kernel_rfl) ?_ (fun hHeld => ?_)
          · exact kw_S (kw_drew HV.out)
          refine wpAnyH_take (i := 0) (v := ?_) rfl (by kernel_rfl) (by kernel_rfl) (by kernel_rfl) (fun _ _ _ h => h) (Or.inl ⟨by rfl, fun wX hSw => ?_⟩) (by assumption) ?_
          rotate_left
          · (try dsimp only at hSw); go_simp; try with_reducible rfl
          (try simp only [Act.put, List.getElem_toArray, List.getElem_cons_succ, List.getElem_cons_zero, List.setIfInBounds_toArray, List.set_cons_zero, List.set_cons_succ])
          refine wpAnyH_take (i := 1) (v := ?_) rfl (by kernel_rfl) (by kernel_rfl) (by kernel_rfl) (fun _ _ _ h => h) (Or.inl ⟨by rfl, fun wX hSw => ?_⟩) (by assumption) ?_
          rotate_left
          · (try dsimp only at hSw); go_simp; try with_reducible rfl
          (try simp only [Act.put, List.getElem_toArray, List.getElem_cons_succ, List.getElem_cons_zero, List.setIfInBounds_toArray, List.set_cons_zero, List.set_cons_succ])
          refine wpAnyH_take (i := 2) (v := ?_) rfl (by kernel_rfl) (by kernel_rfl) (by kernel_rfl) (fun _ _ _ h => h) (Or.inl ⟨by rfl, fun wX hSw => ?_⟩) (by assumption) ?_
          rotate_left
          · (try dsimp only at hSw); go_simp; try with_reducible rfl
          (try simp only [Act.put, List.getElem_toArray, List.getElem_cons_succ, List.getElem_cons_zero, List.setIfInBounds_toArray, List.set_cons_zero, List.set_cons_succ])
          refine wpAnyH_take (i := 3) (v := ?_) rfl (by kernel_rfl) (by kernel_rfl) (by kernel_rfl) (fun _ _ _ h => h) (Or.inl ⟨by rfl, fun wX hSw => ?_⟩) (by assumption) ?_
          rotate_left
          · (try dsimp only at hSw); go_simp; try with_reducible rfl
          (try simp only [Act.put, List.getElem_toArray, List.getElem_cons_succ, List.getElem_cons_zero, List.setIfInBounds_toArray, List.set_cons_zero, List.set_cons_succ])
          refine wpAnyH_take (i := 4) (v := ?_) rfl (by kernel_rfl) (by kernel_rfl) (by kernel_rfl) (fun _ _ _ h => h) (Or.inl ⟨by rfl, fun wX hSw => ?_⟩) (by assumption) ?_
          rotate_left
          · (try dsimp only at hSw); go_simp; try with_reducible rfl
          (try simp only [Act.put, List.getElem_toArray, List.getElem_cons_succ, List.getElem_cons_zero, List.setIfInBounds_toArray, List.set_cons_zero, List.set_cons_succ])
          refine wpAnyH_take (i := 5) (v := ?_) rfl (by kernel_rfl) (by kernel_rfl) (by kernel_rfl) (fun _ _ _ h => h) (Or.inl ⟨by rfl, fun wX hSw => ?_⟩) (by assumption) ?_
          rotate_left
          · (try dsimp only at hSw); go_simp; try with_reducible rfl
          (try simp only [Act.put, List.getElem_toArray, List.getElem_cons_succ, List.getElem_cons_zero, List.setIfInBounds_toArray, List.set_cons_zero, List.set_cons_succ])
          refine wpAnyH_take (i := 6) (v := ?_) rfl (by kernel_rfl) (by kernel_rfl) (by kernel_rfl) (fun _ _ _ h => h) (Or.inl ⟨by rfl, fun wX hSw => ?_⟩) (by assumption) ?_
          rotate_left
          · (try dsimp only at hSw); go_simp; try with_reducible rfl
          (try simp only [Act.put, List.getElem_toArray, List.getElem_cons_succ, List.getElem_cons_zero, List.setIfInBounds_toArray, List.set_cons_zero, List.set_cons_succ])
          refine wpAnyH_take (i := 7) (v := ?_) rfl (by kernel_rfl) (by kernel_rfl) (by kernel_rfl) (fun _ _ _ h => h) (Or.inl ⟨by rfl, fun wX hSw => ?_⟩) (by assumption) ?_
          rotate_left
          · (try dsimp only at hSw); go_simp; try with_reducible rfl
          (try simp only [Act.put, List.getElem_toArray, List.getElem_cons_succ, List.getElem_cons_zero, List.setIfInBounds_toArray, List.set_cons_zero, List.set_cons_succ])
          refine wpAnyH_take (i := 8) (v := ?_) rfl (by kernel_rfl) (by kernel_rfl) (by kernel_rfl) (fun _ _ _ h => h) (Or.inl ⟨by rfl, fun wX hSw => ?_⟩) (by assumption) ?_
          rotate_left
          · (try dsimp only at hSw); go_simp; try with_reducible rfl
          (try simp only [Act.put, List.getElem_toArray, List.getElem_cons_succ, List.getElem_cons_zero, List.setIfInBounds_toArray, List.set_cons_zero, List.set_cons_succ])
          refine wpAnyH_take (i := 9) (v := ?_) rfl (by kernel_rfl) (by kernel_rfl) (by kernel_rfl) (fun _ _ _ h => h) (Or.inl ⟨by rfl, fun wX hSw => ?_⟩) (by assumption) ?_
          rotate_left
          · (try dsimp only at hSw); go_simp; try with_reducible rfl
          (try simp only [Act.put, List.getElem_toArray, List.getElem_cons_succ, List.getElem_cons_zero, List.setIfInBounds_toArray, List.set_cons_zero, List.set_cons_succ])
          refine wpAnyH_take (i := 10) (v := ?_) rfl (by kernel_rfl) (by kernel_rfl) (by kernel_rfl) (fun _ _ _ h => h) (Or.inl ⟨by rfl, fun wX hSw => ?_⟩) (by assumption) ?_
          rotate_left
          · (try dsimp only at hSw); go_simp; try with_reducible rfl
          (try simp only [Act.put, List.getElem_toArray, List.getElem_cons_succ, List.getElem_cons_zero, List.setIfInBounds_toArray, List.set_cons_zero, List.set_cons_succ])
          refine wpAnyH_ready (rs := [11]) (by kernel_rfl) (by simp) ?_
          refine AllReadyH.cons rfl (fun K hK => ?_) (AllReadyH.nil)
          go_simp
          ((refine (compI_as pq q r _ EC).mono ?_; rintro e z ⟨rfl, hb⟩; have hB2 : Hk (Below wr.heap.size wr z) := ⟨by first | exact kw_step HV.out (Nat.le_refl _) hb | exact kw_step HV.out.drew (Nat.le_refl _) hb⟩; clear hb; replace HV := hB2; clear hB2))
          refine hK.out _ _ ?_ (fun hHeld => ?_)
          · exact kw_S HV.out
          clear hK K
          (try simp only [Act.put, List.getElem_toArray, List.getElem_cons_succ, List.getElem_cons_zero, List.setIfInBounds_toArray, List.set_cons_zero, List.set_cons_succ])
          refine wpAnyH_take (i := 12) (v := ?_) rfl (by kernel_rfl) (by kernel_rfl) (by kernel_rfl) (fun _ _ _ h => h) (Or.inl ⟨by rfl, fun wX hSw => ?_⟩) (by assumption) ?_
          rotate_left
          · (try dsimp only at hSw); go_simp; try with_reducible rfl
          (try simp only [Act.put, List.getElem_toArray, List.getElem_cons_succ, List.getElem_cons_zero, List.setIfInBounds_toArray, List.set_cons_zero, List.set_cons_succ])
          refine wpAnyH_take (i := 13) (v := ?_) rfl (by kernel_rfl) (by kernel_rfl) (by kernel_rfl) (fun _ _ _ h => h) (Or.inl ⟨by rfl, fun wX hSw => ?_⟩) (by assumption) ?_
          rotate_left
          · (try dsimp only at hSw); go_simp; try with_reducible rfl
          (try simp only [Act.put, List.getElem_toArray, List.getElem_cons_succ, List.getElem_cons_zero, List.setIfInBounds_toArray, List.set_cons_zero, List.set_cons_succ])
          refine wpAnyH_take (i := 14) (v := ?_) rfl (by kernel_rfl) (by kernel_rfl) (by kernel_rfl) (fun _ _ _ h => h) (Or.inl ⟨by rfl, fun wX hSw => ?_⟩) (by assumption) ?_
          rotate_left
          · (try dsimp only at hSw); go_simp; try with_reducible rfl
          (try simp only [Act.put, List.getElem_toArray, List.getElem_cons_succ, List.getElem_cons_zero, List.setIfInBounds_toArray, List.set_cons_zero, List.set_cons_succ])
          refine wpAnyH_take (i := 15) (v := ?_) rfl (by kernel_rfl) (by kernel_rfl) (by kernel_rfl) (fun _ _ _ h => h) (Or.inl ⟨by rfl, fun wX hSw => ?_⟩) (by assumption) ?_
          rotate_left
          · (try dsimp only at hSw); go_simp; try with_reducible rfl
          (try simp only [Act.put, List.getElem_toArray, List.getElem_cons_succ, List.getElem_cons_zero, List.setIfInBounds_toArray, List.set_cons_zero, List.set_cons_succ])
          refine wpAnyH_done (by kernel_rfl) ?_ _
          have HB2 := Hk.mk (HB.out.trans (HV.out.mono (kw_size HB.out hNW)))
          go_wp2_with fail
          go_ret2
          exact ⟨⟨j, d, rfl, Nat.le_of_lt HJN.out, HLo.out, HHi.out, ED.out⟩, HTR.out _ HB2.out⟩
      · have HJN := Hk.mk hin
        go_upto_region 8 with fail
        focus
          refine wp_region_held_drew (S := (fun X => (∀ b o, b < wr.heap.size → X.cell? ⟨b, o, none⟩ = wr.cell? ⟨b, o, none⟩) ∧ Below wr.heap.size wr X)) (by kernel_rfl) ?_ (fun hHeld => ?_)
          · exact kw_S (kw_drew HV.out)
          refine wpAnyH_take (i := 0) (v := ?_) rfl (by kernel_rfl) (by kernel_rfl) (by kernel_rfl) (fun _ _ _ h => h) (Or.inl ⟨by rfl, fun wX hSw => ?_⟩) (by assumption) ?_
          rotate_left
          · (try dsimp only at hSw); go_simp; try with_reducible rfl
          (try simp only [Act.put, List.getElem_toArray, List.getElem_cons_succ, List.getElem_cons_zero, List.setIfInBounds_toArray, List.set_cons_zero, List.set_cons_succ])
          refine wpAnyH_take (i := 1) (v := ?_) rfl (by kernel_rfl) (by kernel_rfl) (by kernel_rfl) (fun _ _ _ h => h) (Or.inl ⟨by rfl, fun wX hSw => ?_⟩) (by assumption) ?_
          rotate_left
          · (try dsimp only at hSw); go_simp; try with_reducible rfl
          (try simp only [Act.put, List.getElem_toArray, List.getElem_cons_succ, List.getElem_cons_zero, List.setIfInBounds_toArray, List.set_cons_zero, List.set_cons_succ])
          refine wpAnyH_take (i := 2) (v := ?_) rfl (by kernel_rfl) (by kernel_rfl) (by kernel_rfl) (fun _ _ _ h => h) (Or.inl ⟨by rfl, fun wX hSw => ?_⟩) (by assumption) ?_
          rotate_left
          · (try dsimp only at hSw); go_simp; try with_reducible rfl
          (try simp only [Act.put, List.getElem_toArray, List.getElem_cons_succ, List.getElem_cons_zero, List.setIfInBounds_toArray, List.set_cons_zero, List.set_cons_succ])
          refine wpAnyH_take (i := 3) (v := ?_) rfl (by kernel_rfl) (by kernel_rfl) (by kernel_rfl) (fun _ _ _ h => h) (Or.inl ⟨by rfl, fun wX hSw => ?_⟩) (by assumption) ?_
          rotate_left
          · (try dsimp only at hSw); go_simp; try with_reducible rfl
          (try simp only [Act.put, List.getElem_toArray, List.getElem_cons_succ, List.getElem_cons_zero, List.setIfInBounds_toArray, List.set_cons_zero, List.set_cons_succ])
          refine wpAnyH_take (i := 4) (v := ?_) rfl (by kernel_rfl) (by kernel_rfl) (by kernel_rfl) (fun _ _ _ h => h) (Or.inl ⟨by rfl, fun wX hSw => ?_⟩) (by assumption) ?_
          rotate_left
          · (try dsimp only at hSw); go_simp; try with_reducible rfl
          (try simp only [Act.put, List.getElem_toArray, List.getElem_cons_succ, List.getElem_cons_zero, List.setIfInBounds_toArray, List.set_cons_zero, List.set_cons_succ])
          refine wpAnyH_take (i := 5) (v := undef) rfl (by kernel_rfl) (by kernel_rfl) (by kernel_rfl) (fun _ _ _ h => h) (Or.inr ⟨by rfl, rfl⟩) (by assumption) ?_
          (try simp only [Act.put, List.getElem_toArray, List.getElem_cons_succ, List.getElem_cons_zero, List.setIfInBounds_toArray, List.set_cons_zero, List.set_cons_succ])
          refine wpAnyH_take (i := 6) (v := undef) rfl (by kernel_rfl) (by kernel_rfl) (by kernel_rfl) (fun _ _ _ h => h) (Or.inr ⟨by rfl, rfl⟩) (by assumption) ?_
          (try simp only [Act.put, List.getElem_toArray, List.getElem_cons_succ, List.getElem_cons_zero, List.setIfInBounds_toArray, List.set_cons_zero, List.set_cons_succ])
          refine wpAnyH_take (i := 7) (v := undef) rfl (by kernel_rfl) (by kernel_rfl) (by kernel_rfl) (fun _ _ _ h => h) (Or.inr ⟨by rfl, rfl⟩) (by assumption) ?_
          (try simp only [Act.put, List.getElem_toArray, List.getElem_cons_succ, List.getElem_cons_zero, List.setIfInBounds_toArray, List.set_cons_zero, List.set_cons_succ])
          refine wpAnyH_take (i := 8) (v := undef) rfl (by kernel_rfl) (by kernel_rfl) (by kernel_rfl) (fun _ _ _ h => h) (Or.inr ⟨by rfl, rfl⟩) (by assumption) ?_
          (try simp only [Act.put, List.getElem_toArray, List.getElem_cons_succ, List.getElem_cons_zero, List.setIfInBounds_toArray, List.set_cons_zero, List.set_cons_succ])
          refine wpAnyH_take (i := 9) (v := undef) rfl (by kernel_rfl) (by kernel_rfl) (by kernel_rfl) (fun _ _ _ h => h) (Or.inr ⟨by rfl, rfl⟩) (by assumption) ?_
          (try simp only [Act.put, List.getElem_toArray, List.getElem_cons_succ, List.getElem_cons_zero, List.setIfInBounds_toArray, List.set_cons_zero, List.set_cons_succ])
          refine wpAnyH_take (i := 10) (v := undef) rfl (by kernel_rfl) (by kernel_rfl) (by kernel_rfl) (fun _ _ _ h => h) (Or.inr ⟨by rfl, rfl⟩) (by assumption) ?_
          (try simp only [Act.put, List.getElem_toArray, List.getElem_cons_succ, List.getElem_cons_zero, List.setIfInBounds_toArray, List.set_cons_zero, List.set_cons_succ])
          refine wpAnyH_take (i := 11) (v := undef) rfl (by kernel_rfl) (by kernel_rfl) (by kernel_rfl) (fun _ _ _ h => h) (Or.inr ⟨by rfl, rfl⟩) (by assumption) ?_
          (try simp only [Act.put, List.getElem_toArray, List.getElem_cons_succ, List.getElem_cons_zero, List.setIfInBounds_toArray, List.set_cons_zero, List.set_cons_succ])
          refine wpAnyH_take (i := 12) (v := undef) rfl (by kernel_rfl) (by kernel_rfl) (by kernel_rfl) (fun _ _ _ h => h) (Or.inr ⟨by rfl, rfl⟩) (by assumption) ?_
          (try simp only [Act.put, List.getElem_toArray, List.getElem_cons_succ, List.getElem_cons_zero, List.setIfInBounds_toArray, List.set_cons_zero, List.set_cons_succ])
          refine wpAnyH_take (i := 13) (v := ?_) rfl (by kernel_rfl) (by kernel_rfl) (by kernel_rfl) (fun _ _ _ h => h) (Or.inl ⟨by rfl, fun wX hSw => ?_⟩) (by assumption) ?_
          rotate_left
          · (try dsimp only at hSw); go_simp; try with_reducible rfl
          (try simp only [Act.put, List.getElem_toArray, List.getElem_cons_succ, List.getElem_cons_zero, List.setIfInBounds_toArray, List.set_cons_zero, List.set_cons_succ])
          refine wpAnyH_take (i := 14) (v := ?_) rfl (by kernel_rfl) (by kernel_rfl) (by kernel_rfl) (fun _ _ _ h => h) (Or.inl ⟨by rfl, fun wX hSw => ?_⟩) (by assumption) ?_
          rotate_left
          · (try dsimp only at hSw); go_simp; try with_reducible rfl
          (try simp only [Act.put, List.getElem_toArray, List.getElem_cons_succ, List.getElem_cons_zero, List.setIfInBounds_toArray, List.set_cons_zero, List.set_cons_succ])
          refine wpAnyH_take (i := 15) (v := ?_) rfl (by kernel_rfl) (by kernel_rfl) (by kernel_rfl) (fun _ _ _ h => h) (Or.inl ⟨by rfl, fun wX hSw => ?_⟩) (by assumption) ?_
          rotate_left
          · (try dsimp only at hSw); go_simp; try with_reducible rfl
          (try simp only [Act.put, List.getElem_toArray, List.getElem_cons_succ, List.getElem_cons_zero, List.setIfInBounds_toArray, List.set_cons_zero, List.set_cons_succ])
          refine wpAnyH_done (by kernel_rfl) ?_ _
          have HB2 := Hk.mk (HB.out.trans (HV.out.mono (kw_size HB.out hNW)))
          go_wp2_with fail
          go_ret2
          exact ⟨⟨j, false, rfl, hjn, HLo.out, HHi.out, ⟨fun h => (by cases h), fun h => absurd h.1 HJN.out⟩⟩, by first | exact HTR.out _ HB2.out | exact HTR.out _ HB2.out.drew⟩
end Go.Proofs.Ytmphmpfeeiipgaa
