import Derived.Laws.IdiomCopy
import Derived.Shelf.Spec.SlicesInsert
import Derived.Shelf.Spec.SlicesInsertGrow
import Derived.Lib.AppendZerosOnto
import Derived.Laws.NewBlocks
import Derived.Deep.QuietTactic
import Derived.BigQuiet
import Derived.Deep.RegionWith
import Derived.Deep.RegionHeld3
import Derived.Deep.DeepCutAuto
import Derived.Deep.DeepFit
import Derived.Outline
import Derived.Test.YtdpblimhfmfbnaaZsab
import Derived.Test.YtdpblimhfmfbnaaZsy
import Derived.Test.YtdpblimhfmfbnaaZsa
set_option linter.unusedVariables false
set_option linter.unusedSimpArgs false
namespace Go.Proofs.Ytdpblimhfmfbnaa
open Go.RowKit Go.Deep
structure in3_Ow (w : World) (base : Nat) (v : Value) (n : Nat) (l : List Iv) : Prop where
 len : l.length = n
 row : w.ownsRow base 55 3 v n (flt shI l)
theorem in3_to {w : World} {base n : Nat} {v : Value} {l : List Iv} (h : in3_Ow w base v n l) : Ow shI 55 w base v n l := ⟨h.len, h.row⟩
theorem in3_of {w : World} {base n : Nat} {v : Value} {l : List Iv} (h : Ow shI 55 w base v n l) : in3_Ow w base v n l := ⟨h.len, h.row⟩
theorem in3_Ow.weak {w : World} {base base' n : Nat} {v : Value} {l : List Iv} (h : in3_Ow w base v n l) (hb : base' ≤ base) : in3_Ow w base' v n l := in3_of ((in3_to h).weak hb)
theorem in3_len (l : List Iv) : (flt shI l).length = l.length * 3 := flt_len _ l
theorem in3_app (l m : List Iv) : flt shI (l ++ m) = flt shI l ++ flt shI m := flt_app _ l m
theorem in3_one (l : List Iv) : ∀ u ∈ flt shI l, u.oneCell' = true := flt_one _ l
theorem in3_takeL {l : List Iv} {i : Nat} : flt shI (l.take i) = (flt shI l).take (i * 3) := flt_take _ l i
theorem in3_dropL {l : List Iv} {i : Nat} : flt shI (l.drop i) = (flt shI l).drop (i * 3) := flt_drop _ l i
theorem in3_ins_nil (b : Iv) (S : Nat) (X : World) (h : Bk X S #[.int .i64 b.t, .int .i64 b.p, .slice b.a b.n b.c]) : Calls Try.prog 50 #[.slice none 0 0, .int .i64 0, .slice (some ⟨S, 0, none⟩) 1 1] X fun e z => ∃ v, e = .returned v ∧ in3_Ow z X.heap.size v 1 [b] ∧ Below X.heap.size X z := by
 have HBk := Hk.mk h
 obtain ⟨i0, hi, hz0, hz1, hz2⟩ := info_parts info_in
 have hown : X.ownsRow X.heap.size 55 3 (.slice none 0 0) 0 [] := ⟨rfl, Or.inl ⟨rfl, rfl⟩⟩
 clear h
 go_enter Try.func50, Try.ntmps50
 go_wp2_with (at_builtin; go_must (refine wpList_append_own _ rfl _ _ 24 rfl X.heap.size 55 i0 (.agg #[.int .i64 0, .int .i64 0, .slice none 0 0]) 3 40 Try.underlying24 hi hz0 hz1 hz2 rfl (by decide) _ 0 [] rfl hown ⟨S, 0, none⟩ 1 1 [.int .i64 b.t, .int .i64 b.p, .slice b.a b.n b.c] rfl rfl ?c1 ?c2 (by unfold maxLen; omega) (by omega) (Nat.le_refl _) ?_))
 case c1 =>
  intro j u hj
  simp only [Addr.add, Nat.zero_add]
  rw [show (if j = 0 then (⟨S, 0, none⟩ : Addr) else ⟨S, j, none⟩) = ⟨S, j, none⟩ by split <;> simp_all, HBk.out.c j]
  simpa using hj
 case c2 =>
  intro u hu
  simp at hu
  rcases hu with rfl | rfl | rfl <;> rfl
 intro v z hown2 hgrow hnil
 clear hnil
 go_wp2
 go_ret
 exact ⟨v, rfl, ⟨rfl, by simpa [flt_one1, shI, Iv.cs] using hown2⟩, below_grown hgrow⟩
theorem in3_run_copy (w : World) (ty : TypeId) (b o dLen dCap : Nat) (a : Addr) (sLen sCap k : Nat) (cs : List Value) (hk : Nat.min sLen dLen = k) (hn : cs.length = k * 3)
  (hsrc : ∀ j v, cs[j]? = some v → w.cell? (a.add j) = some v) (hc : ∀ j, j < cs.length → (w.cell? ⟨b, o + j, none⟩).isSome = true) (hf : ∀ j, j < cs.length → w.frozen? ⟨b, o + j, none⟩ = false) (h1 : ∀ v ∈ cs, v.oneCell' = true) :
  (Builtin.copy_ #[24, 24] ty #[.slice (some ⟨b, o, none⟩) dLen dCap, .slice (some a) sLen sCap]).run Try.prog w = .ok (goInt k) (w.setCells b o cs) := by
 have hl := run_loadCells_list (P := Try.prog) w a cs hsrc
 have hst := run_storeCells_cells (P := Try.prog) b o cs 0 w (by simpa using hc) (by simpa using hf) h1
 obtain ⟨i0, hi, hz0, hz1, hz2⟩ := info_parts info_in
 rw [hn] at hl
 simp [Builtin.copy_, run_underlying Try.underlying24, Builtin.lenOf, Builtin.firstCells, sizeOf, typeInfo, hi, hz1, hk, hl, hst]
theorem in3_own_ins {W X1 X2 : World} {base g n c i : Nat} {bs : List Iv} {d : Iv} (h : in3_Ow W base (.slice (some ⟨g, 0, none⟩) n c) n bs) (hi : i ≤ n) (hr : n + 1 ≤ c) (hsz : ∀ j, j < (n + 1) * 3 → (W.cell? ⟨g, j, none⟩).isSome = true) (h1 : X1 = W.setCells g ((i + 1) * 3) (flt shI (bs.drop i))) (h2 : X2 = X1.setCells g (i * 3) (flt shI [d])) :
  in3_Ow X2 base (.slice (some ⟨g, 0, none⟩) (n + 1) c) (n + 1) (bs.take i ++ [d] ++ bs.drop i) := by
 have hl := h.len
 have hel : (bs.take i ++ [d] ++ bs.drop i).length = n + 1 := by simp; omega
 obtain ⟨hrl, ⟨e, _⟩ | ⟨g', cap, cur, e, hg, hh, hc, hm, hs, ht⟩⟩ := h.row
 ·cases e
 injection e with e1 e2 e3
 injection e1 with e1
 injection e1 with e1
 subst e1 e3
 obtain ⟨cur1, hh1, hs1⟩ := setCells_heap (flt shI (bs.drop i)) ((i + 1) * 3) W cur hh
 rw [← h1] at hh1
 obtain ⟨cur2, hh2, hs2⟩ := setCells_heap (flt shI [d]) (i * 3) X1 cur1 hh1
 rw [← h2] at hh2
 have hdl : (flt shI (bs.drop i)).length = (n - i) * 3 := by rw [in3_len]; simp [hl]
 have hd1 : (flt shI [d]).length = 3 := by rw [in3_len]; rfl
 have hsW : ∀ j, j < (n + 1) * 3 → j < cur.size := fun j hj => by
  have := hsz j hj
  rw [cell_cur hh] at this
  cases hq : cur[j]? with
  | none => rw [hq] at this; cases this
  | some v => exact (Array.getElem?_eq_some_iff.1 hq).1
 refine ⟨hel, by rw [in3_len, hel], Or.inr ⟨g, c, cur2, rfl, hg, hh2, by omega, hm, by omega, ?_⟩⟩
 apply List.ext_getElem?
 intro t
 have htk : ((flt shI bs).take (i * 3)).length = i * 3 := by rw [List.length_take, in3_len]; omega
 by_cases htl : t < (n + 1) * 3
 ·rw [List.getElem?_take_of_lt htl, Array.getElem?_toList, ← cell_cur hh2 t, h2, in3_app, in3_app, in3_takeL]
  by_cases hti : t < i * 3
  ·rw [World.cell?_setCells_out g _ (i * 3) X1 ⟨g, t, none⟩ (fun _ _ => Or.inl hti), h1, World.cell?_setCells_out g _ ((i + 1) * 3) W ⟨g, t, none⟩ (fun _ _ => Or.inl (by show t < _; omega)), cell_cur hh t,
    List.getElem?_append_left (by rw [List.length_append]; omega), List.getElem?_append_left (by omega), List.getElem?_take_of_lt hti, ← ht, List.getElem?_take_of_lt (by omega), Array.getElem?_toList]
  ·by_cases htj : t < (i + 1) * 3
   ·obtain ⟨q, rfl⟩ : ∃ q, t = i * 3 + q := ⟨t - i * 3, by omega⟩
    rw [World.cell?_setCells_in g _ (i * 3) X1 (fun j hj => by rw [cell_cur hh1, Array.getElem?_eq_getElem (by rw [hs1]; exact hsW _ (by omega))]; rfl) q (by omega),
     List.getElem?_append_left (by rw [List.length_append]; omega), List.getElem?_append_right (by omega), htk, show i * 3 + q - i * 3 = q by omega, List.getElem?_eq_getElem (by omega)]
   ·obtain ⟨q, rfl⟩ : ∃ q, t = (i + 1) * 3 + q := ⟨t - (i + 1) * 3, by omega⟩
    have hq : q < (flt shI (bs.drop i)).length := by omega
    rw [World.cell?_setCells_out g _ (i * 3) X1 ⟨g, (i + 1) * 3 + q, none⟩ (fun _ _ => Or.inr (by show i * 3 + _ ≤ (i + 1) * 3 + q; omega)), h1,
     World.cell?_setCells_in g _ ((i + 1) * 3) W (fun j hj => by rw [cell_cur hh, Array.getElem?_eq_getElem (hsW _ (by omega))]; rfl) q hq,
     List.getElem?_append_right (by rw [List.length_append]; omega), List.length_append, htk, hd1, show (i + 1) * 3 + q - (i * 3 + 3) = q by omega, List.getElem?_eq_getElem hq]
 ·rw [List.getElem?_eq_none (by simp; omega), List.getElem?_eq_none (by rw [in3_len, hel]; omega)]
theorem in3_size (w : World) : (Go.sizeOf 55).run Try.prog w = .ok 3 w := by kernel_rfl
set_option maxRecDepth 100000 in
set_option maxHeartbeats 1600000 in
theorem in3_ins_room (d : Iv) (S base g n c i : Nat) (bs : List Iv) (X : World) (h : in3_Ow X base (.slice (some ⟨g, 0, none⟩) n c) n bs) (hk : Bk X S #[.int .i64 d.t, .int .i64 d.p, .slice d.a d.n d.c]) (hS : S ≠ g) (hn : n ≤ 1099511627776) (hi : i < n) (hr : n + 1 ≤ c) :
  Calls Try.prog 50 #[.slice (some ⟨g, 0, none⟩) n c, .int .i64 (i : Int), .slice (some ⟨S, 0, none⟩) 1 1] X fun e z => e = .returned (.slice (some ⟨g, 0, none⟩) (n + 1) c) ∧ in3_Ow z base (.slice (some ⟨g, 0, none⟩) (n + 1) c) (n + 1) (bs.take i ++ [d] ++ bs.drop i) ∧ Fr (fun j => j = g) X z := by
 obtain ⟨a', c', e, hnc, hcm, hbq, hb0⟩ := Ow.bqx (in3_to h)
 injection e with e1 e2 e3
 subst e1 e3
 have hcm' : c ≤ 9223372036854775807 := by unfold maxLen at hcm; omega
 have hl := h.len
 obtain ⟨TS, hSh⟩ := hk.bl
 obtain ⟨cur, hh, hs, ht⟩ : ∃ cur : Array Value, X.heap[g]? = some (.cells cur 55 (0, 0)) ∧ cur.size = c * 3 ∧ cur.toList.take (n * 3) = flt shI bs := by
  rcases h.row.2 with ⟨e, _⟩ | ⟨g', cap, cur, e, _, hh, _, _, hs, ht⟩
  ·cases e
  ·injection e with e1 e2 e3
   injection e1 with e1
   injection e1 with e1
   subst e1 e3
   exact ⟨cur, hh, hs, ht⟩
 have hbase : base ≤ g := (hb0 g 0 rfl).1
 obtain ⟨W1, hW1⟩ : ∃ W1, W1 = X.drew.setCells g ((i + 1) * 3) (flt shI (bs.drop i)) := ⟨_, rfl⟩
 have hdl : (flt shI (bs.drop i)).length = (n - i) * 3 := by rw [in3_len]; simp [hl]
 obtain ⟨cur1, hh1, hs1⟩ := setCells_heap (flt shI (bs.drop i)) ((i + 1) * 3) X.drew cur hh
 rw [← hW1] at hh1
 have hov : ∀ lb cb, (callFunc 66 #[.slice (some ⟨S, 0, none⟩) 1 1, .slice (some ⟨g, (i + 1) * 3, none⟩) lb cb]).run Try.prog X = .ok (.value (.bool false)) X := fun lb cb => by
  rw [run_callFunc_extern Try.func66 (by kernel_rfl) (by kernel_rfl) (by kernel_rfl) (e := Extern.SlicesOverlaps.overlaps #[24, 24] #[4]) (by kernel_rfl),
   Lib.run_overlaps_apart X 24 4 55 Try.underlying24 3 in3_size ⟨S, 0, none⟩ ⟨g, (i + 1) * 3, none⟩ 1 1 lb cb hS TS 55 3 cur.size (shape_curI hSh) (shape_curI hh) (by omega) (froz_cur hSh _) (froz_cur hSh _)]
  rfl
 have hcp1 : ∀ ty dc sc, (Builtin.copy_ #[24, 24] ty #[.slice (some ⟨g, (i + 1) * 3, none⟩) (n - i) dc, .slice (some ⟨g, i * 3, none⟩) (n + 1 - i) sc]).run Try.prog X.drew = .ok (goInt ((n - i : Nat) : Int)) W1 := fun ty dc sc => by
  rw [hW1]
  exact in3_run_copy X.drew ty g ((i + 1) * 3) (n - i) dc ⟨g, i * 3, none⟩ (n + 1 - i) sc (n - i) (flt shI (bs.drop i)) (by simp only [Nat.min_def]; split <;> omega) hdl
   (fun j v hj => by
    rw [in3_dropL, List.getElem?_drop, ← ht] at hj
    rw [Addr.add_lit]
    show X.cell? _ = _
    rw [cell_cur hh]
    rw [List.getElem?_take] at hj
    split at hj
    ·rwa [Array.getElem?_toList] at hj
    ·cases hj)
   (fun j hj => by show (X.cell? _).isSome = true; rw [cell_cur hh, Array.getElem?_eq_getElem (by omega)]; rfl) (fun j hj => froz_cur (w := X) hh _) (in3_one _)
 have hcp2 : ∀ (W : World), (∀ x, W.cell? x = W1.cell? x) → (∀ x, W.frozen? x = W1.frozen? x) → ∀ ty dc, (Builtin.copy_ #[24, 24] ty #[.slice (some ⟨g, i * 3, none⟩) (n + 1 - i) dc, .slice (some ⟨S, 0, none⟩) 1 1]).run Try.prog W = .ok (goInt 1) (W.setCells g (i * 3) (flt shI [d])) := fun W hWc hWf ty dc =>
  in3_run_copy W ty g (i * 3) (n + 1 - i) dc ⟨S, 0, none⟩ 1 1 1 (flt shI [d]) (by simp only [Nat.min_def]; split <;> omega) rfl
   (fun j v hj => by
    rw [Addr.add_lit, hWc, hW1, World.cell?_setCells_out g _ _ _ _ (fun h _ => absurd h hS)]
    show X.cell? _ = _
    rw [cell_cur hSh, Nat.zero_add]
    simpa [flt_one1, shI, Iv.cs] using hj)
   (fun j hj => by
    rw [show (flt shI [d]).length = 3 from rfl] at hj
    rw [hWc, cell_cur hh1, Array.getElem?_eq_getElem (by omega)]; rfl) (fun j hj => by rw [hWf]; exact froz_cur hh1 _) (in3_one _)
 have FIN : Hk (∀ X1 X2 : World, X1 = W1 ∨ X1 = W1.drew → X2 = X1.setCells g (i * 3) (flt shI [d]) → in3_Ow X2 base (.slice (some ⟨g, 0, none⟩) (n + 1) c) (n + 1) (bs.take i ++ [d] ++ bs.drop i) ∧ Fr (fun j => j = g) X X2) := by
  have hB1 : Fr (fun j => j = g) X W1 := by
   rw [hW1]
   exact Fr.setCells (M := fun j => j = g) (g := g) rfl _ _ (Fr.refl _ _).drew
  have key : ∀ V X1 : World, V.heap = X.heap → X1 = V.setCells g ((i + 1) * 3) (flt shI (bs.drop i)) → in3_Ow (X1.setCells g (i * 3) (flt shI [d])) base (.slice (some ⟨g, 0, none⟩) (n + 1) c) (n + 1) (bs.take i ++ [d] ++ bs.drop i) := fun V X1 hV h1 =>
   in3_own_ins (W := V) (by
    refine ⟨h.len, h.row.1, ?_⟩
    rcases h.row.2 with h2 | ⟨g', cap, cur, e, hg, hq, r⟩
    ·exact .inl h2
    ·exact .inr ⟨g', cap, cur, e, hg, by rw [hV]; exact hq, r⟩) (by omega) hr (fun j hj => by rw [cell_cur (w := V) (by rw [hV]; exact hh), Array.getElem?_eq_getElem (by omega)]; rfl) h1 rfl
  refine ⟨fun X1 X2 o e2 => ?_⟩
  subst e2
  rcases o with rfl | rfl
  ·exact ⟨key X.drew _ rfl hW1, Fr.setCells (M := fun j => j = g) (g := g) rfl _ _ hB1⟩
  ·exact ⟨key X.drew.drew _ rfl (by rw [hW1, drew_setCells]), Fr.setCells (M := fun j => j = g) (g := g) rfl _ _ hB1.drew⟩
 have hb1 : (0 : Int) ≤ (i : Int) + 1 := by omega
 have hb2 : ¬ (c = i + 1) := by omega
 have hb4 : ¬ (c = i) := by omega
 have hz2 : ¬ ((i : Int) = (n : Int)) := by omega
 have hin : i ≤ n := by omega
 have hb3 : (i : Int) ≤ (n : Int) + 1 := by omega
 have htn : ((i : Int) + 1).toNat = i + 1 := by omega
 have hw1 : IntKind.i64.wrap ((i : Int) + 1) = (i : Int) + 1 := by rw [IntKind.wrap_i64]; omega
 have mixed : Try.prog.follows Departure.mixedOrders = true := by kernel_rfl
 have HW1 := Hk.mk hW1
 clear hW1 hh1 hs1 hh hs ht hdl hbq hb0 h hk hSh
 go_enter Try.func50, Try.ntmps50
 go_wp2_with (simp only [hov])
 go_region_law_o (refine step_copy_runI rfl _ _ 24 24 rfl _ _ (by simp [Act.eval, Act.put]) (by simp [Act.eval, Act.put]) (hcp1 _ _ _) ?_)
 go_wp2_with (at_builtin; refine wpList_copy_runI _ rfl _ _ 24 24 rfl _ _ rfl rfl (hcp2 _ (fun _ => rfl) (fun _ => rfl) _ _) ?_)
 go_ret
 first
  | exact ⟨rfl, FIN.out _ _ (Or.inl rfl) rfl⟩
  | exact ⟨rfl, FIN.out _ _ (Or.inr rfl) rfl⟩
set_option maxRecDepth 100000 in
set_option maxHeartbeats 800000 in
theorem in3_ins_end (d : Iv) (S base g n c : Nat) (bs : List Iv) (X : World) (h : in3_Ow X base (.slice (some ⟨g, 0, none⟩) n c) n bs) (hk : Bk X S #[.int .i64 d.t, .int .i64 d.p, .slice d.a d.n d.c]) (hn : n ≤ 1099511627776) (hb : base ≤ X.heap.size) :
  Calls Try.prog 50 #[.slice (some ⟨g, 0, none⟩) n c, .int .i64 (n : Int), .slice (some ⟨S, 0, none⟩) 1 1] X fun e z => ∃ v, e = .returned v ∧ in3_Ow z base v (n + 1) (bs ++ [d]) ∧ Fr (fun j => j = g) X z := by
 obtain ⟨a', c', e, hnc, hcm, hbq, hb0⟩ := Ow.bqx (in3_to h)
 injection e with e1 e2 e3
 subst e1 e3
 have hcm' : c ≤ 9223372036854775807 := by unfold maxLen at hcm; omega
 have hl := Hk.mk h.len
 have HBk := Hk.mk hk
 have hbase : Hk (base ≤ g) := ⟨(hb0 g 0 rfl).1⟩
 obtain ⟨i0, hi, hz0, hz1, hz2⟩ := info_parts info_in
 have hrow := Hk.mk h.row
 have hb3 : (n : Int) ≤ (c : Int) := by omega
 have hc1 : Hk (∀ (j : Nat) (u : Value), ([.int .i64 d.t, .int .i64 d.p, .slice d.a d.n d.c] : List Value)[j]? = some u → X.cell? (Addr.add ⟨S, 0, none⟩ j) = some u) := by
  refine ⟨fun j u hj => ?_⟩
  rw [Addr.add_lit, Nat.zero_add, HBk.out.c j]
  simpa using hj
 have hc2 : Hk (∀ u ∈ ([.int .i64 d.t, .int .i64 d.p, .slice d.a d.n d.c] : List Value), u.oneCell' = true) := by
  refine ⟨fun u hu => ?_⟩
  simp at hu
  rcases hu with rfl | rfl | rfl <;> rfl
 have hcn : n ≤ c := hnc
 have FIN : Hk (∀ v z, z.ownsRow base 55 3 v (n + 1) (flt shI bs ++ ([.int .i64 d.t, .int .i64 d.p, .slice d.a d.n d.c] : List Value)) → X.grownBy z (some g) → in3_Ow z base v (n + 1) (bs ++ [d]) ∧ Fr (fun j => j = g) X z) :=
  ⟨fun v z ho hg => ⟨⟨by simp [hl.out], by rw [in3_app]; simpa [flt_one1, shI, Iv.cs] using ho⟩, (Fr.refl _ _).grown hg (fun j _ e => by injection e with e; exact e.symm)⟩⟩
 clear hbq hb0 h hk
 go_enter Try.func50, Try.ntmps50
 go_wp2_with (at_builtin; go_must (refine wpList_append_own _ rfl _ _ 24 rfl base 55 i0 (.agg #[.int .i64 0, .int .i64 0, .slice none 0 0]) 3 40 Try.underlying24 hi hz0 hz1 hz2 rfl (by decide) _ n (flt shI bs) rfl hrow.out ⟨S, 0, none⟩ 1 1 [.int .i64 d.t, .int .i64 d.p, .slice d.a d.n d.c] rfl rfl hc1.out hc2.out (by unfold maxLen; omega) (by omega) hb ?_); intro v z hown2 hgrow hnil; have HF := Hk.mk (FIN.out v z hown2 hgrow); clear hnil hown2 hgrow)
 all_goals
  go_ret
  exact ⟨_, rfl, HF.out.1, HF.out.2⟩
theorem in3_own_ins_new {W X1 V X2 : World} {base g n c i : Nat} {bs : List Iv} {d : Iv} {ROW : Array Value} (hl : bs.length = n) (hi : i ≤ n) (hr : n + 1 ≤ c) (hcm : c ≤ maxLen) (hbg : base ≤ g) (hh : W.heap[g]? = some (.cells ROW 55 (0, 0))) (hs : ROW.size = c * 3)
  (hR : ∀ t, t < i * 3 → ROW[t]? = (flt shI bs)[t]?) (h1 : X1 = W.setCells g (i * 3) (flt shI [d])) (hV : V.heap = X1.heap) (h2 : X2 = V.setCells g ((i + 1) * 3) (flt shI (bs.drop i))) :
  in3_Ow X2 base (.slice (some ⟨g, 0, none⟩) (n + 1) c) (n + 1) (bs.take i ++ [d] ++ bs.drop i) := by
 have hel : (bs.take i ++ [d] ++ bs.drop i).length = n + 1 := by simp; omega
 obtain ⟨cur1, hh1, hs1⟩ := setCells_heap (flt shI [d]) (i * 3) W ROW hh
 rw [← h1] at hh1
 have hhV : V.heap[g]? = some (.cells cur1 55 (0, 0)) := by rw [hV]; exact hh1
 obtain ⟨cur2, hh2, hs2⟩ := setCells_heap (flt shI (bs.drop i)) ((i + 1) * 3) V cur1 hhV
 rw [← h2] at hh2
 have hdl : (flt shI (bs.drop i)).length = (n - i) * 3 := by rw [in3_len]; simp [hl]
 have hd1 : (flt shI [d]).length = 3 := by rw [in3_len]; rfl
 refine ⟨hel, by rw [in3_len, hel], Or.inr ⟨g, c, cur2, rfl, hbg, hh2, by omega, hcm, by omega, ?_⟩⟩
 apply List.ext_getElem?
 intro t
 have htk : ((flt shI bs).take (i * 3)).length = i * 3 := by rw [List.length_take, in3_len]; omega
 by_cases htl : t < (n + 1) * 3
 ·rw [List.getElem?_take_of_lt htl, Array.getElem?_toList, ← cell_cur hh2 t, h2, in3_app, in3_app, in3_takeL]
  by_cases hti : t < (i + 1) * 3
  ·rw [World.cell?_setCells_out g _ ((i + 1) * 3) V ⟨g, t, none⟩ (fun _ _ => Or.inl hti), cell_cur hhV, ← cell_cur hh1, h1, List.getElem?_append_left (by rw [List.length_append]; omega)]
   by_cases htj : t < i * 3
   ·rw [World.cell?_setCells_out g _ (i * 3) W ⟨g, t, none⟩ (fun _ _ => Or.inl htj), cell_cur hh, List.getElem?_append_left (by omega), List.getElem?_take_of_lt htj, hR t htj]
   ·obtain ⟨q, rfl⟩ : ∃ q, t = i * 3 + q := ⟨t - i * 3, by omega⟩
    rw [World.cell?_setCells_in g _ (i * 3) W (fun j hj => by rw [cell_cur hh, Array.getElem?_eq_getElem (by omega)]; rfl) q (by omega),
     List.getElem?_append_right (by omega), htk, show i * 3 + q - i * 3 = q by omega, List.getElem?_eq_getElem (by omega)]
  ·obtain ⟨q, rfl⟩ : ∃ q, t = (i + 1) * 3 + q := ⟨t - (i + 1) * 3, by omega⟩
   have hq : q < (flt shI (bs.drop i)).length := by omega
   rw [World.cell?_setCells_in g _ ((i + 1) * 3) V (fun j hj => by rw [cell_cur hhV, Array.getElem?_eq_getElem (by omega)]; rfl) q hq,
    List.getElem?_append_right (by rw [List.length_append]; omega), List.length_append, htk, hd1, show (i + 1) * 3 + q - (i * 3 + 3) = q by omega, List.getElem?_eq_getElem hq]
 ·rw [List.getElem?_eq_none (by simp; omega), List.getElem?_eq_none (by rw [in3_len, hel]; omega)]
set_option maxRecDepth 100000 in
set_option maxHeartbeats 1600000 in
theorem in3_ins_grow (d : Iv) (S base g n c i : Nat) (bs : List Iv) (X : World) (h : in3_Ow X base (.slice (some ⟨g, 0, none⟩) n c) n bs) (hk : Bk X S #[.int .i64 d.t, .int .i64 d.p, .slice d.a d.n d.c]) (hn : n ≤ 1099511627776) (hb : base ≤ X.heap.size) (hi : i < n) (hr : c < n + 1) :
  Calls Try.prog 50 #[.slice (some ⟨g, 0, none⟩) n c, .int .i64 (i : Int), .slice (some ⟨S, 0, none⟩) 1 1] X fun e z => ∃ v, e = .returned v ∧ in3_Ow z base v (n + 1) (bs.take i ++ [d] ++ bs.drop i) ∧ Fr (fun j => j = g ∨ X.heap.size ≤ j) X z := by
 obtain ⟨a', c', e, hnc, hcm, hbq, hb0⟩ := Ow.bqx (in3_to h)
 injection e with e1 e2 e3
 subst e1 e3
 have hcm' : c ≤ 9223372036854775807 := by unfold maxLen at hcm; omega
 have hl := h.len
 obtain ⟨TS, hSh⟩ := hk.bl
 obtain ⟨cur, hh, hs, ht⟩ : ∃ cur : Array Value, X.heap[g]? = some (.cells cur 55 (0, 0)) ∧ cur.size = c * 3 ∧ cur.toList.take (n * 3) = flt shI bs := by
  rcases h.row.2 with ⟨e, _⟩ | ⟨g', cap, cur, e, _, hh, _, _, hs, ht⟩
  ·cases e
  ·injection e with e1 e2 e3
   injection e1 with e1
   injection e1 with e1
   subst e1 e3
   exact ⟨cur, hh, hs, ht⟩
 obtain ⟨i0, hi0, hz0, hz1, hz2⟩ := info_parts info_in
 have hfl : (flt shI bs).length = n * 3 := by rw [in3_len, hl]
 have hct : ∀ t, t < n * 3 → cur[t]? = (flt shI bs)[t]? := fun t h => by rw [← ht, List.getElem?_take_of_lt h, Array.getElem?_toList]
 have hold : (Builtin.firstCells i0.size i (.slice (some ⟨g, 0, none⟩) i c)).run Try.prog X.drew = .ok (flt shI (bs.take i)).toArray X.drew := by
  rw [hz1]
  exact run_firstCells_some X.drew 3 i ⟨g, 0, none⟩ i c (flt shI (bs.take i)) (by rw [in3_len]; simp; omega) (fun j v hj => by
   rw [Addr.add_lit, Nat.zero_add]
   show X.cell? _ = _
   rw [in3_takeL, List.getElem?_take] at hj
   split at hj
   ·rw [cell_cur hh, hct j (by omega)]; exact hj
   ·cases hj)
 have hik : i + (n + 1 - i) = n + 1 := by omega
 have hrz : ∀ ty, (Builtin.append_ #[24, 3] ty #[.slice (some ⟨g, 0, none⟩) i c, .int .i64 ((n : Int) + 1 - (i : Int))]).run Try.prog X =
   .ok (.slice (some ⟨X.heap.size, 0, none⟩) (n + 1) (grownCap X (n + 1) c 55)) (X.drew.alloc (.cells ((flt shI (bs.take i)).toArray ++ Builtin.zeroCells (Value.cells (.agg #[.int .i64 0, .int .i64 0, .slice none 0 0])) (n + 1 - i) ++ Builtin.zeroCells (Value.cells (.agg #[.int .i64 0, .int .i64 0, .slice none 0 0])) (grownCap X (n + 1) c 55 - (n + 1))) 55)) := fun ty => by
  have h := Lib.run_append_grow_zeros X 24 3 ty 55 i0 _ .i64 .i64 Try.underlying24 Try.underlying3 hi0 hz0 (some ⟨g, 0, none⟩) i c (flt shI (bs.take i)) hold (n + 1 - i) (by omega) (by omega) (by omega) (by omega) (by rw [hz2]; omega) (by rw [hz2, hik]; exact growslice_fits hr (by omega))
  rw [hik] at h
  rw [show (n : Int) + 1 - (i : Int) = ((n + 1 - i : Nat) : Int) by omega]
  exact h
 obtain ⟨G, hG⟩ : ∃ G, G = grownCap X (n + 1) c 55 := ⟨_, rfl⟩
 obtain ⟨ROW, hROW⟩ : ∃ ROW : Array Value, ROW = (flt shI (bs.take i)).toArray ++ Builtin.zeroCells (Value.cells (.agg #[.int .i64 0, .int .i64 0, .slice none 0 0])) (n + 1 - i) ++ Builtin.zeroCells (Value.cells (.agg #[.int .i64 0, .int .i64 0, .slice none 0 0])) (G - (n + 1)) := ⟨_, rfl⟩
 rw [← hG] at hrz
 rw [← hROW] at hrz
 have hGn : n + 1 ≤ G := by rw [hG]; exact grownCap_ge X _ _ _
 have hGm : G ≤ maxLen := by rw [hG]; exact grownCap_le_maxLen X (n + 1) c 55 (by unfold maxLen; omega)
 have hG63 : G ≤ 9223372036854775807 := by unfold maxLen at hGm; omega
 have htl : (flt shI (bs.take i)).length = i * 3 := by rw [in3_len]; simp; omega
 have hRs : ROW.size = G * 3 := by
  rw [hROW]
  simp [Builtin.zeroCells, Value.cells, htl]
  omega
 have hRt : ∀ t, t < i * 3 → ROW[t]? = (flt shI bs)[t]? := fun t h => by
  rw [hROW, Array.getElem?_append_left (by simp [htl]; omega), Array.getElem?_append_left (by simp [htl]; omega), List.getElem?_toArray, in3_takeL, List.getElem?_take_of_lt h]
 obtain ⟨W1, hW1⟩ : ∃ W1, W1 = X.drew.alloc (.cells ROW 55) := ⟨_, rfl⟩
 rw [← hW1] at hrz
 have hgX : g < X.heap.size := lt_of_block hh
 have hSX : S < X.heap.size := lt_of_block hSh
 have hgN : g ≠ X.heap.size := by omega
 have hSN : S ≠ X.heap.size := by omega
 have hhN : W1.heap[X.heap.size]? = some (.cells ROW 55 (0, 0)) := by rw [hW1]; show (X.heap.push _)[X.heap.size]? = _; exact Array.getElem?_push_size
 have hOld : ∀ b j, b < X.heap.size → W1.cell? ⟨b, j, none⟩ = X.cell? ⟨b, j, none⟩ := fun b j hb => by rw [hW1, World.cell?_alloc_past (w := X.drew) _ b j hb]; rfl
 obtain ⟨L1, hL1⟩ : ∃ L1, L1 = flt shI [d] := ⟨_, rfl⟩
 obtain ⟨cur1, hh1, hs1⟩ := setCells_heap L1 (i * 3) W1 ROW hhN
 have hd1 : L1.length = 3 := by rw [hL1, in3_len]; rfl
 have hdl : (flt shI (bs.drop i)).length = (n - i) * 3 := by rw [in3_len]; simp [hl]
 have hcpA : ∀ (W : World), (∀ x, W.cell? x = W1.cell? x) → (∀ x, W.frozen? x = W1.frozen? x) → ∀ ty dc, (Builtin.copy_ #[24, 24] ty #[.slice (some ⟨X.heap.size, i * 3, none⟩) (n + 1 - i) dc, .slice (some ⟨S, 0, none⟩) 1 1]).run Try.prog W = .ok (goInt 1) (W.setCells X.heap.size (i * 3) L1) := fun W hWc hWf ty dc =>
  in3_run_copy W ty X.heap.size (i * 3) (n + 1 - i) dc ⟨S, 0, none⟩ 1 1 1 L1 (by simp only [Nat.min_def]; split <;> omega) hd1
   (fun j v hj => by
    rw [Addr.add_lit, hWc, hOld _ _ hSX, cell_cur hSh, Nat.zero_add]
    rw [hL1] at hj
    simpa [flt_one1, shI, Iv.cs] using hj)
   (fun j hj => by rw [hWc, cell_cur hhN, Array.getElem?_eq_getElem (by omega)]; rfl) (fun j hj => by rw [hWf]; exact froz_cur hhN _) (by rw [hL1]; exact in3_one _)
 have hcpB : ∀ (W : World), (∀ x, W.cell? x = (W1.setCells X.heap.size (i * 3) L1).cell? x) → (∀ x, W.frozen? x = (W1.setCells X.heap.size (i * 3) L1).frozen? x) → ∀ ty dc sc, (Builtin.copy_ #[24, 24] ty #[.slice (some ⟨X.heap.size, (i + 1) * 3, none⟩) (n - i) dc, .slice (some ⟨g, i * 3, none⟩) (n - i) sc]).run Try.prog W = .ok (goInt ((n - i : Nat) : Int)) (W.setCells X.heap.size ((i + 1) * 3) (flt shI (bs.drop i))) := fun W hWc hWf ty dc sc =>
  in3_run_copy W ty X.heap.size ((i + 1) * 3) (n - i) dc ⟨g, i * 3, none⟩ (n - i) sc (n - i) (flt shI (bs.drop i)) (by simp only [Nat.min_def]; split <;> omega) hdl
   (fun j v hj => by
    rw [Addr.add_lit, hWc, World.cell?_setCells_out _ _ _ _ _ (fun h _ => absurd h hgN), hOld _ _ hgX, cell_cur hh]
    rw [in3_dropL, List.getElem?_drop] at hj
    have hlt : i * 3 + j < n * 3 := by
     have := (List.getElem?_eq_some_iff.1 hj).1
     omega
    rw [hct _ hlt]
    exact hj)
   (fun j hj => by rw [hWc, cell_cur hh1, Array.getElem?_eq_getElem (by omega)]; rfl) (fun j hj => by rw [hWf]; exact froz_cur hh1 _) (in3_one _)
 have FIN : Hk (∀ X1 V X2 : World, X1 = (X.drew.alloc (.cells ROW 55)).setCells X.heap.size (i * 3) L1 ∨ X1 = (X.alloc (.cells ROW 55)).drew.setCells X.heap.size (i * 3) L1 → V = X1 ∨ V = X1.drew → X2 = V.setCells X.heap.size ((i + 1) * 3) (flt shI (bs.drop i)) → in3_Ow X2 base (.slice (some ⟨X.heap.size, 0, none⟩) (n + 1) G) (n + 1) (bs.take i ++ [d] ++ bs.drop i) ∧ Fr (fun j => j = g ∨ X.heap.size ≤ j) X X2) := by
  have hBa : Fr (fun j => j = g ∨ X.heap.size ≤ j) X (X.drew.alloc (.cells ROW 55)) := ((Fr.refl _ X).drew).alloc _
  have hBb : Fr (fun j => j = g ∨ X.heap.size ≤ j) X (X.alloc (.cells ROW 55)).drew := ((Fr.refl _ X).alloc _).drew
  have hA : (X.drew.alloc (.cells ROW 55)).heap[X.heap.size]? = some (.cells ROW 55 (0, 0)) := by rw [← hW1]; exact hhN
  refine ⟨fun X1 V X2 o o2 e2 => ?_⟩
  subst e2
  have hV : V.heap = X1.heap := by rcases o2 with rfl | rfl <;> rfl
  have hBV : Fr (fun j => j = g ∨ X.heap.size ≤ j) X X1 → Fr (fun j => j = g ∨ X.heap.size ≤ j) X V := fun q => by
   rcases o2 with rfl | rfl
   ·exact q
   ·exact q.drew
  rcases o with e1 | e1
  ·exact ⟨in3_own_ins_new hl (by omega) hGn hGm hb hA hRs hRt (by rw [← hL1]; exact e1) hV rfl, Fr.setCells (M := fun j => j = g ∨ X.heap.size ≤ j) (g := X.heap.size) (Or.inr (Nat.le_refl _)) _ _ (hBV (by rw [e1]; exact Fr.setCells (M := fun j => j = g ∨ X.heap.size ≤ j) (g := X.heap.size) (Or.inr (Nat.le_refl _)) _ _ hBa))⟩
  ·exact ⟨in3_own_ins_new (W := (X.alloc (.cells ROW 55)).drew) hl (by omega) hGn hGm hb hA hRs hRt (by rw [← hL1]; exact e1) hV rfl, Fr.setCells (M := fun j => j = g ∨ X.heap.size ≤ j) (g := X.heap.size) (Or.inr (Nat.le_refl _)) _ _ (hBV (by rw [e1]; exact Fr.setCells (M := fun j => j = g ∨ X.heap.size ≤ j) (g := X.heap.size) (Or.inr (Nat.le_refl _)) _ _ hBb))⟩
 clear hL1
 have hz2 : ¬ ((i : Int) = (n : Int)) := by omega
 have hz3 : (c : Int) < (n : Int) + 1 := by omega
 have hGi : ¬ (G = i) := by omega
 have hGim : ¬ (G = i + 1) := by omega
 have hci : ¬ (c = i) := by omega
 subst hW1
 have hE1 : ∀ x, ((X.alloc (.cells ROW 55)).drew).cell? x = (X.drew.alloc (.cells ROW 55)).cell? x := fun x => rfl
 have hE2 : ∀ x, ((X.alloc (.cells ROW 55)).drew).frozen? x = (X.drew.alloc (.cells ROW 55)).frozen? x := fun x => rfl
 have hF1 : ∀ x, (((X.alloc (.cells ROW 55)).drew.setCells X.heap.size (i * 3) L1).drew).cell? x = ((X.drew.alloc (.cells ROW 55)).setCells X.heap.size (i * 3) L1).cell? x := drewSet_cellI X _ _ _ _
 have hF2 : ∀ x, (((X.alloc (.cells ROW 55)).drew.setCells X.heap.size (i * 3) L1).drew).frozen? x = ((X.drew.alloc (.cells ROW 55)).setCells X.heap.size (i * 3) L1).frozen? x := drewSet_frozI X _ _ _ _
 have hw1 : IntKind.i64.wrap ((i : Int) + 1) = (i : Int) + 1 := by rw [IntKind.wrap_i64]; omega
 have hb1 : (0 : Int) ≤ (i : Int) + 1 := by omega
 have hin : i ≤ n := by omega
 have htn : ((i : Int) + 1).toNat = i + 1 := by omega
 have hb3 : (i : Int) ≤ (n : Int) := by omega
 have mixed : Try.prog.follows Departure.mixedOrders = true := by kernel_rfl
 clear hik hold hROW hG hRs hRt hct hfl ht hs hh hSh hbq hb0 h hk hhN hOld hh1 hs1 cur1 hd1 hdl htl
 go_enter Try.func50, Try.ntmps50
 go_wp2_with (first
  | (at_builtin; refine Lib.wpList_append_run _ rfl _ _ _ _ rfl _ _ rfl rfl _ _ (hrz _) ?_)
  | (at_builtin; refine wpList_copy_runI _ rfl _ _ 24 24 rfl _ _ rfl rfl (hcpA _ hE1 hE2 _ _) ?_)
  | (at_builtin; refine wpList_copy_runI _ rfl _ _ 24 24 rfl _ _ rfl rfl (hcpB _ (fun _ => rfl) (fun _ => rfl) _ _ _) ?_))
 first
  | (go_region_law_o (refine step_copy_runI rfl _ _ 24 24 rfl (.slice (some ⟨X.heap.size, (i + 1) * 3, none⟩) (n - i) (G - (i + 1))) (.slice (some ⟨g, i * 3, none⟩) (n - i) (c - i)) (by simp [Act.eval, Act.put]) (by simp [Act.eval, Act.put]) (hcpB _ hF1 hF2 3 (G - (i + 1)) (c - i)) ?_); go_wp2; go_ret)
  | go_ret
 first
  | exact ⟨_, rfl, FIN.out _ _ _ (Or.inl rfl) (Or.inl rfl) rfl⟩
  | exact ⟨_, rfl, FIN.out _ _ _ (Or.inl rfl) (Or.inr rfl) rfl⟩
  | exact ⟨_, rfl, FIN.out _ _ _ (Or.inr rfl) (Or.inl rfl) rfl⟩
  | exact ⟨_, rfl, FIN.out _ _ _ (Or.inr rfl) (Or.inr rfl) rfl⟩
theorem in3_ins_any (d : Iv) (S base : Nat) (v : Value) (n i : Nat) (bs : List Iv) (X : World) (h : in3_Ow X base v n bs) (hk : Bk X S #[.int .i64 d.t, .int .i64 d.p, .slice d.a d.n d.c]) (hn : n ≤ 1099511627776) (hi : i ≤ n) (hb : base ≤ X.heap.size) :
  Calls Try.prog 50 #[v, .int .i64 (i : Int), .slice (some ⟨S, 0, none⟩) 1 1] X fun e z => ∃ v2, e = .returned v2 ∧ in3_Ow z base v2 (n + 1) (bs.take i ++ [d] ++ bs.drop i) ∧ Fr (fun j => v.ownBlock = some j) X z := by
 rcases h.row.2 with ⟨rfl, rfl⟩ | ⟨g, cap, cur, rfl, hg, hh, r⟩
 ·obtain rfl : i = 0 := by omega
  obtain rfl : bs = [] := List.eq_nil_of_length_eq_zero h.len
  refine (in3_ins_nil d S X hk).mono ?_
  rintro e z ⟨v, rfl, hv, hb2⟩
  exact ⟨v, rfl, hv.weak hb, Fr.of_all hb2⟩
 ·by_cases c1 : i = n
  ·subst c1
   refine (in3_ins_end d S base g i cap bs X h hk hn hb).mono ?_
   rintro e z ⟨v, rfl, hv, hb2⟩
   have hl := h.len
   exact ⟨v, rfl, by rw [List.take_of_length_le (by omega), List.drop_eq_nil_of_le (by omega), List.append_nil]; exact hv, hb2.mono (fun j _ e => by rw [e]; rfl)⟩
  ·by_cases c2 : n + 1 ≤ cap
   ·by_cases c3 : S = g
    ·exfalso
     subst c3
     obtain ⟨TS, hSh⟩ := hk.bl
     rw [hh] at hSh
     injection hSh with e
     injection e with e1 e2
     have hs := r.2.2.1
     rw [e1] at hs
     have h6 : (#[.int .i64 d.t, .int .i64 d.p, .slice d.a d.n d.c] : Array Value).size = 3 := rfl
     omega
    ·refine (in3_ins_room d S base g n cap i bs X h hk c3 hn (by omega) c2).mono ?_
     rintro e z ⟨rfl, hv, hb2⟩
     exact ⟨_, rfl, hv, hb2.mono (fun j _ e => by rw [e]; rfl)⟩
   ·refine (in3_ins_grow d S base g n cap i bs X h hk hn hb (by omega) (by omega)).mono ?_
    rintro e z ⟨v, rfl, hv, hb2⟩
    exact ⟨v, rfl, hv, hb2.mono (fun j hj e => by rcases e with e | e; rw [e]; rfl; omega)⟩
end Go.Proofs.Ytdpblimhfmfbnaa
namespace Go.Proofs.Ytdpblimhfmfbnaa
open List renaming getElem_toArray → jjA, getElem_cons_succ → jjB, getElem_cons_zero → jjC, setIfInBounds_toArray → jjD, set_cons_zero → jjE, set_cons_succ → jjF
open Go.ChangeShapes Go.WideShapes Go.ChangeAt Go.RowKit Go.Deep
theorem OwN.ins {X z : World} {B n i : Nat} {v v2 : Value} {L : List Iv} {q : Iv} (h : OwN X B v n L) (hq : OwC X B (.slice q.a q.n q.c) q.n q.l) (ho : Ow shI 55 z B v2 (n + 1) (L.take i ++ [q] ++ L.drop i)) (hfr : Fr (fun j => v.ownBlock = some j) X z) : OwN z B v2 (n + 1) (L.take i ++ [q] ++ L.drop i) := by
 refine ⟨ho, fun x hx => ?_⟩
 rcases List.mem_append.1 hx with hx | hx
 ·rcases List.mem_append.1 hx with hx | hx
  ·exact (h.u x (List.mem_of_mem_take hx)).keep hfr (not_ti h _ (by decide)) (not_ti h _ (by decide))
  ·have := List.mem_singleton.1 hx
   subst this
   exact .inl (hq.keep hfr (not_ti h _ (by decide)) (not_ti h _ (by decide)))
 ·exact (h.u x (List.mem_of_mem_drop hx)).keep hfr (not_ti h _ (by decide)) (not_ti h _ (by decide))
theorem ab_ins {L1 l : List Iv} {L2 : List Cv} {q : Iv} {a2 : Option Addr} {c2 i : Nat} (h : abI L1 = abI l) (h2 : abC L2 = abC q.l) : abI (L1.take i ++ [({ q with a := a2, c := c2, l := L2 } : Iv)] ++ L1.drop i) = (abI l).take i ++ q.ab :: (abI l).drop i := by
 rw [abI_app, abI_app, abI_tk, abI_drp, h]
 show _ ++ [(⟨q.t, q.p, abC L2⟩ : In)] ++ _ = _
 rw [h2, List.append_assoc]
 rfl
theorem put_at {q : Iv} {l : List Iv} {n i : Nat} {d : Bool} (hl : l.length = n) (hin : i ≤ n) (hlo : ∀ k, k < i → ltI (l.getD k default) q) (hhi : ∀ k, i ≤ k → k < n → ¬ ltI (l.getD k default) q) (hd : d = true ↔ (i < n ∧ ¬ ltI q (l.getD i default))) :
  putN q.ab (abI l) = if d = true then none else some ((abI l).take i ++ q.ab :: (abI l).drop i) := by
 have h1 : ∀ y, y ∈ (abI l).take i → ltB y q.ab = true := fun y hy => by
  obtain ⟨k, hk, rfl⟩ := List.mem_iff_getElem.1 hy
  have hk2 : k < i := by rw [List.length_take] at hk; omega
  have hk3 : k < l.length := by omega
  have e : ((abI l).take i)[k] = (l.getD k default).ab := by
   rw [List.getElem_take]; simp [abI, List.getD, hk3]
  rw [e]
  exact (ltB_iff _ _).2 (hlo k hk2)
 by_cases hi : i < n
 ·have hil : i < (abI l).length := by rw [abI_len]; omega
  have e : (abI l)[i] = (l.getD i default).ab := by simp [abI, List.getD, show i < l.length by omega]
  have h2 : ltB (abI l)[i] q.ab = false := by
   rw [e]
   cases h : ltB (l.getD i default).ab q.ab
   ·rfl
   ·exact absurd ((ltB_iff _ _).1 h) (hhi i (Nat.le_refl _) hi)
  rw [put_mid hil h1 h2, e]
  by_cases hd1 : d = true
  ·rw [if_pos hd1, if_neg (fun h => (hd.1 hd1).2 ((ltB_iff _ _).1 h))]
  ·rw [if_neg hd1, if_pos]
   apply Classical.byContradiction
   intro h
   exact hd1 (hd.2 ⟨hi, fun h3 => h ((ltB_iff _ _).2 h3)⟩)
 ·obtain rfl : i = n := by omega
  have e : (abI l).take i = abI l := List.take_of_length_le (by rw [abI_len]; omega)
  rw [if_neg (fun h => hi (hd.1 h).1), put_end (fun y hy => h1 y (by rw [e]; exact hy)), e, List.drop_of_length_le (by rw [abI_len]; omega)]
def askN (q : In) (l : List In) : Bool := ordN none l && okN q
set_option maxRecDepth 100000 in
set_option maxHeartbeats 3200000 in
theorem tput_yes (q : Iv) (res : Option (List In)) (a : Option Addr) (n c : Nat) (l : List Iv) (w : World) (h : InD w w.heap.size a n l) (hs : SmI l) (hq : CmD w w.heap.size q.a q.n q.l) (hsq : SmC q.l) (EA : Hk (askN q.ab (abI l) = true)) (E : Hk (putN q.ab (abI l) = res)) :
  Calls Try.prog 26 #[.slice a n c, .agg #[.int .i64 q.t, .int .i64 q.p, .slice q.a q.n q.c]] w (PutR res w) := by
 have HWB : Hk (Below w.heap.size w (w.alloc (.cells #[.int .i64 q.t, .int .i64 q.p, .slice q.a q.n q.c] 55))) := ⟨(Below.refl _ _).alloc (Nat.le_refl _) _⟩
 have hNW : (w.heap.size + 1) ≤ (w.alloc (.cells #[.int .i64 q.t, .int .i64 q.p, .slice q.a q.n q.c] 55)).heap.size := by simp
 have HB : Hk (Below (w.heap.size + 1) (w.alloc (.cells #[.int .i64 q.t, .int .i64 q.p, .slice q.a q.n q.c] 55)) (w.alloc (.cells #[.int .i64 q.t, .int .i64 q.p, .slice q.a q.n q.c] 55))) := ⟨Below.refl _ _⟩
 have HTR : Hk (∀ X, Below (w.heap.size + 1) (w.alloc (.cells #[.int .i64 q.t, .int .i64 q.p, .slice q.a q.n q.c] 55)) X → Below w.heap.size w X) := ⟨fun X hX => HWB.out.trans (hX.mono (by omega))⟩
 have HP := Hk.mk (Bk.new w #[.int .i64 q.t, .int .i64 q.p, .slice q.a q.n q.c] 55)
 have HVF : Hk (∀ X, Below (w.heap.size + 1) (w.alloc (.cells #[.int .i64 q.t, .int .i64 q.p, .slice q.a q.n q.c] 55)) X → X.cell? ⟨w.heap.size, 0, none⟩ = some (.int .i64 q.t) ∧ X.cell? ⟨w.heap.size, 1, none⟩ = some (.int .i64 q.p) ∧ X.cell? ⟨w.heap.size, 2, none⟩ = some (.slice q.a q.n q.c) ∧ w.heap.size < X.heap.size) := ⟨fun X hX => by
  have h0 := (hX.cell (p := ⟨w.heap.size, 0, none⟩) (Nat.lt_succ_self _)).trans (HP.out.c 0)
  exact ⟨h0, (hX.cell (p := ⟨w.heap.size, 1, none⟩) (Nat.lt_succ_self _)).trans (HP.out.c 1), (hX.cell (p := ⟨w.heap.size, 2, none⟩) (Nat.lt_succ_self _)).trans (HP.out.c 2), World.block_lt_of_cell? _ _ h0⟩⟩
 have HI : Hk (∀ X, Below (w.heap.size + 1) (w.alloc (.cells #[.int .i64 q.t, .int .i64 q.p, .slice q.a q.n q.c] 55)) X → InD X w.heap.size a n l) := ⟨fun X hX => h.below (HTR.out X hX) (Nat.le_refl _)⟩
 have HQ : Hk (∀ X, Below (w.heap.size + 1) (w.alloc (.cells #[.int .i64 q.t, .int .i64 q.p, .slice q.a q.n q.c] 55)) X → CmD X X.heap.size q.a q.n q.l) := ⟨fun X hX => (hq.below (HTR.out X hX) (Nat.le_refl _)).mono (HTR.out X hX).size⟩
 have HL := Hk.mk h.q.len
 have hn20 : n ≤ 1048576 := by have := hs.n; have := h.q.len; omega
 have HS := Hk.mk hs
 have HSQ := Hk.mk hsq
 clear h hq hs hsq HP
 obtain ⟨x0, x1, x2, xl⟩ := HVF.out _ HB.out
 have ho : ordN none (abI l) = true ∧ okN q.ab = true := by have := EA.out; unfold askN at this; simpa using this
 have EO := Hk.mk ho.1
 have HSO := Hk.mk (ordN_sorted ho.1).2.1
 have EC : Hk ((if okN ⟨q.t, q.p, abC q.l⟩ then (0 : Int) else 1) = 0) := ⟨by show (if okN q.ab = true then (0 : Int) else 1) = 0; rw [ho.2]; rfl⟩
 clear ho
 go_enter Try.func26, Try.ntmps26
 go_upto_region 4 with (first | (go_at_call 46; (with_reducible refine (ordered_as true a n c l _ ((HI.out _ HB.out).mono (HTR.out _ HB.out).size) HS.out EO).mono ?_); rintro e z ⟨rfl, hb⟩; clear x0 x1 x2 xl; (first | (have hB2 := Hk.mk (kw_step HB.out hNW hb); clear hb; replace HB := hB2; clear hB2) | (have hB2 := Hk.mk (kw_step HB.out.drew hNW hb); clear hb; replace HB := hB2; clear hB2)); obtain ⟨x0, x1, x2, xl⟩ := HVF.out _ HB.out) | (go_at_call 47; (with_reducible refine (tcheck_as 0 q.t q.p q.a q.n q.c q.l _ (HQ.out _ HB.out) HSQ.out EC).mono ?_); rintro e z ⟨rfl, hb⟩; clear x0 x1 x2 xl; (first | (have hB2 := Hk.mk (kw_step HB.out hNW hb); clear hb; replace HB := hB2; clear hB2) | (have hB2 := Hk.mk (kw_step HB.out.drew hNW hb); clear hb; replace HB := hB2; clear hB2)); obtain ⟨x0, x1, x2, xl⟩ := HVF.out _ HB.out) | (go_at_call 48; (with_reducible refine (bsI_any q a n c l _ ((HI.out _ HB.out).mono (HTR.out _ HB.out).size).q hn20 HSO.out).mono ?_); rintro e z ⟨⟨i, d, rfl, hin, hlo, hhi, hd⟩, hb⟩; have HIN := Hk.mk hin; have HLO := Hk.mk hlo; have HHI := Hk.mk hhi; have HDD := Hk.mk hd; clear hin hlo hhi hd; clear x0 x1 x2 xl; (first | (have hB2 := Hk.mk (kw_step HB.out hNW hb); clear hb; replace HB := hB2; clear hB2) | (have hB2 := Hk.mk (kw_step HB.out.drew hNW hb); clear hb; replace HB := hB2; clear hB2)); obtain ⟨x0, x1, x2, xl⟩ := HVF.out _ HB.out))
 have HRS : Hk (res = if d = true then none else some ((abI l).take i ++ q.ab :: (abI l).drop i)) := ⟨E.out.symm.trans (put_at HL.out HIN.out HLO.out HHI.out HDD.out)⟩
 clear HLO HHI HDD
 cases d
 ·have HB0 := HB
  clear HB
  generalize z = VA at *
  go_upto_region 6 with fail
  have i0 : (0 : Int) ≤ (i : Int) := by omega
  have L0V : VA.heap.size ≤ VA.heap.size := Nat.le_refl _
  apply reg_merge
  intro HG4
  apply reg_merge
  intro HG3
  apply reg_merge
  intro HG2
  apply reg_merge
  intro HG1
  refine wp_region_held_drew (S := fun Z => (∀ b o, b < VA.heap.size → Z.cell? ⟨b, o, none⟩ = VA.cell? ⟨b, o, none⟩)) (by kernel_rfl) (fun _ _ _ => rfl) (fun hHeld => ?_)
  have HB : Hk (Below VA.heap.size VA VA.drew) := ⟨(Below.refl _ _).drew⟩
  obtain ⟨WZ, hWe⟩ : ∃ WZ, VA.drew = WZ := ⟨_, rfl⟩
  rw [hWe] at HB hHeld ⊢
  clear hWe
  have HI : Ix [0, 2, 3] := trivial
  iterate 3 (refine tkA HI (v := ?_) rfl (by kernel_rfl) (fun _ _ _ h => h) (.inl ⟨by rfl, fun wX hSw => ?_⟩) hHeld (fun HJ => ?_); rotate_left; (focus ((try dsimp only at hSw); go_simp; try with_reducible rfl)); clear HI; have HI := HJ; clear HJ; try simp only [Act.put, jjA, jjB, jjC, jjD, jjE, jjF])
  clear HI
  refine wpAnyH_ready (rs := [1]) (by kernel_rfl) (by simp) ?_
  refine AllReadyH.cons rfl (fun K hK => ?_) (AllReadyH.nil)
  ·skip
   go_simp
   (first | (go_at_call 51; (with_reducible refine (cpins_any a n c l _ ((HI.out _ (HB0.out.trans (HB.out.mono (kw_size HB0.out hNW)))).mono (HTR.out _ (HB0.out.trans (HB.out.mono (kw_size HB0.out hNW)))).size) HS.out).mono ?_); rintro e z ⟨v, L1, rfl, ho, hab, hb⟩; have HV1 : Hk (OwA z VA.heap.size v n L1 (abI l)) := ⟨⟨ho.weak (kw_le HB.out L0V), hab⟩⟩; clear ho hab) | (go_at_call 28; (with_reducible refine (cpin_any q.t q.p q.a q.n q.c q.l _ (HQ.out _ (HB0.out.trans (HB.out.mono (kw_size HB0.out hNW)))) HSQ.out).mono ?_); rintro e z ⟨a2, c2, L2, rfl, ho, hab, hb⟩; have HOC : Hk (OcA z VA.heap.size (.slice a2 q.n c2) q.n L2 (abC q.l)) := ⟨⟨ho.weak (kw_le HB.out L0V), hab⟩⟩; clear ho hab))
   replace HB := Hk.mk (kw_step HB.out L0V hb)
   clear hb
   refine hK.out _ _ ?_ (fun hHeld2 => ?_)
   ·exact kw_s HB.out
   clear hK K hHeld
   have hHeld := hHeld2
   clear hHeld2
   (try simp only [Act.put, jjA, jjB, jjC, jjD, jjE, jjF])
   refine reg_cast (l' := #[true, true, true, true, false, false, false, false, false]) (by kernel_rfl) ?_
   revert hHeld
   revert HV1
   revert HB
   revert L1
   revert v
   revert z
   exact HG1.out
  intro WZ v L1 HB HV1 hHeld
  refine wpAnyH_ready (rs := [4]) (by kernel_rfl) (by simp) ?_
  refine AllReadyH.cons rfl (fun K hK => ?_) (AllReadyH.nil)
  ·skip
   go_simp
   (first | (go_at_call 51; (with_reducible refine (cpins_any a n c l _ ((HI.out _ (HB0.out.trans (HB.out.mono (kw_size HB0.out hNW)))).mono (HTR.out _ (HB0.out.trans (HB.out.mono (kw_size HB0.out hNW)))).size) HS.out).mono ?_); rintro e z ⟨v, L1, rfl, ho, hab, hb⟩; have HV1 : Hk (OwA z VA.heap.size v n L1 (abI l)) := ⟨⟨ho.weak (kw_le HB.out L0V), hab⟩⟩; clear ho hab) | (go_at_call 28; (with_reducible refine (cpin_any q.t q.p q.a q.n q.c q.l _ (HQ.out _ (HB0.out.trans (HB.out.mono (kw_size HB0.out hNW)))) HSQ.out).mono ?_); rintro e z ⟨a2, c2, L2, rfl, ho, hab, hb⟩; have HOC : Hk (OcA z VA.heap.size (.slice a2 q.n c2) q.n L2 (abC q.l)) := ⟨⟨ho.weak (kw_le HB.out L0V), hab⟩⟩; clear ho hab))
   replace HV1 := Hk.mk (HV1.out.below hb)
   replace HB := Hk.mk (kw_step HB.out L0V hb)
   clear hb
   refine hK.out _ _ ?_ (fun hHeld2 => ?_)
   ·exact kw_s HB.out
   clear hK K hHeld
   have hHeld := hHeld2
   clear hHeld2
   (try simp only [Act.put, jjA, jjB, jjC, jjD, jjE, jjF])
   refine reg_cast (l' := #[true, true, true, true, true, false, false, false, false]) (by kernel_rfl) ?_
   revert hHeld
   revert HOC
   revert HV1
   revert HB
   revert L2
   revert c2
   revert a2
   revert L1
   revert v
   revert z
   exact HG2.out
  intro WZ v L1 a2 c2 L2 HB HV1 HOC hHeld
  refine wpAnyH_ready (rs := [5]) (by kernel_rfl) (by simp) ?_
  refine AllReadyH.cons rfl (fun K hK => ?_) (AllReadyH.nil)
  ·skip
   go_simp
   have hb := kw_al (Below.refl WZ.heap.size WZ) (Nat.le_refl _) (.cells #[.int .i64 q.t, .int .i64 q.p, .slice a2 q.n c2] 55)
   replace HV1 := Hk.mk (HV1.out.below hb)
   replace HOC := Hk.mk (HOC.out.below hb)
   clear hb
   have L_S := kw_le HB.out L0V
   have HP_S : Hk (Bk _ _ #[.int .i64 q.t, .int .i64 q.p, .slice a2 q.n c2]) := ⟨Bk.new WZ #[.int .i64 q.t, .int .i64 q.p, .slice a2 q.n c2] 55⟩
   replace HB := Hk.mk (kw_al HB.out L0V (.cells #[.int .i64 q.t, .int .i64 q.p, .slice a2 q.n c2] 55))
   refine hK.out _ _ ?_ (fun hHeld2 => ?_)
   ·exact kw_s HB.out
   clear hK K hHeld
   have hHeld := hHeld2
   clear hHeld2
   (try simp only [Act.put, jjA, jjB, jjC, jjD, jjE, jjF])
   generalize WZ.heap.size = S at *
   generalize WZ.alloc (.cells #[.int .i64 q.t, .int .i64 q.p, .slice a2 q.n c2] 55) = WZx at *
   refine reg_cast (l' := #[true, true, true, true, true, true, false, false, false]) (by kernel_rfl) ?_
   revert hHeld
   revert HOC
   revert HV1
   revert L_S
   revert HP_S
   revert HB
   revert L2
   revert c2
   revert a2
   revert L1
   revert v
   revert S
   revert WZx
   exact HG3.out
  intro WZ S v L1 a2 c2 L2 HB HP_S L_S HV1 HOC hHeld
  refine wpAnyH_ready (rs := [6]) (by kernel_rfl) (by simp) ?_
  refine AllReadyH.cons rfl (fun K hK => ?_) (AllReadyH.nil)
  ·skip
   ((go_simp; (go_at_call 50; (with_reducible refine (in3_ins_any ({ q with a := a2, c := c2, l := L2 } : Iv) S VA.heap.size v n i L1 _ (in3_of HV1.out.o.o) HP_S.out (by omega) HIN.out (kw_le HB.out L0V)).mono ?_); rintro e z ⟨v2, rfl, hv2, hfr⟩; have HV2 : Hk (OwA z VA.heap.size v2 (n + 1) (L1.take i ++ [({ q with a := a2, c := c2, l := L2 } : Iv)] ++ L1.drop i) ((abI l).take i ++ q.ab :: (abI l).drop i)) := ⟨⟨OwN.ins (q := ({ q with a := a2, c := c2, l := L2 } : Iv)) HV1.out.o HOC.out.o (in3_to hv2) hfr, ab_ins HV1.out.f HOC.out.f⟩⟩; replace HB := Hk.mk (HB.out.trans (hfr.below (kw_le HB.out L0V) (fun j _ e => (HV1.out.o.o.lt j e).1))); clear hv2 hfr)))
   refine hK.out _ _ ?_ (fun hHeld2 => ?_)
   ·exact kw_s HB.out
   clear hK K hHeld
   have hHeld := hHeld2
   clear hHeld2
   (try simp only [Act.put, jjA, jjB, jjC, jjD, jjE, jjF])
   clear HV1
   clear HOC
   clear HP_S L_S
   have HI : Ix [7, 8] := trivial
   iterate 2 (refine tkA HI (v := ?_) rfl (by kernel_rfl) (fun _ _ _ h => h) (.inl ⟨by rfl, fun wX hSw => ?_⟩) hHeld (fun HJ => ?_); rotate_left; (focus ((try dsimp only at hSw); go_simp; try with_reducible rfl)); clear HI; have HI := HJ; clear HJ; try simp only [Act.put, jjA, jjB, jjC, jjD, jjE, jjF])
   clear HI
   refine reg_cast (l' := #[true, true, true, true, true, true, true, true, true]) (by kernel_rfl) ?_
   revert hHeld
   revert HV2
   revert HB
   revert v2
   revert L2
   revert c2
   revert a2
   revert L1
   revert v
   revert S
   revert z
   exact HG4.out
  intro WZ S v L1 a2 c2 L2 v2 HB HV2 hHeld
  refine wpAnyH_done (by kernel_rfl) ?_ _
  have HB7 := Hk.mk (HB0.out.trans (HB.out.mono (kw_size HB0.out hNW)))
  have HVA := Hk.mk (HTR.out _ HB0.out).size
  obtain ⟨a4, c4, rfl, -⟩ := HV2.out.o.o.form
  go_wp2
  go_ret2
  refine ⟨HTR.out _ HB7.out, fun h => ?_, fun m hm => ⟨_, _, _, _, rfl, HV2.out.o.weak HVA.out, ?_⟩⟩
  ·rw [HRS.out] at h; cases h
  ·rw [HRS.out] at hm; injection hm with hm; rw [HV2.out.f, hm]
 ·go_wp2
  go_ret2
  exact ⟨HTR.out _ HB.out, fun _ => rfl, fun m hm => by rw [HRS.out] at hm; cases hm⟩
end Go.Proofs.Ytdpblimhfmfbnaa
namespace Go.Proofs.Ytdpblimhfmfbnaa
open Go.RowKit
def rsC (c d : Cm) : Prop := c.p < d.p ∨ (c.p = d.p ∧ c.s < d.s)
def ecR : Option (List In) → Int
 | none => 1
 | some _ => 0
def flR : Option (List In) → List Cm
 | none => []
 | some s => flatN s
theorem merge27_u (res : Option (List In)) (a : Option Addr) (n c : Nat) (l : List Iv) (w : World) (h : InD w w.heap.size a n l) (hs : SmI l) (E : Hk (mergeN (abI l) = res)) :
  Calls Try.prog 36 #[.slice a n c] w fun e w' => ∃ a2 c2 M, e = .returned (.tuple #[.slice a2 M.length c2, .int .i64 (ecR res)]) ∧ OwC w' w.heap.size (.slice a2 M.length c2) M.length M ∧ abC M = flR res ∧ Below w.heap.size w w' := by
 refine (merge27_as res a n c l w h hs E).mono ?_
 rintro e z ⟨hb, hm⟩
 cases res with
 | none => exact ⟨none, 0, [], hm, OwC.nil _ _, rfl, hb⟩
 | some s =>
  obtain ⟨v, M, rfl, ho, hab⟩ := hm
  obtain ⟨a2, c2, rfl⟩ := ho.form
  exact ⟨a2, c2, M, rfl, ho, hab, hb⟩
end Go.Proofs.Ytdpblimhfmfbnaa
namespace Go.Proofs.Ytdpblimhfmfbnaa
open Go.ChangeShapes Go.WideShapes Go.ChangeAt Go.RowKit Go.Deep
structure MrgR (res : Option (List In)) (w : World) (e : Ending) (z : World) : Prop where
 bl : Below w.heap.size w z
 no : res = none → e = .returned (.tuple #[.slice none 0 0, .bool false])
 yes : ∀ m, res = some m → ∃ a n c L, e = .returned (.tuple #[.slice a n c, .bool true]) ∧ OwC z w.heap.size (.slice a n c) n L ∧ abC L = flatN m
end Go.Proofs.Ytdpblimhfmfbnaa
namespace Go.Proofs.Ytdpblimhfmfbnaa
open Go.ChangeShapes Go.WideShapes Go.ChangeAt Go.RowKit Go.Deep
structure MrgS (w0 w : World) (a : Option Addr) (m c : Nat) (L : List Iv) (tt : Int) (rest : List In) (res : Option (List In)) (all : List In) (k : Nat) : Prop where
 o : OwN w w0.heap.size (.slice a m c) m L
 s : sortedN (abI L)
 e : mrgN tt (abI L) rest = res
 i : ∀ x, x ∈ abI L → x ∈ all
 k : m ≤ k
end Go.Proofs.Ytdpblimhfmfbnaa
namespace Go.Proofs.Ytdpblimhfmfbnaa
open Go.ChangeShapes Go.WideShapes Go.ChangeAt Go.RowKit Go.Deep
def SmNc (c : List Cm) : Prop := c.length ≤ 1048576 ∧ ∀ d, d ∈ c → d.f.u.length ≤ 1048576
def SmN (x : In) : Prop := SmNc x.l
theorem put_mem {x : In} : ∀ {l m : List In}, putN x l = some m → m.length = l.length + 1 ∧ ∀ y, y ∈ m → y = x ∨ y ∈ l
 | [], m, h => by
  injection h with h
  subst h
  exact ⟨rfl, fun y hy => .inl (List.mem_singleton.1 hy)⟩
 | a :: l, m, h => by
  unfold putN at h
  by_cases c : ltB a x = true
  ·rw [if_pos c] at h
   cases hp : putN x l with
   | none => rw [hp] at h; cases h
   | some m' =>
    rw [hp] at h
    injection h with h
    subst h
    obtain ⟨h1, h2⟩ := put_mem hp
    refine ⟨by rw [List.length_cons, h1, List.length_cons], fun y hy => ?_⟩
    rcases List.mem_cons.1 hy with e | e
    ·exact .inr (by rw [e]; exact List.mem_cons_self)
    ·rcases h2 y e with e | e
     ·exact .inl e
     ·exact .inr (List.mem_cons_of_mem _ e)
  ·rw [if_neg c] at h
   by_cases d : ltB x a = true
   ·rw [if_pos d] at h
    injection h with h
    subst h
    exact ⟨rfl, fun y hy => List.mem_cons.1 hy⟩
   ·rw [if_neg d] at h; cases h
end Go.Proofs.Ytdpblimhfmfbnaa
