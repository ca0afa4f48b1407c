import Derived.Test.YtdpblimhfmfbnaaGreatZvm
import Derived.Test.YtdpblimhfmfbnaaGreatZve
import Derived.BigGuardPart
import Derived.Deep.QuietTactic
import Derived.BigQuiet
import Derived.Deep.RegionWith
import Derived.Deep.RegionHeld3
import Derived.Deep.DeepCutAuto
import Derived.Deep.DeepFit
import Derived.Outline
import Derived.Test.YtdpblimhfmfbnaaGreatZvh
import Derived.Test.YtdpblimhfmfbnaaGreatZvj
import Derived.Test.YtdpblimhfmfbnaaGreatZva
set_option linter.unusedVariables false
set_option linter.unusedSimpArgs false
namespace Go.Proofs.YtdpblimhfmfbnaaGreat
open Go.RowKit
def nbN (W H t : Int) : Nat → Nat
 | 0 => 0
 | j + 1 => nbN W H t j + if 0 ≤ nb W H t j then 1 else 0
def nbT (W H : Int) : Nat → Nat
 | 0 => 0
 | k + 1 => nbT W H k + nbN W H k 8
end Go.Proofs.YtdpblimhfmfbnaaGreat
namespace Go.Proofs.YtdpblimhfmfbnaaGreat
open Go.ChangeShapes Go.WideShapes Go.ChangeAt Go.RowKit Go.Deep
def gtA (n ln mn im : Nat) : Bool := decide (700 < n ∨ 30 < ln ∨ 60 < mn ∨ 60 < im)
open Classical in
noncomputable def ckE (W H : Int) (n : Nat) (xs : List Int) (bs : List Bd) : Int := if MOk W H n xs bs then 0 else 1
def bd1 : Bd := ⟨1, 1, 0, 0, 2, 1⟩
def bd2 : Bd := ⟨2, 1, 1, 0, 2, 1⟩
def Asks8 (w : World) (v : Value) : Prop := ∃ (W H : Int) (a : Option Addr) (n c : Nat) (xs : List Int) (la : Option Addr) (ln lc : Nat) (bs : List Bd) (ma : Option Addr) (mn mc : Nat) (ms : List Bd) (ia : Option Addr) (im ic : Nat) (js : List Int),
 v = .agg #[.int .i64 W, .int .i64 H, .slice a n c, .slice la ln lc, .slice ma mn mc, .slice ia im ic] ∧ I64' W ∧ I64' H ∧ n ≤ 9223372036854775807 ∧ ln ≤ lc ∧ lc ≤ 9223372036854775807 ∧ By w w.heap.size a n xs ∧ Bq w w.heap.size la ln bs ∧ (∀ k, k < ln → ∀ i, I64' ((bs.getD k default).c i)) ∧
 mn ≤ mc ∧ mc ≤ 9223372036854775807 ∧ Bq w w.heap.size ma mn ms ∧ (∀ k, k < mn → ∀ i, I64' ((ms.getD k default).c i)) ∧ im ≤ 9223372036854775807 ∧ Nq w w.heap.size ia im js
end Go.Proofs.YtdpblimhfmfbnaaGreat
namespace Go.Proofs.YtdpblimhfmfbnaaGreat
open Go.ChangeShapes Go.WideShapes Go.ChangeAt Go.RowKit Go.Deep
theorem info_cm : (Tryz.prog.info? 95).map (fun i => (i.zero, i.size, i.bytes)) = some (some (.agg (jkC 0 0 0 0 none 0 0 0 0 0 0 0)), 10, 96) := by kernel_rfl
theorem info_in : (Tryz.prog.info? 40).map (fun i => (i.zero, i.size, i.bytes)) = some (some (.agg #[.int .i64 0, .int .i64 0, .slice none 0 0]), 3, 40) := by kernel_rfl
theorem lit_at (X : World) (cs : List Value) (T : TypeId) : ∀ (j : Nat) (u : Value), cs[j]? = some u → (X.alloc (.cells cs.toArray T)).cell? ((⟨X.heap.size, 0, none⟩ : Addr).add j) = some u := by
 intro j u hj
 simp only [Addr.add, Nat.zero_add]
 rw [show (if j = 0 then (⟨X.heap.size, 0, none⟩ : Addr) else ⟨X.heap.size, j, none⟩) = ⟨X.heap.size, j, none⟩ by split <;> simp_all, (Bk.new X cs.toArray T).c j]
 simpa using hj
theorem cs_one (q : Cv) : ∀ u ∈ q.cs, u.oneCell' = true := shC.one q
theorem is_one (i : Iv) : ∀ u ∈ i.cs, u.oneCell' = true := shI.one i
def abC (l : List Cv) : List Cm := l.map Cv.ab
theorem abC_snoc {l : List Cv} {k : Nat} (h : k < l.length) : abC (l.take (k + 1)) = abC (l.take k) ++ [(l.getD k default).ab] := by
 unfold abC; rw [take_snocC h, List.map_append]; rfl
theorem abC_app (l m : List Cv) : abC (l ++ m) = abC l ++ abC m := List.map_append
theorem abC_len (l : List Cv) : (abC l).length = l.length := List.length_map ..
def abI (l : List Iv) : List In := l.map Iv.ab
theorem abI_snoc {l : List Iv} {k : Nat} (h : k < l.length) : abI (l.take (k + 1)) = abI (l.take k) ++ [(l.getD k default).ab] := by
 unfold abI; rw [take_snocI h, List.map_append]; rfl
theorem abI_app (l m : List Iv) : abI (l ++ m) = abI l ++ abI m := List.map_append
theorem abI_len (l : List Iv) : (abI l).length = l.length := List.length_map ..
structure SmC (l : List Cv) : Prop where
 n : l.length ≤ 1048576
 m : ∀ x, x ∈ l → x.m ≤ 1048576
theorem OwC.snoc {w w' : World} {base n : Nat} {v v' : Value} {l : List Cv} {q : Cv} (h : OwC w base v n l) (ho : w'.ownsRow base 95 10 v' (n + 1) (flt shC l ++ q.cs)) (hl : ∀ x, x ∈ l → OwE w' base x.a x.m x.c x.u) (hq : OwE w' base q.a q.m q.c q.u) : OwC w' base v' (n + 1) (l ++ [q]) :=
 ⟨⟨by rw [List.length_append, h.o.len]; rfl, by rw [flt_app, flt_one1]; exact ho⟩, fun x hx => by
  rcases List.mem_append.1 hx with hx | hx
  ·exact hl x hx
  ·have := List.mem_singleton.1 hx
   subst this
   exact hq⟩
set_option maxRecDepth 100000 in
set_option maxHeartbeats 1600000 in
theorem copycs_any (a : Option Addr) (n c : Nat) (l : List Cv) (w : World) (h : CmD w w.heap.size a n l) (hs : SmC l) :
  Calls Tryz.prog 51 #[.slice a n c] w fun e w' => ∃ v L, e = .returned v ∧ OwC w' w.heap.size v n L ∧ abC L = abC l ∧ Below w.heap.size w w' := by
 obtain ⟨i0, hi, hz0, hz1, hz2⟩ := info_parts info_cm
 have HH := Hk.mk h
 have hlen := h.q.len
 have HL := Hk.mk hlen
 have hn : n ≤ 1048576 := by have := hs.n; omega
 have HS := Hk.mk hs
 clear h hlen hs
 go_enter Tryz.func51, Tryz.ntmps51
 go_wp2
 go_loopw [3, 4] (fun v i wr => ∃ (k : Nat) (L : List Cv) (sa : Option Addr) (sc : Nat), v = .slice sa k sc ∧ i = .int .i64 k ∧ k ≤ n ∧ Hk (OwC wr w.heap.size (.slice sa k sc) k L ∧ abC L = abC (l.take k)) ∧ Hk (Below w.heap.size w wr)) (fun _ i _ => n - (intOf i).toNat)
 case atStart => exact ⟨0, [], none, 0, rfl, rfl, Nat.zero_le _, ⟨OwC.nil w w.heap.size, rfl⟩, ⟨Below.refl _ _⟩⟩
 case round =>
  obtain ⟨k, L, sa, sc, rfl, rfl, hk, HO, HB⟩ := hrel
  obtain ⟨hc, hf, hl', hn', hm'⟩ := kw_rules HB.out (Nat.le_refl _)
  by_cases hlt : k < n
  ·obtain ⟨b, off, rfl, hbl, ⟨p0, p1, p2, p3, p4, p5, p6, p7, p8, p9⟩, hnq⟩ := HH.out.ten hlt
   have hm := HS.out.m _ (getD_memC (show k < l.length by rw [HL.out]; exact hlt))
   have HSN : Hk (abC (l.take (k + 1)) = abC (l.take k) ++ [(l.getD k default).ab]) := ⟨abC_snoc (by rw [HL.out]; exact hlt)⟩
   generalize l.getD k default = q at *
   have HN := Hk.mk ((hnq.below HB.out (Nat.le_refl _)).mono HB.out.size)
   have t0 : (0 : Int) ≤ (k : Int) := by omega
   have t1 : (k : Int) < (n : Int) := by omega
   have HM : Hk (q.m ≤ 1099511627776) := ⟨by omega⟩
   have hk20 : k < 1048576 := by omega
   have HLT := Hk.mk hlt
   clear hnq hm
   go_wp2_with (first
    | (go_at_call 79; (with_reducible refine (copyc_any q.p q.s q.k q.n q.a q.m q.c q.u q.t q.w q.h q.x q.y _ HN.out HM.out).mono ?_); rintro e z ⟨a2, c2, rfl, hc2, ho2, hb⟩; have HOC := Hk.mk ho2; have HOL := Hk.mk (HO.out.1.below hb); have hB2 := Hk.mk (kw_step HB.out (Nat.le_refl _) hb); have HB0 := Hk.mk HB.out.size; clear ho2 hb hc2; replace HB := hB2; clear hB2; have HOA := Hk.mk (HOL.out.o.alloc (.cells (jkC q.p q.s q.k q.n a2 q.m c2 q.t q.w q.h q.x q.y) 95)))
    | (at_builtin; go_must (refine wpList_append_own _ rfl _ _ 38 rfl w.heap.size 95 i0 (.agg (jkC 0 0 0 0 none 0 0 0 0 0 0 0)) 10 96 Tryz.underlying38 hi hz0 hz1 hz2 rfl (by decide) _ k (flt shC L) rfl HOA.out.row ⟨z.heap.size, 0, none⟩ 1 1 (({ q with a := a2, c := c2 } : Cv).cs) rfl rfl (lit_at z _ _) (cs_one _) (by unfold maxLen; omega) (by omega) ?c5 ?_)))
   case c5 => have := HB.out.size; simp; omega
   intro v2 z2 hown2 hgrow hnil
   clear hnil
   have hBA : Below w.heap.size w (z.alloc (.cells (jkC q.p q.s q.k q.n a2 q.m c2 q.t q.w q.h q.x q.y) 95)) := HB.out.alloc HB.out.size _
   have hFr : Fr (fun j => (Value.slice sa k sc).ownBlock = some j) z z2 := ((Fr.refl _ z).alloc _).grown hgrow (fun j _ h => h)
   have HB3 : Hk (Below w.heap.size w z2) := ⟨hBA.grown hgrow (by have := HB.out.size; simp; omega) (fun g hg => (HOL.out.o.lt g hg).1)⟩
   have hty : ∀ j, (Value.slice sa k sc).ownBlock = some j → ∃ cur fr, z.heap[j]? = some (.cells cur 95 fr) := fun j hj => HOL.out.o.typ hj
   have hI : ∀ j cur fr, z.heap[j]? = some (.cells cur 3 fr) → ¬ (Value.slice sa k sc).ownBlock = some j := fun j cur fr e hj => by
    obtain ⟨cur', fr', e'⟩ := hty j hj
    rw [e] at e'
    injection e' with e'
    injection e' with _ e'
    exact absurd e' (by decide)
   have HO3 : Hk (OwC z2 w.heap.size v2 (k + 1) (L ++ [{ q with a := a2, c := c2 }]) ∧ abC (L ++ [{ q with a := a2, c := c2 }]) = abC (l.take (k + 1))) := ⟨OwC.snoc HOL.out hown2 (fun x hx => (HOL.out.u x hx).keep hFr hI) (.inl (Fr.owni (HOC.out.weak HB0.out) hFr fun j hj => by obtain ⟨cur, fr, e⟩ := HOC.out.typ hj; exact hI j cur fr e)), by rw [abC_app, HO.out.2, HSN.out]; rfl⟩
   obtain ⟨sa2, sc2, rfl, -⟩ := HO3.out.1.o.form
   have hnx : k + 1 ≤ n := HLT.out
   clear hown2 hgrow hFr hty hI hBA HO HOL HOA HB HB0
   go_wp2
   exact ⟨⟨k + 1, _, sa2, sc2, by first | rfl | (push_cast; rfl), by go_num, hnx, HO3, HB3⟩, by first | exact nx_ms HLT.out | exact nx_ms' HLT.out⟩
  ·obtain rfl : k = n := by omega
   go_wp2
   go_ret
   exact ⟨_, L, rfl, HO.out.1, by have := HO.out.2; rwa [List.take_of_length_le (by rw [HL.out]; exact Nat.le_refl _)] at this, HB.out⟩
end Go.Proofs.YtdpblimhfmfbnaaGreat
namespace Go.Proofs.YtdpblimhfmfbnaaGreat
open Go.ChangeShapes Go.WideShapes Go.ChangeAt Go.RowKit Go.Deep
theorem OwC.form {w : World} {base n : Nat} {v : Value} {l : List Cv} (h : OwC w base v n l) : ∃ a c, v = .slice a n c := by
 obtain ⟨a, c, e, _⟩ := h.o.form
 exact ⟨a, c, e⟩
set_option maxRecDepth 100000 in
set_option maxHeartbeats 1600000 in
theorem copyin_any (t p : Int) (a : Option Addr) (n c : Nat) (l : List Cv) (w : World) (h : CmD w w.heap.size a n l) (hs : SmC l) :
  Calls Tryz.prog 64 #[.agg #[.int .i64 t, .int .i64 p, .slice a n c]] w fun e w' => ∃ a2 c2 L, e = .returned (.agg #[.int .i64 t, .int .i64 p, .slice a2 n c2]) ∧ OwC w' w.heap.size (.slice a2 n c2) n L ∧ abC L = abC l ∧ Below w.heap.size w w' := by
 have HBW : Hk (Below w.heap.size w (((w.alloc (.cells #[.int .i64 t, .int .i64 p, .slice a n c] 40)).alloc (.cells #[.int .i64 0, .int .i64 0, .slice none 0 0] 40)).alloc (.cells #[.int .i64 t, .int .i64 p, .slice a n c] 40))) := ⟨(((Below.refl _ _).alloc (Nat.le_refl _) _).alloc (by simp) _).alloc (by simp <;> omega) _⟩
 have hs3 : w.heap.size ≤ (((w.alloc (.cells #[.int .i64 t, .int .i64 p, .slice a n c] 40)).alloc (.cells #[.int .i64 0, .int .i64 0, .slice none 0 0] 40)).alloc (.cells #[.int .i64 t, .int .i64 p, .slice a n c] 40)).heap.size := by simp; omega
 have HN3 := Hk.mk ((h.below HBW.out (Nat.le_refl _)).mono hs3)
 have HX : Hk (Bk (((w.alloc (.cells #[.int .i64 t, .int .i64 p, .slice a n c] 40)).alloc (.cells #[.int .i64 0, .int .i64 0, .slice none 0 0] 40)).alloc (.cells #[.int .i64 t, .int .i64 p, .slice a n c] 40)) (w.heap.size + 1 + 1) #[.int .i64 t, .int .i64 p, .slice a n c]) := ⟨by have := Bk.new ((w.alloc (.cells #[.int .i64 t, .int .i64 p, .slice a n c] 40)).alloc (.cells #[.int .i64 0, .int .i64 0, .slice none 0 0] 40)) #[.int .i64 t, .int .i64 p, .slice a n c] 40; simpa using this⟩
 have HZ : Hk (Bk (((w.alloc (.cells #[.int .i64 t, .int .i64 p, .slice a n c] 40)).alloc (.cells #[.int .i64 0, .int .i64 0, .slice none 0 0] 40)).alloc (.cells #[.int .i64 t, .int .i64 p, .slice a n c] 40)) (w.heap.size + 1) #[.int .i64 0, .int .i64 0, .slice none 0 0]) := ⟨by have := (Bk.new (w.alloc (.cells #[.int .i64 t, .int .i64 p, .slice a n c] 40)) #[.int .i64 0, .int .i64 0, .slice none 0 0] 40).al (.cells #[.int .i64 t, .int .i64 p, .slice a n c] 40); simpa using this⟩
 have HSM := Hk.mk hs
 clear h hs hs3
 go_enter Tryz.func64, Tryz.ntmps64
 go_wp2_with (go_at_call 51; (with_reducible refine (copycs_any a n c l _ HN3.out HSM.out).mono ?_); rintro e w1 ⟨v, L, rfl, ho, hab, hb⟩; obtain ⟨a2, c2, rfl⟩ := ho.form; have HO := Hk.mk ho; have HAB := Hk.mk hab; have HB1 := Hk.mk hb; have hx := HX.out.below hb; have hz := HZ.out.below hb; have c0 := hx.c 0; have c1 := hx.c 1; have cc2 := hx.c 2; have z0 := hz.c 0; have z1 := hz.c 1; have z2 := hz.c 2; have fx := hx.f 2; have g0 := hz.f 0; have g1 := hz.f 1; have g2 := hz.f 2; have hl1 := hx.lt; have hl2 := hz.lt; clear ho hab hb hx hz)
 refine bodyPost_ret (v := .agg #[.int .i64 t, .int .i64 p, .slice a2 n c2]) (by simp [results, Tryz.results64, go_sem, z0, z1, z2]) rfl ⟨a2, c2, L, rfl, ?_, HAB.out, ?_⟩
 ·refine OwC.weak (OwC.up (M := fun j => j = w.heap.size + 1 ∨ j = w.heap.size + 1 + 1) HO.out ?_ ?_) (by simp <;> omega)
  ·refine Fr.setCell ?_ (fun _ => .inl rfl) _; refine Fr.setCell ?_ (fun _ => .inl rfl) _; refine Fr.setCell ?_ (fun _ => .inl rfl) _; exact Fr.setCell (Fr.refl _ _) (fun _ => .inr rfl) _
  ·intro j hj h
   simp at hj; omega
 ·refine Fr.below (M := fun j => j = w.heap.size + 1 ∨ j = w.heap.size + 1 + 1 ∨ w.heap.size + 3 ≤ j) ?_ (Nat.le_refl _) (fun j hj h => by omega)
  refine Fr.setCell ?_ (fun h => .inl rfl) _; refine Fr.setCell ?_ (fun h => .inl rfl) _; refine Fr.setCell ?_ (fun h => .inl rfl) _; refine Fr.setCell ?_ (fun h => .inr (.inl rfl)) _
  exact ((Fr.of_below HBW.out).mono (fun j hj h => by omega)).andThen (Fr.of_below HB1.out) (fun j hj h => by simp at h; omega)
structure SmI (l : List Iv) : Prop where
 n : l.length ≤ 1048576
 m : ∀ x, x ∈ l → SmC x.l
theorem OwN.snoc {w w' : World} {base n : Nat} {v v' : Value} {l : List Iv} {q : Iv} (h : OwN w base v n l) (ho : w'.ownsRow base 40 3 v' (n + 1) (flt shI l ++ q.cs)) (hl : ∀ x, x ∈ l → OwCE w' base x.a x.n x.c x.l) (hq : OwCE w' base q.a q.n q.c q.l) : OwN w' base v' (n + 1) (l ++ [q]) :=
 ⟨⟨by rw [List.length_append, h.o.len]; rfl, by rw [flt_app, flt_one1]; exact ho⟩, fun x hx => by
  rcases List.mem_append.1 hx with hx | hx
  ·exact hl x hx
  ·have := List.mem_singleton.1 hx
   subst this
   exact hq⟩
set_option maxRecDepth 100000 in
set_option maxHeartbeats 1600000 in
theorem copyins_any (a : Option Addr) (n c : Nat) (l : List Iv) (w : World) (h : InD w w.heap.size a n l) (hs : SmI l) :
  Calls Tryz.prog 26 #[.slice a n c] w fun e w' => ∃ v L, e = .returned v ∧ OwN w' w.heap.size v n L ∧ abI L = abI l ∧ Below w.heap.size w w' := by
 obtain ⟨i0, hi, hz0, hz1, hz2⟩ := info_parts info_in
 have HH := Hk.mk h
 have hlen := h.q.len
 have HL := Hk.mk hlen
 have hn : n ≤ 1048576 := by have := hs.n; omega
 have HS := Hk.mk hs
 clear h hlen hs
 go_enter Tryz.func26, Tryz.ntmps26
 go_wp2
 go_loopw [3, 4] (fun v i wr => ∃ (k : Nat) (L : List Iv) (sa : Option Addr) (sc : Nat), v = .slice sa k sc ∧ i = .int .i64 k ∧ k ≤ n ∧ Hk (OwN wr w.heap.size (.slice sa k sc) k L ∧ abI L = abI (l.take k)) ∧ Hk (Below w.heap.size w wr)) (fun _ i _ => n - (intOf i).toNat)
 case atStart => exact ⟨0, [], none, 0, rfl, rfl, Nat.zero_le _, ⟨OwN.nil w w.heap.size, rfl⟩, ⟨Below.refl _ _⟩⟩
 case round =>
  obtain ⟨k, L, sa, sc, rfl, rfl, hk, HO, HB⟩ := hrel
  obtain ⟨hc, hf, hl', hn', hm'⟩ := kw_rules HB.out (Nat.le_refl _)
  by_cases hlt : k < n
  ·obtain ⟨b, off, rfl, hbl, ⟨p0, p1, p2⟩, hnq⟩ := HH.out.three hlt
   have HM := Hk.mk (HS.out.m _ (getD_memI (show k < l.length by rw [HL.out]; exact hlt)))
   have HSN : Hk (abI (l.take (k + 1)) = abI (l.take k) ++ [(l.getD k default).ab]) := ⟨abI_snoc (by rw [HL.out]; exact hlt)⟩
   generalize l.getD k default = q at *
   have HN := Hk.mk ((hnq.below HB.out (Nat.le_refl _)).mono HB.out.size)
   have t0 : (0 : Int) ≤ (k : Int) := by omega
   have t1 : (k : Int) < (n : Int) := by omega
   have hk20 : k < 1048576 := by omega
   have HLT := Hk.mk hlt
   clear hnq
   go_wp2_with (first
    | (go_at_call 64; (with_reducible refine (copyin_any q.t q.p q.a q.n q.c q.l _ HN.out HM.out).mono ?_); rintro e z ⟨a2, c2, L2, rfl, ho2, hab2, hb⟩; have HOC := Hk.mk ho2; have HAB := Hk.mk hab2; have HOL := Hk.mk (HO.out.1.below hb); have hB2 := Hk.mk (kw_step HB.out (Nat.le_refl _) hb); have HB0 := Hk.mk HB.out.size; clear ho2 hb hab2; replace HB := hB2; clear hB2; have HOA := Hk.mk (HOL.out.o.alloc (.cells #[.int .i64 q.t, .int .i64 q.p, .slice a2 q.n c2] 40)))
    | (at_builtin; go_must (refine wpList_append_own _ rfl _ _ 22 rfl w.heap.size 40 i0 (.agg #[.int .i64 0, .int .i64 0, .slice none 0 0]) 3 40 Tryz.underlying22 hi hz0 hz1 hz2 rfl (by decide) _ k (flt shI L) rfl HOA.out.row ⟨z.heap.size, 0, none⟩ 1 1 (({ q with a := a2, c := c2, l := L2 } : Iv).cs) rfl rfl (lit_at z _ _) (is_one _) (by unfold maxLen; omega) (by omega) ?c5 ?_)))
   case c5 => have := HB.out.size; simp; omega
   intro v2 z2 hown2 hgrow hnil
   clear hnil
   have hBA : Below w.heap.size w (z.alloc (.cells #[.int .i64 q.t, .int .i64 q.p, .slice a2 q.n c2] 40)) := HB.out.alloc HB.out.size _
   have hFr : Fr (fun j => (Value.slice sa k sc).ownBlock = some j) z z2 := ((Fr.refl _ z).alloc _).grown hgrow (fun j _ h => h)
   have HB3 : Hk (Below w.heap.size w z2) := ⟨hBA.grown hgrow (by have := HB.out.size; simp; omega) (fun g hg => (HOL.out.o.lt g hg).1)⟩
   have hty : ∀ j, (Value.slice sa k sc).ownBlock = some j → ∃ cur fr, z.heap[j]? = some (.cells cur 40 fr) := fun j hj => HOL.out.o.typ hj
   have hI : ∀ (T : TypeId), T ≠ 40 → ∀ j cur fr, z.heap[j]? = some (.cells cur T fr) → ¬ (Value.slice sa k sc).ownBlock = some j := fun T hT j cur fr e hj => by
    obtain ⟨cur', fr', e'⟩ := hty j hj
    rw [e] at e'
    injection e' with e'
    injection e' with _ e'
    exact hT e'
   have HO3 : Hk (OwN z2 w.heap.size v2 (k + 1) (L ++ [{ q with a := a2, c := c2, l := L2 }]) ∧ abI (L ++ [{ q with a := a2, c := c2, l := L2 }]) = abI (l.take (k + 1))) := ⟨OwN.snoc HOL.out hown2 (fun x hx => (HOL.out.u x hx).keep hFr (hI _ (by decide)) (hI _ (by decide))) (.inl ((HOC.out.weak HB0.out).keep hFr (hI _ (by decide)) (hI _ (by decide)))), by rw [abI_app, HO.out.2, HSN.out]; show _ ++ [(⟨q.t, q.p, abC L2⟩ : In)] = _ ++ [(⟨q.t, q.p, abC q.l⟩ : In)]; rw [HAB.out]⟩
   obtain ⟨sa2, sc2, rfl, -⟩ := HO3.out.1.o.form
   have hnx : k + 1 ≤ n := HLT.out
   clear hown2 hgrow hFr hty hI hBA HO HOL HOA HB HB0
   go_wp2
   exact ⟨⟨k + 1, _, sa2, sc2, by first | rfl | (push_cast; rfl), by go_num, hnx, HO3, HB3⟩, by first | exact nx_ms HLT.out | exact nx_ms' HLT.out⟩
  ·obtain rfl : k = n := by omega
   go_wp2
   go_ret
   exact ⟨_, L, rfl, HO.out.1, by have := HO.out.2; rwa [List.take_of_length_le (by rw [HL.out]; exact Nat.le_refl _)] at this, HB.out⟩
end Go.Proofs.YtdpblimhfmfbnaaGreat
namespace Go.Proofs.YtdpblimhfmfbnaaGreat
open List renaming getElem_toArray → jjA, getElem_cons_succ → jjB, getElem_cons_zero → jjC, setIfInBounds_toArray → jjD, set_cons_zero → jjE, set_cons_succ → jjF
open Go.ChangeShapes Go.WideShapes Go.ChangeAt Go.RowKit Go.Deep
theorem eqcB_iff (q q' : Cv) : eqcB q.p q.s q.k q.n q.u q.t q.w q.h q.x q.y q'.p q'.s q'.k q'.n q'.u q'.t q'.w q'.h q'.x q'.y = true ↔ q.ab = q'.ab := by
 unfold eqcB Cv.ab Cv.f
 rw [decide_eq_true_iff]
 simp only [Cm.mk.injEq, CF.mk.injEq]
theorem ab_getC {l l' : List Cv} (h : abC l = abC l') {k : Nat} (hk : k < l.length) : (l.getD k default).ab = (l'.getD k default).ab := by
 have hk' : k < l'.length := by have := congrArg List.length h; rw [abC_len, abC_len] at this; omega
 have e := congrArg (fun m => m[k]?) h
 simp only [abC] at e
 rw [getD_mapC hk, getD_mapC hk'] at e
 injection e
theorem ab_getI {l l' : List Iv} (h : abI l = abI l') {k : Nat} (hk : k < l.length) : (l.getD k default).ab = (l'.getD k default).ab := by
 have hk' : k < l'.length := by have := congrArg List.length h; rw [abI_len, abI_len] at this; omega
 have e := congrArg (fun m => m[k]?) h
 simp only [abI] at e
 have g : ∀ {m : List Iv}, k < m.length → (m.map Iv.ab)[k]? = some (m.getD k default).ab := fun {m} hm => by simp [List.getD, hm]
 rw [g hk, g hk'] at e
 injection e
set_option maxRecDepth 100000 in
set_option maxHeartbeats 1600000 in
theorem eqcs_as (r : Bool) (a a' : Option Addr) (n n' c c' : Nat) (l l' : List Cv) (w : World) (h : CmD w w.heap.size a n l) (h' : CmD w w.heap.size a' n' l') (hs : SmC l) (hs' : SmC l') (E : Hk (abC l = abC l' ↔ r = true)) :
  Calls Tryz.prog 48 #[.slice a n c, .slice a' n' c'] w fun e w' => e = .returned (.bool r) ∧ Below w.heap.size w w' := by
 have HH := Hk.mk h
 have HH' := Hk.mk h'
 have HL := Hk.mk h.q.len
 have HL' := Hk.mk h'.q.len
 have HS := Hk.mk hs
 have HS' := Hk.mk hs'
 have hn : n ≤ 1048576 := by have := hs.n; have := HL.out; omega
 clear h h' hs hs'
 by_cases hnn : n = n'
 ·subst hnn
  have HB : Hk (Below w.heap.size w w) := ⟨Below.refl _ _⟩
  go_enter Tryz.func48, Tryz.ntmps48
  go_wp2
  obtain ⟨wo, hwo⟩ : ∃ wo : World, wo = w := ⟨w, rfl⟩
  go_loopw [5] (fun i wr => ∃ k : Nat, i = .int .i64 k ∧ k ≤ n ∧ Hk (abC (l.take k) = abC (l'.take k)) ∧ Hk (Below w.heap.size w wr)) (fun i _ => n - (intOf i).toNat)
  case atStart => exact ⟨0, rfl, Nat.zero_le _, ⟨rfl⟩, HB⟩
  case round =>
   clear HB hwo wo
   obtain ⟨k, rfl, hk, HP, HB⟩ := hrel
   by_cases hlt : k < n
   ·obtain ⟨b, off, rfl, hbl, ⟨p0, p1, p2, p3, p4, p5, p6, p7, p8, p9⟩, hnq⟩ := HH.out.ten hlt
    obtain ⟨b', off', rfl, hbl', ⟨q0, q1, q2, q3, q4, q5, q6, q7, q8, q9⟩, hnq'⟩ := HH'.out.ten hlt
    have hkl : k < l.length := by rw [HL.out]; exact hlt
    have hkl' : k < l'.length := by rw [HL'.out]; exact hlt
    have hm := HS.out.m _ (getD_memC hkl)
    have hm' := HS'.out.m _ (getD_memC hkl')
    have HSN : Hk (abC (l.take (k + 1)) = abC (l.take k) ++ [(l.getD k default).ab]) := ⟨abC_snoc hkl⟩
    have HSN' : Hk (abC (l'.take (k + 1)) = abC (l'.take k) ++ [(l'.getD k default).ab]) := ⟨abC_snoc hkl'⟩
    have HNE : Hk (¬ (l.getD k default).ab = (l'.getD k default).ab → r = false) := ⟨fun h => by
     cases r
     ·rfl
     ·exact absurd (ab_getC (E.out.2 rfl) hkl) h⟩
    generalize l.getD k default = q at *
    generalize l'.getD k default = q' at *
    have HN := Hk.mk hnq
    have HN' := Hk.mk hnq'
    have HM : Hk (q.m ≤ 1099511627776) := ⟨by omega⟩
    have HM' : Hk (q'.m ≤ 1099511627776) := ⟨by omega⟩
    have t0 : (0 : Int) ≤ (k : Int) := by omega
    have t1 : (k : Int) < (n : Int) := by omega
    have HLT := Hk.mk hlt
    obtain ⟨s, hse⟩ : ∃ s, eqcB q.p q.s q.k q.n q.u q.t q.w q.h q.x q.y q'.p q'.s q'.k q'.n q'.u q'.t q'.w q'.h q'.x q'.y = s := ⟨_, rfl⟩
    have EQ := Hk.mk hse
    have hqi := eqcB_iff q q'
    rw [hse] at hqi
    clear hnq hnq' hm hm' hkl hkl' hse
    go_upto_region 6 with fail
    cases s
    ·have hr : r = false := HNE.out (fun h => by have := hqi.2 h; cases this)
     subst hr
     clear hqi HNE
     as_aux_lemma =>
      refine wp_region_held_drew (S := (fun X => (∀ b o, b < w.heap.size → X.cell? ⟨b, o, none⟩ = w.cell? ⟨b, o, none⟩) ∧ Below w.heap.size w X)) (by kernel_rfl) ?_ (fun hHeld => ?_)
      ·exact kw_S HB.out.drew
      have HI : Ix [0, 1, 2, 3, 4, 5, 6, 7] := trivial
      iterate 8 (refine tkA HI (v := ?_) rfl (by kernel_rfl) (fun _ _ _ h => h) (.inl ⟨by rfl, fun wX hSw => ?_⟩) hHeld (fun HJ => ?_); rotate_left; (focus ((try dsimp only at hSw); go_simp; try with_reducible rfl)); clear HI; have HI := HJ; clear HJ; try simp only [Act.put, jjA, jjB, jjC, jjD, jjE, jjF])
      clear HI
      refine wpAnyH_ready (rs := [8]) (by kernel_rfl) (by simp) ?_
      refine AllReadyH.cons rfl (fun K hK => ?_) (AllReadyH.nil)
      go_simp
      ((go_at_call 78; (with_reducible refine (eqc_as false q.p q.s q.k q.n q.a q.m q.c q.u q.t q.w q.h q.x q.y q'.p q'.s q'.k q'.n q'.a q'.m q'.c q'.u q'.t q'.w q'.h q'.x q'.y _ (by first | exact (HN.out.below HB.out (Nat.le_refl _)).mono HB.out.size | exact (HN.out.below HB.out.drew (Nat.le_refl _)).mono HB.out.drew.size) HM.out (by first | exact (HN'.out.below HB.out (Nat.le_refl _)).mono HB.out.size | exact (HN'.out.below HB.out.drew (Nat.le_refl _)).mono HB.out.drew.size) HM'.out EQ).mono ?_); rintro e z ⟨rfl, hb⟩; have hB2 : Hk (Below w.heap.size w z) := ⟨by first | exact kw_step HB.out (Nat.le_refl _) hb | exact kw_step HB.out.drew (Nat.le_refl _) hb⟩; clear hb; replace HB := hB2; clear hB2))
      refine hK.out _ _ ?_ (fun hHeld => ?_)
      ·exact kw_S HB.out
      clear hK K
      (try simp only [Act.put, jjA, jjB, jjC, jjD, jjE, jjF])
      have HI : Ix [9] := trivial
      (refine tkA HI (v := ?_) rfl (by kernel_rfl) (fun _ _ _ h => h) (.inl ⟨by rfl, fun wX hSw => ?_⟩) hHeld (fun HJ => ?_); rotate_left; (focus ((try dsimp only at hSw); go_simp; try with_reducible rfl)); clear HI; have HI := HJ; clear HJ; try simp only [Act.put, jjA, jjB, jjC, jjD, jjE, jjF])
      clear HI
      refine wpAnyH_done (by kernel_rfl) ?_ _
      go_wp2
      go_ret
      exact ⟨rfl, HB.out⟩
    ·have HP2 : Hk (abC (l.take (k + 1)) = abC (l'.take (k + 1))) := ⟨by rw [HSN.out, HSN'.out, HP.out, hqi.1 rfl]⟩
     clear hqi HNE HSN HSN' HP
     as_aux_lemma =>
      refine wp_region_held_drew (S := (fun X => (∀ b o, b < w.heap.size → X.cell? ⟨b, o, none⟩ = w.cell? ⟨b, o, none⟩) ∧ Below w.heap.size w X)) (by kernel_rfl) ?_ (fun hHeld => ?_)
      ·exact kw_S HB.out.drew
      have HI : Ix [0, 1, 2, 3, 4, 5, 6, 7] := trivial
      iterate 8 (refine tkA HI (v := ?_) rfl (by kernel_rfl) (fun _ _ _ h => h) (.inl ⟨by rfl, fun wX hSw => ?_⟩) hHeld (fun HJ => ?_); rotate_left; (focus ((try dsimp only at hSw); go_simp; try with_reducible rfl)); clear HI; have HI := HJ; clear HJ; try simp only [Act.put, jjA, jjB, jjC, jjD, jjE, jjF])
      clear HI
      refine wpAnyH_ready (rs := [8]) (by kernel_rfl) (by simp) ?_
      refine AllReadyH.cons rfl (fun K hK => ?_) (AllReadyH.nil)
      go_simp
      ((go_at_call 78; (with_reducible refine (eqc_as true q.p q.s q.k q.n q.a q.m q.c q.u q.t q.w q.h q.x q.y q'.p q'.s q'.k q'.n q'.a q'.m q'.c q'.u q'.t q'.w q'.h q'.x q'.y _ (by first | exact (HN.out.below HB.out (Nat.le_refl _)).mono HB.out.size | exact (HN.out.below HB.out.drew (Nat.le_refl _)).mono HB.out.drew.size) HM.out (by first | exact (HN'.out.below HB.out (Nat.le_refl _)).mono HB.out.size | exact (HN'.out.below HB.out.drew (Nat.le_refl _)).mono HB.out.drew.size) HM'.out EQ).mono ?_); rintro e z ⟨rfl, hb⟩; have hB2 : Hk (Below w.heap.size w z) := ⟨by first | exact kw_step HB.out (Nat.le_refl _) hb | exact kw_step HB.out.drew (Nat.le_refl _) hb⟩; clear hb; replace HB := hB2; clear hB2))
      refine hK.out _ _ ?_ (fun hHeld => ?_)
      ·exact kw_S HB.out
      clear hK K
      (try simp only [Act.put, jjA, jjB, jjC, jjD, jjE, jjF])
      have HI : Ix [9] := trivial
      (refine tkA HI (v := ?_) rfl (by kernel_rfl) (fun _ _ _ h => h) (.inl ⟨by rfl, fun wX hSw => ?_⟩) hHeld (fun HJ => ?_); rotate_left; (focus ((try dsimp only at hSw); go_simp; try with_reducible rfl)); clear HI; have HI := HJ; clear HJ; try simp only [Act.put, jjA, jjB, jjC, jjD, jjE, jjF])
      clear HI
      refine wpAnyH_done (by kernel_rfl) ?_ _
      go_wp2
      exact ⟨⟨k + 1, by go_num, HLT.out, HP2, HB⟩, by first | exact nx_ms HLT.out | exact nx_ms' HLT.out⟩
   ·obtain rfl : k = n := by omega
    have hr : r = true := E.out.1 (by have := HP.out; rwa [List.take_of_length_le (by rw [HL.out]; exact Nat.le_refl _), List.take_of_length_le (by rw [HL'.out]; exact Nat.le_refl _)] at this)
    subst hr
    go_wp2
    go_ret
    exact ⟨rfl, HB.out⟩
 ·have hr : r = false := by
   cases r
   ·rfl
   ·have := congrArg List.length (E.out.2 rfl)
    rw [abC_len, abC_len, HL.out, HL'.out] at this
    exact absurd this hnn
  subst hr
  have hd : ((n : Int) != (n' : Int)) = true := by simp; omega
  go_enter Tryz.func48, Tryz.ntmps48
  go_wp2
  go_ret
  exact ⟨rfl, Below.refl _ _⟩
set_option maxRecDepth 100000 in
set_option maxHeartbeats 1600000 in
theorem eqin_as (r : Bool) (t p : Int) (a : Option Addr) (n c : Nat) (l : List Cv) (t' p' : Int) (a' : Option Addr) (n' c' : Nat) (l' : List Cv) (w : World) (h : CmD w w.heap.size a n l) (h' : CmD w w.heap.size a' n' l') (hs : SmC l) (hs' : SmC l') (E : Hk ((⟨t, p, abC l⟩ : In) = ⟨t', p', abC l'⟩ ↔ r = true)) :
  Calls Tryz.prog 23 #[.agg #[.int .i64 t, .int .i64 p, .slice a n c], .agg #[.int .i64 t', .int .i64 p', .slice a' n' c']] w fun e w' => e = .returned (.bool r) ∧ Below w.heap.size w w' := by
 have HBW : Hk (Below w.heap.size w ((w.alloc (.cells #[.int .i64 t, .int .i64 p, .slice a n c] 40)).alloc (.cells #[.int .i64 t', .int .i64 p', .slice a' n' c'] 40))) := ⟨((Below.refl _ _).alloc (Nat.le_refl _) _).alloc (by simp) _⟩
 have hs2 : w.heap.size ≤ ((w.alloc (.cells #[.int .i64 t, .int .i64 p, .slice a n c] 40)).alloc (.cells #[.int .i64 t', .int .i64 p', .slice a' n' c'] 40)).heap.size := by simp; omega
 have HN := Hk.mk ((h.below HBW.out (Nat.le_refl _)).mono hs2)
 have HN' := Hk.mk ((h'.below HBW.out (Nat.le_refl _)).mono hs2)
 have HS := Hk.mk hs
 have HS' := Hk.mk hs'
 have HS2 := Hk.mk hs2
 clear h h' hs hs' hs2
 have NO : (¬ t = t' ∨ ¬ p = p') → r = false := fun h => by
  cases r
  ·rfl
  ·have := E.out.2 rfl
   injection this with e1 e2 e3
   rcases h with h | h
   ·exact absurd e1 h
   ·exact absurd e2 h
 by_cases et : t = t'
 ·subst et
  by_cases ep : p = p'
  ·subst ep
   have E2 : Hk (abC l = abC l' ↔ r = true) := ⟨⟨fun e => E.out.1 (by rw [e]), fun e => by have := E.out.2 e; injection this⟩⟩
   clear NO E
   go_enter Tryz.func23, Tryz.ntmps23
   go_wp2_with (go_at_call 48; (with_reducible refine (eqcs_as r a a' n n' c c' l l' _ HN.out HN'.out HS.out HS'.out E2).mono ?_); rintro e z ⟨rfl, hb⟩; have HB := Hk.mk (HBW.out.trans (hb.mono HS2.out)); clear hb)
   go_ret
   exact ⟨rfl, HB.out⟩
  ·have hr := NO (.inr ep)
   subst hr
   have f0 : (p == p') = false := beq_eq_false_iff_ne.2 ep
   clear NO E
   go_enter Tryz.func23, Tryz.ntmps23
   go_wp2
   go_ret
   exact ⟨rfl, HBW.out⟩
 ·have hr := NO (.inl et)
  subst hr
  have f0 : (t == t') = false := beq_eq_false_iff_ne.2 et
  clear NO E
  go_enter Tryz.func23, Tryz.ntmps23
  go_wp2
  go_ret
  exact ⟨rfl, HBW.out⟩
set_option maxRecDepth 100000 in
set_option maxHeartbeats 1600000 in
theorem eqins_as (r : Bool) (a a' : Option Addr) (n n' c c' : Nat) (l l' : List Iv) (w : World) (h : InD w w.heap.size a n l) (h' : InD w w.heap.size a' n' l') (hs : SmI l) (hs' : SmI l') (E : Hk (abI l = abI l' ↔ r = true)) :
  Calls Tryz.prog 72 #[.slice a n c, .slice a' n' c'] w fun e w' => e = .returned (.bool r) ∧ Below w.heap.size w w' := by
 have HH := Hk.mk h
 have HH' := Hk.mk h'
 have HL := Hk.mk h.q.len
 have HL' := Hk.mk h'.q.len
 have HS := Hk.mk hs
 have HS' := Hk.mk hs'
 have hn : n ≤ 1048576 := by have := hs.n; have := HL.out; omega
 clear h h' hs hs'
 by_cases hnn : n = n'
 ·subst hnn
  have HB : Hk (Below w.heap.size w w) := ⟨Below.refl _ _⟩
  go_enter Tryz.func72, Tryz.ntmps72
  go_wp2
  obtain ⟨wo, hwo⟩ : ∃ wo : World, wo = w := ⟨w, rfl⟩
  go_loopw [5] (fun i wr => ∃ k : Nat, i = .int .i64 k ∧ k ≤ n ∧ Hk (abI (l.take k) = abI (l'.take k)) ∧ Hk (Below w.heap.size w wr)) (fun i _ => n - (intOf i).toNat)
  case atStart => exact ⟨0, rfl, Nat.zero_le _, ⟨rfl⟩, HB⟩
  case round =>
   clear HB hwo wo
   obtain ⟨k, rfl, hk, HP, HB⟩ := hrel
   by_cases hlt : k < n
   ·obtain ⟨b, off, rfl, hbl, ⟨p0, p1, p2⟩, hnq⟩ := HH.out.three hlt
    obtain ⟨b', off', rfl, hbl', ⟨q0, q1, q2⟩, hnq'⟩ := HH'.out.three hlt
    have hkl : k < l.length := by rw [HL.out]; exact hlt
    have hkl' : k < l'.length := by rw [HL'.out]; exact hlt
    have HM := Hk.mk (HS.out.m _ (getD_memI hkl))
    have HM' := Hk.mk (HS'.out.m _ (getD_memI hkl'))
    have HSN : Hk (abI (l.take (k + 1)) = abI (l.take k) ++ [(l.getD k default).ab]) := ⟨abI_snoc hkl⟩
    have HSN' : Hk (abI (l'.take (k + 1)) = abI (l'.take k) ++ [(l'.getD k default).ab]) := ⟨abI_snoc hkl'⟩
    have HNE : Hk (¬ (l.getD k default).ab = (l'.getD k default).ab → r = false) := ⟨fun h => by
     cases r
     ·rfl
     ·exact absurd (ab_getI (E.out.2 rfl) hkl) h⟩
    generalize l.getD k default = q at *
    generalize l'.getD k default = q' at *
    have HN := Hk.mk hnq
    have HN' := Hk.mk hnq'
    have t0 : (0 : Int) ≤ (k : Int) := by omega
    have t1 : (k : Int) < (n : Int) := by omega
    have HLT := Hk.mk hlt
    clear hnq hnq' hkl hkl'
    go_upto_region 6 with fail
    by_cases hqq : q.ab = q'.ab
    ·have EQ : Hk ((⟨q.t, q.p, abC q.l⟩ : In) = ⟨q'.t, q'.p, abC q'.l⟩ ↔ true = true) := ⟨⟨fun _ => rfl, fun _ => hqq⟩⟩
     have HP2 : Hk (abI (l.take (k + 1)) = abI (l'.take (k + 1))) := ⟨by rw [HSN.out, HSN'.out, HP.out, hqq]⟩
     clear hqq HNE HSN HSN' HP
     as_aux_lemma =>
      refine wp_region_held_drew (S := (fun X => (∀ b o, b < w.heap.size → X.cell? ⟨b, o, none⟩ = w.cell? ⟨b, o, none⟩) ∧ Below w.heap.size w X)) (by kernel_rfl) ?_ (fun hHeld => ?_)
      ·exact kw_S HB.out.drew
      have HI : Ix [0, 1, 2, 3, 4, 5, 6, 7] := trivial
      iterate 8 (refine tkA HI (v := ?_) rfl (by kernel_rfl) (fun _ _ _ h => h) (.inl ⟨by rfl, fun wX hSw => ?_⟩) hHeld (fun HJ => ?_); rotate_left; (focus ((try dsimp only at hSw); go_simp; try with_reducible rfl)); clear HI; have HI := HJ; clear HJ; try simp only [Act.put, jjA, jjB, jjC, jjD, jjE, jjF])
      clear HI
      refine wpAnyH_ready (rs := [8]) (by kernel_rfl) (by simp) ?_
      refine AllReadyH.cons rfl (fun K hK => ?_) (AllReadyH.nil)
      go_simp
      ((go_at_call 23; (with_reducible refine (eqin_as true q.t q.p q.a q.n q.c q.l q'.t q'.p q'.a q'.n q'.c q'.l _ (by first | exact (HN.out.below HB.out (Nat.le_refl _)).mono HB.out.size | exact (HN.out.below HB.out.drew (Nat.le_refl _)).mono HB.out.drew.size) (by first | exact (HN'.out.below HB.out (Nat.le_refl _)).mono HB.out.size | exact (HN'.out.below HB.out.drew (Nat.le_refl _)).mono HB.out.drew.size) HM.out HM'.out EQ).mono ?_); rintro e z ⟨rfl, hb⟩; have hB2 : Hk (Below w.heap.size w z) := ⟨by first | exact kw_step HB.out (Nat.le_refl _) hb | exact kw_step HB.out.drew (Nat.le_refl _) hb⟩; clear hb; replace HB := hB2; clear hB2))
      refine hK.out _ _ ?_ (fun hHeld => ?_)
      ·exact kw_S HB.out
      clear hK K
      (try simp only [Act.put, jjA, jjB, jjC, jjD, jjE, jjF])
      have HI : Ix [9] := trivial
      (refine tkA HI (v := ?_) rfl (by kernel_rfl) (fun _ _ _ h => h) (.inl ⟨by rfl, fun wX hSw => ?_⟩) hHeld (fun HJ => ?_); rotate_left; (focus ((try dsimp only at hSw); go_simp; try with_reducible rfl)); clear HI; have HI := HJ; clear HJ; try simp only [Act.put, jjA, jjB, jjC, jjD, jjE, jjF])
      clear HI
      refine wpAnyH_done (by kernel_rfl) ?_ _
      go_wp2
      exact ⟨⟨k + 1, by go_num, HLT.out, HP2, HB⟩, by first | exact nx_ms HLT.out | exact nx_ms' HLT.out⟩
    ·have EQ : Hk ((⟨q.t, q.p, abC q.l⟩ : In) = ⟨q'.t, q'.p, abC q'.l⟩ ↔ false = true) := ⟨⟨fun h => absurd h hqq, fun h => by cases h⟩⟩
     have hr : r = false := HNE.out hqq
     subst hr
     clear hqq HNE
     as_aux_lemma =>
      refine wp_region_held_drew (S := (fun X => (∀ b o, b < w.heap.size → X.cell? ⟨b, o, none⟩ = w.cell? ⟨b, o, none⟩) ∧ Below w.heap.size w X)) (by kernel_rfl) ?_ (fun hHeld => ?_)
      ·exact kw_S HB.out.drew
      have HI : Ix [0, 1, 2, 3, 4, 5, 6, 7] := trivial
      iterate 8 (refine tkA HI (v := ?_) rfl (by kernel_rfl) (fun _ _ _ h => h) (.inl ⟨by rfl, fun wX hSw => ?_⟩) hHeld (fun HJ => ?_); rotate_left; (focus ((try dsimp only at hSw); go_simp; try with_reducible rfl)); clear HI; have HI := HJ; clear HJ; try simp only [Act.put, jjA, jjB, jjC, jjD, jjE, jjF])
      clear HI
      refine wpAnyH_ready (rs := [8]) (by kernel_rfl) (by simp) ?_
      refine AllReadyH.cons rfl (fun K hK => ?_) (AllReadyH.nil)
      go_simp
      ((go_at_call 23; (with_reducible refine (eqin_as false q.t q.p q.a q.n q.c q.l q'.t q'.p q'.a q'.n q'.c q'.l _ (by first | exact (HN.out.below HB.out (Nat.le_refl _)).mono HB.out.size | exact (HN.out.below HB.out.drew (Nat.le_refl _)).mono HB.out.drew.size) (by first | exact (HN'.out.below HB.out (Nat.le_refl _)).mono HB.out.size | exact (HN'.out.below HB.out.drew (Nat.le_refl _)).mono HB.out.drew.size) HM.out HM'.out EQ).mono ?_); rintro e z ⟨rfl, hb⟩; have hB2 : Hk (Below w.heap.size w z) := ⟨by first | exact kw_step HB.out (Nat.le_refl _) hb | exact kw_step HB.out.drew (Nat.le_refl _) hb⟩; clear hb; replace HB := hB2; clear hB2))
      refine hK.out _ _ ?_ (fun hHeld => ?_)
      ·exact kw_S HB.out
      clear hK K
      (try simp only [Act.put, jjA, jjB, jjC, jjD, jjE, jjF])
      have HI : Ix [9] := trivial
      (refine tkA HI (v := ?_) rfl (by kernel_rfl) (fun _ _ _ h => h) (.inl ⟨by rfl, fun wX hSw => ?_⟩) hHeld (fun HJ => ?_); rotate_left; (focus ((try dsimp only at hSw); go_simp; try with_reducible rfl)); clear HI; have HI := HJ; clear HJ; try simp only [Act.put, jjA, jjB, jjC, jjD, jjE, jjF])
      clear HI
      refine wpAnyH_done (by kernel_rfl) ?_ _
      go_wp2
      go_ret
      exact ⟨rfl, HB.out⟩
   ·obtain rfl : k = n := by omega
    have hr : r = true := E.out.1 (by have := HP.out; rwa [List.take_of_length_le (by rw [HL.out]; exact Nat.le_refl _), List.take_of_length_le (by rw [HL'.out]; exact Nat.le_refl _)] at this)
    subst hr
    go_wp2
    go_ret
    exact ⟨rfl, HB.out⟩
 ·have hr : r = false := by
   cases r
   ·rfl
   ·have := congrArg List.length (E.out.2 rfl)
    rw [abI_len, abI_len, HL.out, HL'.out] at this
    exact absurd this hnn
  subst hr
  have hd : ((n : Int) != (n' : Int)) = true := by simp; omega
  go_enter Tryz.func72, Tryz.ntmps72
  go_wp2
  go_ret
  exact ⟨rfl, Below.refl _ _⟩
end Go.Proofs.YtdpblimhfmfbnaaGreat
namespace Go.Proofs.YtdpblimhfmfbnaaGreat
open Go.RowKit Go.Deep
end Go.Proofs.YtdpblimhfmfbnaaGreat
