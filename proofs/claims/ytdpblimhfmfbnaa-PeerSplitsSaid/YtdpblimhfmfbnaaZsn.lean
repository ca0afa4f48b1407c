import Derived.Deep.QuietTactic
import Derived.BigQuiet
import Derived.Deep.RegionWith
import Derived.Deep.RegionHeld3
import Derived.Deep.DeepCutAuto
import Derived.Deep.DeepFit
import Derived.Outline
import Derived.Test.YtdpblimhfmfbnaaZsm
set_option linter.unusedVariables false
set_option linter.unusedSimpArgs false
namespace Go.Proofs.Ytdpblimhfmfbnaa
open Go.ChangeShapes Go.WideShapes Go.ChangeAt Go.RowKit Go.Deep
theorem getD_setC {l : List Cv} {k j : Nat} {x : Cv} (hk : k < l.length) : (l.set k x).getD j default = if j = k then x else l.getD j default := by
 by_cases e : j = k
 ·subst e; rw [if_pos rfl]; simp [List.getD, hk]
 ·rw [if_neg e]; simp [List.getD, List.getElem?_set_ne (Ne.symm e)]
theorem abC_set {l : List Cv} {k : Nat} {x : Cv} (hk : k < l.length) (e : x.ab = (l.getD k default).ab) : abC (l.set k x) = abC l := by
 unfold abC
 rw [List.map_set, e]
 refine List.ext_getElem? fun j => ?_
 by_cases h : k = j
 ·subst h; rw [getD_mapC hk]; simp [hk]
 ·rw [List.getElem?_set_ne h]
theorem getD_setI {l : List Iv} {k j : Nat} {x : Iv} (hk : k < l.length) : (l.set k x).getD j default = if j = k then x else l.getD j default := by
 by_cases e : j = k
 ·subst e; rw [if_pos rfl]; simp [List.getD, hk]
 ·rw [if_neg e]; simp [List.getD, List.getElem?_set_ne (Ne.symm e)]
theorem abI_set {l : List Iv} {k : Nat} {x : Iv} (hk : k < l.length) (e : x.ab = (l.getD k default).ab) : abI (l.set k x) = abI l := by
 unfold abI
 rw [List.map_set, e]
 refine List.ext_getElem? fun j => ?_
 by_cases h : k = j
 ·subst h; simp [hk]
 ·rw [List.getElem?_set_ne h]
set_option maxRecDepth 100000 in
set_option maxHeartbeats 1600000 in
theorem cpcs_any (a : Option Addr) (n c : Nat) (l : List Cv) (w : World) (h : CmD w w.heap.size a n l) (hs : SmC l) :
  Calls Try.prog 54 #[.slice a n c] w fun e w' => ∃ v L, e = .returned v ∧ OwC w' w.heap.size v n L ∧ abC L = abC l ∧ Below w.heap.size w w' := by
 have HH := Hk.mk h
 have hlen := h.q.len
 have HL := Hk.mk hlen
 have hn : n ≤ 1048576 := by have := hs.n; omega
 have HS := Hk.mk hs
 clear h hlen hs
 go_enter Try.func54, Try.ntmps54
 go_wp2_with (go_at_call 68; (with_reducible refine (clonec_any a n c w.heap.size l _ HH.out.q (Nat.le_refl _) hn).mono ?_); rintro e z ⟨v, rfl, ho, hb⟩; obtain ⟨a1, c1, rfl, hg⟩ := ho.form; have HG := Hk.mk hg; have HO := Hk.mk ho; have HB := Hk.mk hb; clear ho hb hg)
 have HST : Hk (Ow shC 50 z w.heap.size (.slice a1 n c1) n l ∧ abC l = abC l ∧ (∀ j, j < 0 → OwE z w.heap.size (l.getD j default).a (l.getD j default).m (l.getD j default).c (l.getD j default).u) ∧ (∀ j, 0 ≤ j → l.getD j default = l.getD j default)) := ⟨HO.out, rfl, fun j hj => absurd hj (by omega), fun _ _ => rfl⟩
 clear HO
 obtain ⟨wo, hwo⟩ : ∃ wo : World, wo = z := ⟨z, rfl⟩
 go_loopw [8] (fun i wr => ∃ (k : Nat) (L : List Cv), i = .int .i64 k ∧ k ≤ n ∧ Hk (Ow shC 50 wr w.heap.size (.slice a1 n c1) n L ∧ abC L = abC l ∧ (∀ j, j < k → OwE wr w.heap.size (L.getD j default).a (L.getD j default).m (L.getD j default).c (L.getD j default).u) ∧ (∀ j, k ≤ j → L.getD j default = l.getD j default)) ∧ Hk (Below w.heap.size w wr)) (fun i _ => n - (intOf i).toNat)
 case atStart => exact ⟨0, l, rfl, Nat.zero_le _, HST, HB⟩
 case round =>
  clear HST HB hwo wo
  obtain ⟨k, L, rfl, hk, HST, HB⟩ := hrel
  by_cases hlt : k < n
  ·obtain ⟨g, rfl, hg1, -⟩ := HG.out (by omega)
   have HG1 := Hk.mk hg1
   obtain ⟨ho, hab, hdn, hup⟩ := HST.out
   have hkl : k < L.length := by rw [ho.len]; exact hlt
   have hkl' : k < l.length := by rw [HL.out]; exact hlt
   have hq := hup k (Nat.le_refl _)
   have hnq := HH.out.u _ (getD_memC hkl')
   have hm := HS.out.m _ (getD_memC hkl')
   have hLk : L[k] = L.getD k default := by simp [List.getD, hkl]
   have c4 : wr.cell? ⟨g, k * 10 + 4, none⟩ = some (.slice (L.getD k default).a (L.getD k default).m (L.getD k default).c) := by
    obtain ⟨b', off', e, _, hc⟩ := ho.qv.rd (by omega)
    injection e with e
    injection e with e1 e2
    subst e1 e2
    have := hc k hkl 4 (by decide)
    rw [hLk] at this
    simpa [shC, Cv.cs] using this
   have fz := ho.row.frozenAt (k * 10 + 4)
   have hgl : g < wr.heap.size := World.block_lt_of_cell? _ _ c4
   rw [← hq] at hnq hm
   obtain ⟨q, hqq⟩ : ∃ q, L.getD k default = q := ⟨_, rfl⟩
   rw [hqq] at c4 hnq hm hLk
   have HN := Hk.mk ((hnq.below HB.out (Nat.le_refl _)).mono HB.out.size).qv
   have hm20 : q.m ≤ 1048576 := hm
   have HQ := Hk.mk hqq
   have HKL := Hk.mk hkl
   have t0 : (0 : Int) ≤ (k : Int) := by omega
   have t1 : (k : Int) < (n : Int) := by omega
   have HLT := Hk.mk hlt
   have gk : IntKind.i64.wrap ((k : Int) + 1) = ((k + 1 : Nat) : Int) := by push_cast; exact wr27 (by omega) (by omega)
   clear ho hab hdn hup hq hnq hm hLk hqq hkl hkl' hg1 hlt hk
   as_aux_lemma =>
    go_wp2_with (go_at_call 52; (with_reducible refine (clonez_any q.a q.m q.c wr.heap.size q.u _ HN.out (Nat.le_refl _) hm20).mono ?_); rintro e z ⟨v, rfl, ho, hb⟩; obtain ⟨a2, c2, rfl, -, -⟩ := ho.owni.nq; have HOI := Hk.mk ho.owni; have HB2 := Hk.mk hb; have cz := (hb.cell (p := ⟨g, k * 10 + 4, none⟩) hgl).trans c4; have fz2 := (hb.frozen (p := ⟨g, k * 10 + 4, none⟩) hgl).trans fz; clear ho hb)
    have HE : Hk (∃ L2, Ow shC 50 (z.setCell ⟨g, k * 10 + 4, none⟩ (.slice a2 q.m c2)) w.heap.size (.slice (some ⟨g, 0, none⟩) n c1) n L2 ∧ abC L2 = abC l ∧ (∀ j, j < k + 1 → OwE (z.setCell ⟨g, k * 10 + 4, none⟩ (.slice a2 q.m c2)) w.heap.size (L2.getD j default).a (L2.getD j default).m (L2.getD j default).c (L2.getD j default).u) ∧ (∀ j, k + 1 ≤ j → L2.getD j default = l.getD j default)) := ⟨by
     obtain ⟨ho, hab, hdn, hup⟩ := HST.out
     have hkl := HKL.out
     have hLk : L[k] = q := by rw [← HQ.out]; simp [List.getD, hkl]
     have hoz := ho.below HB2.out
     obtain ⟨cur, fr, hty⟩ := hoz.typ (j := g) rfl
     have hFr : Fr (fun j => j = g) z (z.setCell ⟨g, k * 10 + 4, none⟩ (.slice a2 q.m c2)) := Fr.setCell (p := ⟨g, k * 10 + 4, none⟩) (Fr.refl (fun j => j = g) z) (fun _ => rfl) _
     have hI : ∀ j cur fr, z.heap[j]? = some (.cells cur 3 fr) → ¬ j = g := fun j cur' fr' e hj => by
      subst hj
      rw [hty] at e
      injection e with e
      injection e with _ e
      exact absurd e (by decide)
     refine ⟨L.set k { q with a := a2, c := c2 }, hoz.set (S := shC) (j := 4) hkl (by decide) (by rw [hLk]; rfl), ?_, fun j hj => ?_, fun j hj => ?_⟩
     ·rw [abC_set hkl (by rw [HQ.out]; rfl), hab]
     ·rw [getD_setC hkl]
      by_cases e : j = k
      ·rw [if_pos e]; exact OwE.keep (.inl (HOI.out.weak HB.out.size)) hFr hI
      ·rw [if_neg e]; exact ((hdn j (by omega)).below HB2.out).keep hFr hI
     ·rw [getD_setC hkl, if_neg (by omega)]; exact hup j (by omega)⟩
    have HB3 : Hk (Below w.heap.size w (z.setCell ⟨g, k * 10 + 4, none⟩ (.slice a2 q.m c2))) := ⟨(kw_step HB.out (Nat.le_refl _) HB2.out).setCell HG1.out _⟩
    obtain ⟨L2, hE⟩ := HE.out
    have HE2 := Hk.mk hE
    clear HE hE HST HB HOI HB2 cz fz2 c4 fz
    go_wp2
    exact ⟨⟨k + 1, L2, by go_num, HLT.out, HE2, HB3⟩, by first | exact nx_ms HLT.out | exact nx_ms' HLT.out⟩
  ·obtain rfl : k = n := by omega
   have HF : Hk (OwC wr w.heap.size (.slice a1 k c1) k L) := ⟨HST.out.1, all_getC fun j hj => HST.out.2.2.1 j (by rw [← HST.out.1.len]; exact hj)⟩
   go_wp2
   go_ret
   exact ⟨_, L, rfl, HF.out, HST.out.2.1, HB.out⟩
set_option maxRecDepth 100000 in
set_option maxHeartbeats 1600000 in
theorem cpin_any (t p : Int) (a : Option Addr) (n c : Nat) (l : List Cv) (w : World) (h : CmD w w.heap.size a n l) (hs : SmC l) :
  Calls Try.prog 28 #[.agg #[.int .i64 t, .int .i64 p, .slice a n c]] w fun e w' => ∃ a2 c2 L, e = .returned (.agg #[.int .i64 t, .int .i64 p, .slice a2 n c2]) ∧ OwC w' w.heap.size (.slice a2 n c2) n L ∧ abC L = abC l ∧ Below w.heap.size w w' := by
 have HBW : Hk (Below w.heap.size w ((w.alloc (.cells #[.int .i64 t, .int .i64 p, .slice a n c] 55)).alloc (.cells #[.int .i64 0, .int .i64 0, .slice none 0 0] 55))) := ⟨((Below.refl _ _).alloc (Nat.le_refl _) _).alloc (by simp) _⟩
 have hs3 : w.heap.size ≤ ((w.alloc (.cells #[.int .i64 t, .int .i64 p, .slice a n c] 55)).alloc (.cells #[.int .i64 0, .int .i64 0, .slice none 0 0] 55)).heap.size := by simp; omega
 have HN3 := Hk.mk ((h.below HBW.out (Nat.le_refl _)).mono hs3)
 have HX : Hk (Bk ((w.alloc (.cells #[.int .i64 t, .int .i64 p, .slice a n c] 55)).alloc (.cells #[.int .i64 0, .int .i64 0, .slice none 0 0] 55)) w.heap.size #[.int .i64 t, .int .i64 p, .slice a n c]) := ⟨(Bk.new w #[.int .i64 t, .int .i64 p, .slice a n c] 55).al (.cells #[.int .i64 0, .int .i64 0, .slice none 0 0] 55)⟩
 have HZ : Hk (Bk ((w.alloc (.cells #[.int .i64 t, .int .i64 p, .slice a n c] 55)).alloc (.cells #[.int .i64 0, .int .i64 0, .slice none 0 0] 55)) (w.heap.size + 1) #[.int .i64 0, .int .i64 0, .slice none 0 0]) := ⟨by have := Bk.new (w.alloc (.cells #[.int .i64 t, .int .i64 p, .slice a n c] 55)) #[.int .i64 0, .int .i64 0, .slice none 0 0] 55; simpa using this⟩
 have HSM := Hk.mk hs
 clear h hs hs3
 go_enter Try.func28, Try.ntmps28
 go_wp2_with (go_at_call 54; (with_reducible refine (cpcs_any a n c l _ HN3.out HSM.out).mono ?_); rintro e w1 ⟨v, L, rfl, ho, hab, hb⟩; obtain ⟨a2, c2, rfl⟩ := ho.form; have HO := Hk.mk ho; have HAB := Hk.mk hab; have HB1 := Hk.mk hb; have hx := HX.out.below hb; have hz := HZ.out.below hb; have c0 := hx.c 0; have c1 := hx.c 1; have cc2 := hx.c 2; have z0 := hz.c 0; have z1 := hz.c 1; have z2 := hz.c 2; have fx := hx.f 2; have g0 := hz.f 0; have g1 := hz.f 1; have g2 := hz.f 2; have hl1 := hx.lt; have hl2 := hz.lt; clear ho hab hb hx hz)
 refine bodyPost_ret (v := .agg #[.int .i64 t, .int .i64 p, .slice a2 n c2]) (by simp [results, Try.results28, go_sem, z0, z1, z2]) rfl ⟨a2, c2, L, rfl, ?_, HAB.out, ?_⟩
 ·refine OwC.weak (OwC.up (M := fun j => j = w.heap.size + 1 ∨ j = w.heap.size) HO.out ?_ ?_) (by simp <;> omega)
  ·refine Fr.setCell ?_ (fun _ => .inl rfl) _; refine Fr.setCell ?_ (fun _ => .inl rfl) _; refine Fr.setCell ?_ (fun _ => .inl rfl) _; exact Fr.setCell (Fr.refl _ _) (fun _ => .inr rfl) _
  ·intro j hj h
   simp at hj; omega
 ·refine Fr.below (M := fun j => j = w.heap.size + 1 ∨ j = w.heap.size ∨ w.heap.size + 2 ≤ j) ?_ (Nat.le_refl _) (fun j hj h => by omega)
  refine Fr.setCell ?_ (fun h => .inl rfl) _; refine Fr.setCell ?_ (fun h => .inl rfl) _; refine Fr.setCell ?_ (fun h => .inl rfl) _; refine Fr.setCell ?_ (fun h => .inr (.inl rfl)) _
  exact ((Fr.of_below HBW.out).mono (fun j hj h => by omega)).andThen (Fr.of_below HB1.out) (fun j hj h => by simp at h; omega)
set_option maxRecDepth 100000 in
set_option maxHeartbeats 1600000 in
theorem cpins_any (a : Option Addr) (n c : Nat) (l : List Iv) (w : World) (h : InD w w.heap.size a n l) (hs : SmI l) :
  Calls Try.prog 51 #[.slice a n c] w fun e w' => ∃ v L, e = .returned v ∧ OwN w' w.heap.size v n L ∧ abI L = abI l ∧ Below w.heap.size w w' := by
 have HH := Hk.mk h
 have hlen := h.q.len
 have HL := Hk.mk hlen
 have hn : n ≤ 1048576 := by have := hs.n; omega
 have HS := Hk.mk hs
 clear h hlen hs
 go_enter Try.func51, Try.ntmps51
 go_wp2_with (go_at_call 58; (with_reducible refine (clonei_any a n c w.heap.size l _ HH.out.q (Nat.le_refl _) hn).mono ?_); rintro e z ⟨v, rfl, ho, hb⟩; obtain ⟨a1, c1, rfl, hg⟩ := ho.form; have HG := Hk.mk hg; have HO := Hk.mk ho; have HB := Hk.mk hb; clear ho hb hg)
 have HST : Hk (Ow shI 55 z w.heap.size (.slice a1 n c1) n l ∧ abI l = abI l ∧ (∀ j, j < 0 → OwCE z w.heap.size (l.getD j default).a (l.getD j default).n (l.getD j default).c (l.getD j default).l) ∧ (∀ j, 0 ≤ j → l.getD j default = l.getD j default)) := ⟨HO.out, rfl, fun j hj => absurd hj (by omega), fun _ _ => rfl⟩
 clear HO
 obtain ⟨wo, hwo⟩ : ∃ wo : World, wo = z := ⟨z, rfl⟩
 go_loopw [8] (fun i wr => ∃ (k : Nat) (L : List Iv), i = .int .i64 k ∧ k ≤ n ∧ Hk (Ow shI 55 wr w.heap.size (.slice a1 n c1) n L ∧ abI L = abI l ∧ (∀ j, j < k → OwCE wr w.heap.size (L.getD j default).a (L.getD j default).n (L.getD j default).c (L.getD j default).l) ∧ (∀ j, k ≤ j → L.getD j default = l.getD j default)) ∧ Hk (Below w.heap.size w wr)) (fun i _ => n - (intOf i).toNat)
 case atStart => exact ⟨0, l, rfl, Nat.zero_le _, HST, HB⟩
 case round =>
  clear HST HB hwo wo
  obtain ⟨k, L, rfl, hk, HST, HB⟩ := hrel
  by_cases hlt : k < n
  ·obtain ⟨g, rfl, hg1, -⟩ := HG.out (by omega)
   have HG1 := Hk.mk hg1
   obtain ⟨ho, hab, hdn, hup⟩ := HST.out
   have hkl : k < L.length := by rw [ho.len]; exact hlt
   have hkl' : k < l.length := by rw [HL.out]; exact hlt
   have hq := hup k (Nat.le_refl _)
   have hnq := HH.out.u _ (getD_memI hkl')
   have HM := HS.out.m _ (getD_memI hkl')
   have hLk : L[k] = L.getD k default := by simp [List.getD, hkl]
   have hcc : wr.cell? ⟨g, k * 3, none⟩ = some (.int .i64 (L.getD k default).t) ∧ wr.cell? ⟨g, k * 3 + 1, none⟩ = some (.int .i64 (L.getD k default).p) ∧ wr.cell? ⟨g, k * 3 + 2, none⟩ = some (.slice (L.getD k default).a (L.getD k default).n (L.getD k default).c) := by
    obtain ⟨b', off', e, _, hc⟩ := ho.qv.rd (by omega)
    injection e with e
    injection e with e1 e2
    subst e1 e2
    have h0 := hc k hkl 0 (by decide)
    have h1 := hc k hkl 1 (by decide)
    have h2 := hc k hkl 2 (by decide)
    rw [hLk] at h0 h1 h2
    exact ⟨by simpa [shI, Iv.cs] using h0, by simpa [shI, Iv.cs] using h1, by simpa [shI, Iv.cs] using h2⟩
   have fz0 := ho.row.frozenAt (k * 3)
   have fz1 := ho.row.frozenAt (k * 3 + 1)
   have fz2 := ho.row.frozenAt (k * 3 + 2)
   rw [← hq] at hnq HM
   obtain ⟨q, hqq⟩ : ∃ q, L.getD k default = q := ⟨_, rfl⟩
   rw [hqq] at hcc hnq HM hLk
   obtain ⟨c0, c1', c2'⟩ := hcc
   have hgl : g < wr.heap.size := World.block_lt_of_cell? _ _ c0
   have HN := Hk.mk ((hnq.below HB.out (Nat.le_refl _)).mono HB.out.size)
   have HMM := Hk.mk HM
   have HQ := Hk.mk hqq
   have HKL := Hk.mk hkl
   have t0 : (0 : Int) ≤ (k : Int) := by omega
   have t1 : (k : Int) < (n : Int) := by omega
   have HLT := Hk.mk hlt
   have gk : IntKind.i64.wrap ((k : Int) + 1) = ((k + 1 : Nat) : Int) := by push_cast; exact wr27 (by omega) (by omega)
   clear ho hab hdn hup hq hnq hLk hqq hkl hkl' hg1 hlt hk HM
   as_aux_lemma =>
    go_wp2_with (go_at_call 28; (with_reducible refine (cpin_any q.t q.p q.a q.n q.c q.l _ HN.out HMM.out).mono ?_); rintro e z ⟨a2, c2, L9, rfl, ho, hab9, hb⟩; have HOI := Hk.mk ho; have HAB9 := Hk.mk hab9; have HB2 := Hk.mk hb; have cz0 := (hb.cell (p := ⟨g, k * 3, none⟩) hgl).trans c0; have cz1 := (hb.cell (p := ⟨g, k * 3 + 1, none⟩) hgl).trans c1'; have cz2 := (hb.cell (p := ⟨g, k * 3 + 2, none⟩) hgl).trans c2'; have fy0 := (hb.frozen (p := ⟨g, k * 3, none⟩) hgl).trans fz0; have fy1 := (hb.frozen (p := ⟨g, k * 3 + 1, none⟩) hgl).trans fz1; have fy2 := (hb.frozen (p := ⟨g, k * 3 + 2, none⟩) hgl).trans fz2; have hgl2 := World.block_lt_of_cell? _ _ cz0; clear ho hb hab9)
    have HE : Hk (∃ L2, Ow shI 55 (((z.setCell ⟨g, k * 3, none⟩ (.int .i64 q.t)).setCell ⟨g, k * 3 + 1, none⟩ (.int .i64 q.p)).setCell ⟨g, k * 3 + 2, none⟩ (.slice a2 q.n c2)) w.heap.size (.slice (some ⟨g, 0, none⟩) n c1) n L2 ∧ abI L2 = abI l ∧ (∀ j, j < k + 1 → OwCE (((z.setCell ⟨g, k * 3, none⟩ (.int .i64 q.t)).setCell ⟨g, k * 3 + 1, none⟩ (.int .i64 q.p)).setCell ⟨g, k * 3 + 2, none⟩ (.slice a2 q.n c2)) w.heap.size (L2.getD j default).a (L2.getD j default).n (L2.getD j default).c (L2.getD j default).l) ∧ (∀ j, k + 1 ≤ j → L2.getD j default = l.getD j default)) := ⟨by
     obtain ⟨ho, hab, hdn, hup⟩ := HST.out
     have hkl := HKL.out
     have hLk : L[k] = q := by rw [← HQ.out]; simp [List.getD, hkl]
     have hoz := ho.below HB2.out
     obtain ⟨cur, fr, hty⟩ := hoz.typ (j := g) rfl
     have hFr : Fr (fun j => j = g) z (((z.setCell ⟨g, k * 3, none⟩ (.int .i64 q.t)).setCell ⟨g, k * 3 + 1, none⟩ (.int .i64 q.p)).setCell ⟨g, k * 3 + 2, none⟩ (.slice a2 q.n c2)) := Fr.setCell (p := ⟨g, k * 3 + 2, none⟩) (Fr.setCell (p := ⟨g, k * 3 + 1, none⟩) (Fr.setCell (p := ⟨g, k * 3, none⟩) (Fr.refl (fun j => j = g) z) (fun _ => rfl) _) (fun _ => rfl) _) (fun _ => rfl) _
     have hI : ∀ (T : TypeId), T ≠ 55 → ∀ j cur fr, z.heap[j]? = some (.cells cur T fr) → ¬ j = g := fun T hT j cur' fr' e hj => by
      subst hj
      rw [hty] at e
      injection e with e
      injection e with _ e
      exact hT e.symm
     have o1 := hoz.set (S := shI) (j := 0) (x := q) (u := .int .i64 q.t) hkl (by decide) (by rw [hLk]; rfl)
     have e1 : L.set k q = L := by rw [← hLk]; exact List.set_getElem_self hkl
     rw [e1] at o1
     have o2 := o1.set (S := shI) (j := 1) (x := q) (u := .int .i64 q.p) hkl (by decide) (by rw [hLk]; rfl)
     rw [e1] at o2
     refine ⟨L.set k { q with a := a2, c := c2, l := L9 }, o2.set (S := shI) (j := 2) hkl (by decide) (by rw [hLk]; rfl), ?_, fun j hj => ?_, fun j hj => ?_⟩
     ·rw [abI_set hkl (by rw [HQ.out]; show (⟨q.t, q.p, abC L9⟩ : In) = ⟨q.t, q.p, abC q.l⟩; rw [HAB9.out]), hab]
     ·rw [getD_setI hkl]
      by_cases e : j = k
      ·rw [if_pos e]; exact OwCE.keep (.inl (HOI.out.weak HB.out.size)) hFr (hI _ (by decide)) (hI _ (by decide))
      ·rw [if_neg e]; exact ((hdn j (by omega)).below HB2.out).keep hFr (hI _ (by decide)) (hI _ (by decide))
     ·rw [getD_setI hkl, if_neg (by omega)]; exact hup j (by omega)⟩
    have HB3 : Hk (Below w.heap.size w (((z.setCell ⟨g, k * 3, none⟩ (.int .i64 q.t)).setCell ⟨g, k * 3 + 1, none⟩ (.int .i64 q.p)).setCell ⟨g, k * 3 + 2, none⟩ (.slice a2 q.n c2))) := ⟨Below.setCell (p := ⟨g, k * 3 + 2, none⟩) (Below.setCell (p := ⟨g, k * 3 + 1, none⟩) (Below.setCell (p := ⟨g, k * 3, none⟩) (kw_step HB.out (Nat.le_refl _) HB2.out) HG1.out _) HG1.out _) HG1.out _⟩
    obtain ⟨L2, hE⟩ := HE.out
    have HE2 := Hk.mk hE
    clear HE hE HST HB HOI HB2 cz0 cz1 cz2 fy0 fy1 fy2 c0 c1' c2' fz0 fz1 fz2
    go_wp2
    exact ⟨⟨k + 1, L2, by go_num, HLT.out, HE2, HB3⟩, by first | exact nx_ms HLT.out | exact nx_ms' HLT.out⟩
  ·obtain rfl : k = n := by omega
   have HF : Hk (OwN wr w.heap.size (.slice a1 k c1) k L) := ⟨HST.out.1, all_getI fun j hj => HST.out.2.2.1 j (by rw [← HST.out.1.len]; exact hj)⟩
   go_wp2
   go_ret
   exact ⟨_, L, rfl, HF.out, HST.out.2.1, HB.out⟩
end Go.Proofs.Ytdpblimhfmfbnaa
