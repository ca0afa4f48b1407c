import Derived.Deep.QuietTactic
import Derived.BigQuiet
import Derived.Deep.RegionWith
import Derived.Deep.RegionHeld3
import Derived.Deep.DeepCutAuto
import Derived.Deep.DeepFit
import Derived.Outline
import Derived.Test.YtdpblimhfmfbnaaZsx
import Derived.Test.YtdpblimhfmfbnaaZsz
import Derived.Maps.AppendAt
import Derived.Test.YtdpblimhfmfbnaaZsy
import Derived.OwnWalk
import Derived.Deep.MidRow
import Derived.Test.YtdpblimhfmfbnaaZsa
set_option linter.unusedVariables false
set_option linter.unusedSimpArgs false
namespace Go.Proofs.Ytdpblimhfmfbnaa
open Go.ChangeShapes Go.WideShapes Go.ChangeAt Go.RowKit Go.Deep
end Go.Proofs.Ytdpblimhfmfbnaa
namespace Go.Proofs.Ytdpblimhfmfbnaa
open Go.ChangeShapes Go.WideShapes Go.ChangeAt Go.RowKit Go.Deep
structure TkR (w : World) (B : Nat) (v : Value) (n : Nat) (l : List Iv) (v' : Value) (n' : Nat) (l' : List Iv) : Prop where
 a : OwN w B v n l
 b : OwN w B v' n' l'
 ds : ∀ j, v.ownBlock = some j → ¬ v'.ownBlock = some j
theorem TkR.swap {w : World} {B n n' : Nat} {v v' : Value} {l l' : List Iv} (h : TkR w B v n l v' n' l') : TkR w B v' n' l' v n l := ⟨h.b, h.a, fun j h1 h2 => h.ds j h2 h1⟩
theorem TkR.below {w z : World} {B n n' : Nat} {v v' : Value} {l l' : List Iv} (h : TkR w B v n l v' n' l') (hb : Below w.heap.size w z) : TkR z B v n l v' n' l' := ⟨h.a.below hb, h.b.below hb, h.ds⟩
theorem TkR.nil (w : World) (B : Nat) : TkR w B (.slice none 0 0) 0 [] (.slice none 0 0) 0 [] := ⟨OwN.nil _ _, OwN.nil _ _, fun j h => by simp [Value.ownBlock] at h⟩
theorem TkR.step {z z2 : World} {B n n' : Nat} {v v' v2 : Value} {l l' : List Iv} {q : Iv} {o : Obj} (h : TkR z B v n l v' n' l') (hq : OwC z B (.slice q.a q.n q.c) q.n q.l) (ho : z2.ownsRow B 55 3 v2 (n + 1) (flt shI l ++ q.cs)) (hg : (z.alloc o).grownBy z2 v.ownBlock) (hat : v2.ownBlock = v.ownBlock ∨ v2.ownBlock = some (z.heap.size + 1)) : TkR z2 B v2 (n + 1) (l ++ [q]) v' n' l' := by
 have hFr : Fr (fun j => v.ownBlock = some j) z z2 := ((Fr.refl _ z).alloc _).grown hg (fun j _ h => h)
 have hI : ∀ (T : TypeId), T ≠ 55 → ∀ j cur fr, z.heap[j]? = some (.cells cur T fr) → ¬ v.ownBlock = some j := fun T hT j cur fr e hj => by
  obtain ⟨cur', fr', e'⟩ := h.a.o.typ hj
  rw [e] at e'
  injection e' with e'
  injection e' with _ e'
  exact hT e'
 refine ⟨OwN.snoc h.a ho (fun x hx => (h.a.u x hx).keep hFr (hI _ (by decide)) (hI _ (by decide))) (.inl (hq.keep hFr (hI _ (by decide)) (hI _ (by decide)))), ⟨h.b.o.fr hFr fun j hj hj2 => h.ds j hj2 hj, fun x hx => (h.b.u x hx).keep hFr (hI _ (by decide)) (hI _ (by decide))⟩, fun j h1 h2 => ?_⟩
 rcases hat with e | e
 ·exact h.ds j (e ▸ h1) h2
 ·rw [e] at h1
  have h3 := (h.b.o.lt j h2).2
  simp at h1
  omega
theorem fl_yes {l : List Iv} {k : Nat} {t : Int} {x : In} {M : List Iv} {q : Iv} (hs : abI (l.take (k + 1)) = abI (l.take k) ++ [x]) (p : In → Bool) (hM : abI M = (abI (l.take k)).filter p) (hq : q.ab = x) (hp : p x = true) : abI (M ++ [q]) = (abI (l.take (k + 1))).filter p := by
 rw [hs, List.filter_append, abI_app, hM, List.filter_cons_of_pos hp]
 show _ ++ [q.ab] = _
 rw [hq]; rfl
theorem fl_no {l : List Iv} {k : Nat} {x : In} {M : List Iv} (hs : abI (l.take (k + 1)) = abI (l.take k) ++ [x]) (p : In → Bool) (hM : abI M = (abI (l.take k)).filter p) (hp : ¬ p x = true) : abI M = (abI (l.take (k + 1))).filter p := by
 rw [hs, List.filter_append, hM, List.filter_cons_of_neg hp, List.filter_nil, List.append_nil]
end Go.Proofs.Ytdpblimhfmfbnaa
namespace Go.Proofs.Ytdpblimhfmfbnaa
open Go.ChangeShapes Go.WideShapes Go.ChangeAt Go.RowKit Go.Deep
set_option maxRecDepth 100000 in
set_option maxHeartbeats 3200000 in
theorem take_yes (t : Int) (a : Option Addr) (n c : Nat) (l : List Iv) (w : World) (h : InD w w.heap.size a n l) (hs : SmI l) (E : Hk (ordN none (abI l) = true)) :
  Calls Try.prog 35 #[.slice a n c, .int .i64 t] w fun e w' => ∃ s1 n1 e1 s2 n2 e2 M1 M2, e = .returned (.tuple #[.slice s1 n1 e1, .slice s2 n2 e2, .int .i64 0]) ∧ TkR w' w.heap.size (.slice s1 n1 e1) n1 M1 (.slice s2 n2 e2) n2 M2 ∧ abI M1 = (abI l).filter (fun x => x.t == t) ∧ abI M2 = (abI l).filter (fun x => !(x.t == t)) ∧ Below w.heap.size w w' := by
 obtain ⟨i0, hi, hz0, hz1, hz2⟩ := info_parts info_in
 have HH := Hk.mk h
 have hlen := h.q.len
 have HL := Hk.mk hlen
 have hn : n ≤ 1048576 := by have := hs.n; omega
 have HS := Hk.mk hs
 have HB : Hk (Below w.heap.size w w) := ⟨Below.refl _ _⟩
 clear h hlen hs
 go_enter Try.func35, Try.ntmps35
 go_wp2_with (go_at_call 46; (with_reducible refine (ordered_as true a n c l _ HH.out HS.out E).mono ?_); rintro e z ⟨rfl, hb⟩; replace HB := Hk.mk hb; clear hb)
 obtain ⟨wo, hwo⟩ : ∃ wo : World, wo = z := ⟨_, rfl⟩
 go_loopw [4, 5, 14] (fun x y i wr => ∃ (k n1 n2 e1 e2 : Nat) (M1 M2 : List Iv) (s1 s2 : Option Addr), x = .slice s1 n1 e1 ∧ y = .slice s2 n2 e2 ∧ i = .int .i64 k ∧ k ≤ n ∧ Hk (TkR wr w.heap.size (.slice s1 n1 e1) n1 M1 (.slice s2 n2 e2) n2 M2 ∧ abI M1 = (abI (l.take k)).filter (fun x => x.t == t) ∧ abI M2 = (abI (l.take k)).filter (fun x => !(x.t == t)) ∧ n1 ≤ k ∧ n2 ≤ k) ∧ Hk (Below w.heap.size w wr)) (fun _ _ i _ => n - (intOf i).toNat)
 case atStart => exact ⟨0, 0, 0, 0, 0, [], [], none, none, rfl, rfl, rfl, Nat.zero_le _, ⟨TkR.nil _ _, rfl, rfl, Nat.le_refl _, Nat.le_refl _⟩, HB⟩
 case round =>
  clear HB hwo wo
  obtain ⟨k, n1, n2, e1, e2, M1, M2, s1, s2, rfl, rfl, rfl, hk, HR, HB⟩ := hrel
  by_cases hlt : k < n
  ·obtain ⟨b, off, rfl, hbl, ⟨p0, p1, p2⟩, hnq⟩ := (HH.out.below HB.out (Nat.le_refl _)).three hlt
   have HM := Hk.mk (HS.out.m _ (getD_memI (show k < l.length by rw [HL.out]; exact hlt)))
   have HSN : Hk (abI (l.take (k + 1)) = abI (l.take k) ++ [(l.getD k default).ab]) := ⟨abI_snoc (by rw [HL.out]; exact hlt)⟩
   generalize l.getD k default = q at *
   have HN : Hk (CmD (wr.alloc (.cells #[.int .i64 q.t, .int .i64 q.p, .slice q.a q.n q.c] 55)) (wr.alloc (.cells #[.int .i64 q.t, .int .i64 q.p, .slice q.a q.n q.c] 55)).heap.size q.a q.n q.l) := ⟨((hnq.mono HB.out.size).below ((Below.refl _ _).alloc (Nat.le_refl _) (.cells #[.int .i64 q.t, .int .i64 q.p, .slice q.a q.n q.c] 55)) (Nat.le_refl _)).mono (by simp)⟩
   have hbr : b < wr.heap.size := Nat.lt_of_lt_of_le hbl HB.out.size
   have t0 : (0 : Int) ≤ (k : Int) := by omega
   have t1 : (k : Int) < (n : Int) := by omega
   have HLT := Hk.mk hlt
   have HTX := Hk.mk (HR.out.1.below ((Below.refl _ _).alloc (Nat.le_refl _) (.cells #[.int .i64 q.t, .int .i64 q.p, .slice q.a q.n q.c] 55)))
   have hk1 := HR.out.2.2.2.1
   have hk2 := HR.out.2.2.2.2
   have HBX := Hk.mk (HB.out.alloc HB.out.size (.cells #[.int .i64 q.t, .int .i64 q.p, .slice q.a q.n q.c] 55))
   have gk : IntKind.i64.wrap ((k : Int) + 1) = ((k + 1 : Nat) : Int) := by push_cast; exact wr27 (by omega) (by omega)
   clear hnq
   cases hq : (q.t == t)
   ·as_aux_lemma =>
     go_wp2_with (first
      | (go_at_call 28; (with_reducible refine (cpin_any q.t q.p q.a q.n q.c q.l _ HN.out HM.out).mono ?_); rintro e z ⟨a2, c2, L2, rfl, ho2, hab2, hb⟩; have HOC := Hk.mk ho2; have HAB := Hk.mk hab2; have HTK := Hk.mk (HTX.out.below hb); have HBZ := Hk.mk (kw_step HBX.out (Nat.le_refl _) hb); have HXS := Hk.mk HBX.out.size; clear ho2 hb hab2; have HOA := Hk.mk (HTK.out.b.o.alloc (.cells #[.int .i64 q.t, .int .i64 q.p, .slice a2 q.n c2] 55)))
      | (at_builtin; go_must (refine wpList_append_own_at _ rfl _ _ 24 rfl w.heap.size 55 i0 (.agg #[.int .i64 0, .int .i64 0, .slice none 0 0]) 3 40 Try.underlying24 hi hz0 hz1 hz2 rfl (by decide) _ n2 (flt shI M2) rfl HOA.out.row ⟨z.heap.size, 0, none⟩ 1 1 (({ q with a := a2, c := c2, l := L2 } : Iv).cs) rfl rfl (lit_at z _ _) (is_one _) (by unfold maxLen; omega) (by omega) ?c5 ?_)))
     case c5 => have := HBZ.out.size; simp; omega
     intro v2 z2 hown2 hgrow hnil hat
     have HT2 := Hk.mk (HTK.out.swap.step (q := { q with a := a2, c := c2, l := L2 }) (HOC.out.weak HXS.out) hown2 hgrow hat)
     obtain ⟨sa2, sc2, rfl, -⟩ := HT2.out.a.o.form
     have HB3 : Hk (Below w.heap.size w z2) := ⟨(HBZ.out.alloc HBZ.out.size (.cells #[.int .i64 q.t, .int .i64 q.p, .slice a2 q.n c2] 55)).grown hgrow (by have := HBZ.out.size; simp; omega) (fun g hg => (HTK.out.b.o.lt g hg).1)⟩
     have HQA : Hk (({ q with a := a2, c := c2, l := L2 } : Iv).ab = q.ab) := ⟨by show (⟨q.t, q.p, abC L2⟩ : In) = ⟨q.t, q.p, abC q.l⟩; rw [HAB.out]⟩
     clear hown2 hgrow hnil hat HTK HOA HBZ
     have HE : Hk (TkR z2 w.heap.size (.slice s1 n1 e1) n1 M1 (.slice sa2 (n2 + 1) sc2) (n2 + 1) (M2 ++ [{ q with a := a2, c := c2, l := L2 }]) ∧ abI M1 = (abI (l.take (k + 1))).filter (fun x => x.t == t) ∧ abI (M2 ++ [{ q with a := a2, c := c2, l := L2 }]) = (abI (l.take (k + 1))).filter (fun x => !(x.t == t)) ∧ n1 ≤ k + 1 ∧ n2 + 1 ≤ k + 1) := ⟨HT2.out.swap, fl_no HSN.out _ HR.out.2.1 (by show ¬ (q.t == t) = true; rw [hq]; decide), fl_yes (t := t) HSN.out _ HR.out.2.2.1 HQA.out (by show (!(q.t == t)) = true; rw [hq]; rfl), by omega, by omega⟩
     clear HT2 HQA HR HB HTX HBX
     go_wp2
     exact ⟨⟨k + 1, n1, n2 + 1, e1, sc2, M1, _, s1, sa2, rfl, by first | rfl | (push_cast; rfl), by go_num, HLT.out, HE, HB3⟩, by first | exact nx_ms HLT.out | exact nx_ms' HLT.out⟩
   ·as_aux_lemma =>
     go_wp2_with (first
      | (go_at_call 28; (with_reducible refine (cpin_any q.t q.p q.a q.n q.c q.l _ HN.out HM.out).mono ?_); rintro e z ⟨a2, c2, L2, rfl, ho2, hab2, hb⟩; have HOC := Hk.mk ho2; have HAB := Hk.mk hab2; have HTK := Hk.mk (HTX.out.below hb); have HBZ := Hk.mk (kw_step HBX.out (Nat.le_refl _) hb); have HXS := Hk.mk HBX.out.size; clear ho2 hb hab2; have HOA := Hk.mk (HTK.out.a.o.alloc (.cells #[.int .i64 q.t, .int .i64 q.p, .slice a2 q.n c2] 55)))
      | (at_builtin; go_must (refine wpList_append_own_at _ rfl _ _ 24 rfl w.heap.size 55 i0 (.agg #[.int .i64 0, .int .i64 0, .slice none 0 0]) 3 40 Try.underlying24 hi hz0 hz1 hz2 rfl (by decide) _ n1 (flt shI M1) rfl HOA.out.row ⟨z.heap.size, 0, none⟩ 1 1 (({ q with a := a2, c := c2, l := L2 } : Iv).cs) rfl rfl (lit_at z _ _) (is_one _) (by unfold maxLen; omega) (by omega) ?c5 ?_)))
     case c5 => have := HBZ.out.size; simp; omega
     intro v2 z2 hown2 hgrow hnil hat
     have HT2 := Hk.mk (HTK.out.step (q := { q with a := a2, c := c2, l := L2 }) (HOC.out.weak HXS.out) hown2 hgrow hat)
     obtain ⟨sa2, sc2, rfl, -⟩ := HT2.out.a.o.form
     have HB3 : Hk (Below w.heap.size w z2) := ⟨(HBZ.out.alloc HBZ.out.size (.cells #[.int .i64 q.t, .int .i64 q.p, .slice a2 q.n c2] 55)).grown hgrow (by have := HBZ.out.size; simp; omega) (fun g hg => (HTK.out.a.o.lt g hg).1)⟩
     have HQA : Hk (({ q with a := a2, c := c2, l := L2 } : Iv).ab = q.ab) := ⟨by show (⟨q.t, q.p, abC L2⟩ : In) = ⟨q.t, q.p, abC q.l⟩; rw [HAB.out]⟩
     clear hown2 hgrow hnil hat HTK HOA HBZ
     have HE : Hk (TkR z2 w.heap.size (.slice sa2 (n1 + 1) sc2) (n1 + 1) (M1 ++ [{ q with a := a2, c := c2, l := L2 }]) (.slice s2 n2 e2) n2 M2 ∧ abI (M1 ++ [{ q with a := a2, c := c2, l := L2 }]) = (abI (l.take (k + 1))).filter (fun x => x.t == t) ∧ abI M2 = (abI (l.take (k + 1))).filter (fun x => !(x.t == t)) ∧ n1 + 1 ≤ k + 1 ∧ n2 ≤ k + 1) := ⟨HT2.out, fl_yes (t := t) HSN.out _ HR.out.2.1 HQA.out (by show (q.t == t) = true; rw [hq]), fl_no HSN.out _ HR.out.2.2.1 (by show ¬ (!(q.t == t)) = true; rw [hq]; decide), by omega, by omega⟩
     clear HT2 HQA HR HB HTX HBX
     go_wp2
     exact ⟨⟨k + 1, n1 + 1, n2, sc2, e2, _, M2, sa2, s2, by first | rfl | (push_cast; rfl), rfl, by go_num, HLT.out, HE, HB3⟩, by first | exact nx_ms HLT.out | exact nx_ms' HLT.out⟩
  ·obtain rfl : k = n := by omega
   have et : l.take k = l := List.take_of_length_le (by rw [HL.out]; exact Nat.le_refl _)
   have HF := HR.out
   rw [et] at HF
   go_wp2
   go_ret3
   exact ⟨s1, n1, e1, s2, n2, e2, M1, M2, rfl, HF.1, HF.2.1, HF.2.2.1, HB.out⟩
end Go.Proofs.Ytdpblimhfmfbnaa
namespace Go.Proofs.Ytdpblimhfmfbnaa
open Go.ChangeShapes Go.WideShapes Go.ChangeAt Go.RowKit Go.Deep
theorem own_holds {w : World} {B : Nat} {T : TypeId} {z n c g : Nat} {xs : List Value} (h : w.ownsRow B T z (.slice (some ⟨g, 0, none⟩) n c) n xs) : ∀ (j : Nat) u, xs[j]? = some u → w.cell? ⟨g, 0 + j, none⟩ = some u := fun j u hj => by
 rw [← Addr.add_lit]
 exact h.cells (g := g) rfl j u hj
theorem Sn.ow {α : Type} {S : Sh α} {T : TypeId} {B n : Nat} {v : Value} {w z : World} {l : List α} (h : Sn B w z) (o : Ow S T w B v n l) (ne : T ≠ 3) : Ow S T z B v n l := ⟨o.len, by
 refine ⟨o.row.1, ?_⟩
 rcases o.row.2 with e | ⟨g, cap, cur, e, hg, hh, r⟩
 ·exact .inl e
 ·exact .inr ⟨g, cap, cur, e, hg, h.ty _ _ _ _ hh ne, r⟩⟩
theorem Sc.ow {α : Type} {S : Sh α} {T : TypeId} {B n : Nat} {v : Value} {w z : World} {l : List α} (h : Sc B w z) (o : Ow S T w B v n l) (ne : T ≠ 3) (ne2 : T ≠ 50) : Ow S T z B v n l := ⟨o.len, by
 refine ⟨o.row.1, ?_⟩
 rcases o.row.2 with e | ⟨g, cap, cur, e, hg, hh, r⟩
 ·exact .inl e
 ·exact .inr ⟨g, cap, cur, e, hg, h.ty _ _ _ _ hh ne ne2, r⟩⟩
theorem below_al (w : World) (o : Obj) : Below w.heap.size w (w.alloc o) := (Below.refl _ _).alloc (Nat.le_refl _) o
end Go.Proofs.Ytdpblimhfmfbnaa
namespace Go.Proofs.Ytdpblimhfmfbnaa
open Go.ChangeShapes Go.WideShapes Go.ChangeAt Go.RowKit Go.Deep
theorem ShC.fin {w : World} {B n c : Nat} {a : Option Addr} (h : ShC w B a n c) : n ≤ c ∧ (a = none → n = 0 ∧ c = 0) ∧ ∃ olds : List Value, olds.length = n * 10 ∧ (∀ b, a = some b → ∀ (j : Nat) v, olds[j]? = some v → w.cell? (b.add j) = some v) ∧ (n < c → ∃ g l, a = some ⟨g, 0, none⟩ ∧ Ow shC 50 w B (.slice (some ⟨g, 0, none⟩) n c) n l ∧ olds = flt shC l) := by
 rcases h.2 with ⟨l, ho, hu⟩ | ⟨rfl, rfl⟩
 ·obtain ⟨h1, h2, h3⟩ := ho.fin
  refine ⟨h1, h2, flt shC l, by rw [flt_len, ho.len]; rfl, h3, fun hlt => ?_⟩
  rcases ho.blk with ⟨_, e1, e2⟩ | ⟨g, rfl, _⟩
  ·omega
  ·exact ⟨g, l, rfl, ho, rfl⟩
 ·exact ⟨Nat.le_refl _, fun _ => ⟨rfl, rfl⟩, [], rfl, fun b _ j v hj => by simp at hj, fun h => absurd h (by omega)⟩
end Go.Proofs.Ytdpblimhfmfbnaa
namespace Go.Proofs.Ytdpblimhfmfbnaa
open Go.ChangeShapes Go.WideShapes Go.ChangeAt Go.RowKit Go.Deep
structure Si (B : Nat) (w z : World) : Prop where
 bl : Below B w z
 i : ∀ a n c, ShI w B a n c → ShI z B a n c
theorem Si.refl (B : Nat) (w : World) : Si B w w := ⟨Below.refl _ _, fun _ _ _ h => h⟩
theorem Si.trans {B : Nat} {w y z : World} (h : Si B w y) (k : Si B y z) : Si B w z := ⟨h.bl.trans k.bl, fun a n c o => k.i a n c (h.i a n c o)⟩
theorem Si.of_sc {B : Nat} {w z : World} (h : Sc B w z) : Si B w z := ⟨h.bl, fun a n c ⟨hn, l, ho, hu⟩ => ⟨hn, l, h.ow ho (by decide) (by decide), fun x hx => h.shc (hu x hx)⟩⟩
theorem Si.of_all {B : Nat} {w z : World} (hB : B ≤ w.heap.size) (h : Below w.heap.size w z) : Si B w z := Si.of_sc (Sc.of_all hB h)
theorem Si.setI {B n c g : Nat} {w : World} {l : List Iv} (h : Ow shI 55 w B (.slice (some ⟨g, 0, none⟩) n c) n l) (k : Nat) (y : Int) : Si B w (w.setCells g (k * 3) (zrI y).cs) := by
 obtain ⟨cur, fr, e⟩ := h.typ (j := g) rfl
 have hg := (h.lt g rfl).1
 have hF : Fr (fun j => j = g) w (w.setCells g (k * 3) (zrI y).cs) := Fr.setCells (M := fun j => j = g) rfl _ _ (Fr.refl (fun j => j = g) w)
 have hI : ∀ (T : TypeId), T ≠ 55 → ∀ j cur fr, w.heap[j]? = some (.cells cur T fr) → ¬ j = g := fun T hT j cur' fr' e' hj => by
  subst hj
  rw [e] at e'
  injection e' with e'
  injection e' with _ e'
  exact hT e'.symm
 refine ⟨hF.below (Nat.le_of_lt (Nat.lt_of_le_of_lt hg (cells_lt e))) (fun j _ hj => by omega), fun a n' c' ⟨hn, l', o, hu⟩ => ⟨hn, ?_⟩⟩
 have hU : ∀ x, x ∈ l' → ShC (w.setCells g (k * 3) (zrI y).cs) B x.a x.n x.c := fun x hx => (hu x hx).fr hF (hI _ (by decide)) (hI _ (by decide))
 rcases o.blk with ⟨rfl, rfl, rfl⟩ | ⟨g', rfl, _⟩
 ·exact ⟨l', o.fr hF fun j hj => by simp [Value.ownBlock] at hj, hU⟩
 ·by_cases hg' : g' = g
  ·subst hg'
   refine ⟨_, o.setx k (zrI y), fun x hx => ?_⟩
   rcases List.mem_or_eq_of_mem_set hx with h | rfl
   ·exact hU x h
   ·exact ⟨Nat.zero_le _, .inr ⟨rfl, rfl⟩⟩
  ·exact ⟨l', o.fr hF fun j hj => by simp [Value.ownBlock] at hj; omega, hU⟩
end Go.Proofs.Ytdpblimhfmfbnaa
