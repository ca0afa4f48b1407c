import Derived.Deep.QuietTactic
import Derived.BigQuiet
import Derived.Deep.RegionWith
import Derived.Deep.RegionHeld3
import Derived.Deep.DeepCutAuto
import Derived.Deep.DeepFit
import Derived.Outline
import Derived.Test.YtifnmgbeepgfiaaDm
import Derived.Deep.Grids
import Derived.Test.YtifnmgbeepgfiaaDh
import Derived.ProofKit
import Derived.OpenShut
import Derived.ChangeSame
/- Plain words of layer 10: filling one sector alone. -/
namespace Go.Proofs.Ytifnmgbeepgfiaa
open Go.RowKit
set_option linter.unusedVariables false
set_option linter.unusedSimpArgs false
def resN (N : Nat → Nat → Prop) (z : Nat → Bool) (a b : Nat) : Prop := N a b ∧ z a = true ∧ z b = true
def resF (fr z : Nat → Bool) (t : Nat) : Bool := fr t && z t
def resP (P : Nat → Int) (z : Nat → Bool) (t : Nat) : Int := if z t = true then P t else -1
theorem resP_in {P : Nat → Int} {z : Nat → Bool} {t : Nat} (h : z t = true) : resP P z t = P t := if_pos h
theorem resP_out {P : Nat → Int} {z : Nat → Bool} {t : Nat} (h : z t = false) : resP P z t = -1 := if_neg (by rw [h]; decide)
theorem resN_symm {N : Nat → Nat → Prop} {z : Nat → Bool} (hs : ∀ a b, N a b → N b a) : ∀ a b, resN N z a b → resN N z b a := fun a b h => ⟨hs _ _ h.1, h.2.2, h.2.1⟩
theorem resN_lt {n : Nat} {N : Nat → Nat → Prop} {z : Nat → Bool} (hb : ∀ a b, N a b → b < n) : ∀ a b, resN N z a b → b < n := fun a b h => hb _ _ h.1
theorem resN_free {N : Nat → Nat → Prop} {fr z : Nat → Bool} (hf : ∀ a b, N a b → fr a = true ∧ fr b = true) : ∀ a b, resN N z a b → resF fr z a = true ∧ resF fr z b = true := fun a b h => by
  have := hf _ _ h.1
  unfold resF
  rw [this.1, this.2, h.2.1, h.2.2]
  exact ⟨rfl, rfl⟩
theorem resN_rch {N : Nat → Nat → Prop} {z : Nat → Bool} {s t : Nat} (h : Rch (resN N z) s t) : Rch N s t := by
  induction h with
  | refl => exact .refl
  | step _ hn ih => exact ih.step hn.1
theorem resR {N : Nat → Nat → Prop} {z : Nat → Bool} (hz : ∀ a b, N a b → z a = z b) {s t : Nat} (hs : z s = true) : (Rch N s t ↔ Rch (resN N z) s t) ∧ (Rch N s t → z t = true) := by
  have key : Rch N s t → Rch (resN N z) s t ∧ z t = true := fun h => by
    induction h with
    | refl => exact ⟨.refl, hs⟩
    | @step u v hu hn ih => exact ⟨ih.1.step ⟨hn, ih.2, by rw [← hz _ _ hn]; exact ih.2⟩, by rw [← hz _ _ hn]; exact ih.2⟩
  refine ⟨⟨fun h => (key h).1, fun h => resN_rch h⟩, fun h => (key h).2⟩
def ResU (n : Nat) (N : Nat → Nat → Prop) (fr z : Nat → Bool) (s : Nat) (P : Nat → Int) : Prop := Upto n (resN N z) (resF fr z) s (resP P z)
section
variable {n s : Nat} {N : Nat → Nat → Prop} {fr z : Nat → Bool} {P P0 : Nat → Int}
theorem ResU.start (h : ∀ t, t < n → z t = true → P t = -1) : ResU n N fr z 0 P := Upto.start fun t ht => by
  cases e : z t
  · exact resP_out e
  · rw [resP_in e]; exact h t ht e
theorem ResU.out (h : ResU n N fr z s P) (hs : ∀ a b, N a b → N b a) (hf : ∀ a b, N a b → fr a = true ∧ fr b = true) (hlt : s < n) (hz : z s = false) : ResU n N fr z (s + 1) P :=
  Upto.skip h (resN_symm hs) (resN_free hf) hlt (Or.inl (by unfold resF; rw [hz]; simp))
theorem ResU.outs0 (hs : ∀ a b, N a b → N b a) (hf : ∀ a b, N a b → fr a = true ∧ fr b = true) (k : Nat) : ∀ s, ResU n N fr z s P → s + k ≤ n → (∀ t, s ≤ t → t < s + k → z t = false) → ResU n N fr z (s + k) P := by
  induction k with
  | zero => intro s h _ _; exact h
  | succ k ih =>
    intro s h hn hz
    have := ih (s + 1) (h.out hs hf (by omega) (hz s (Nat.le_refl _) (by omega))) (by omega) (fun t a b => hz t (by omega) (by omega))
    rwa [show s + 1 + k = s + (k + 1) by omega] at this
theorem ResU.outs (h : ResU n N fr z s P) (hs : ∀ a b, N a b → N b a) (hf : ∀ a b, N a b → fr a = true ∧ fr b = true) (k : Nat) (hn : s + k ≤ n) (hz : ∀ t, s ≤ t → t < s + k → z t = false) : ResU n N fr z (s + k) P := ResU.outs0 hs hf k s h hn hz
theorem ResU.skip (h : ResU n N fr z s P) (hs : ∀ a b, N a b → N b a) (hf : ∀ a b, N a b → fr a = true ∧ fr b = true) (hlt : s < n) (hz : z s = true) (hk : fr s = false ∨ 0 ≤ P s) : ResU n N fr z (s + 1) P :=
  Upto.skip h (resN_symm hs) (resN_free hf) hlt (by
    rcases hk with e | e
    · exact Or.inl (by unfold resF; rw [e]; simp)
    · exact Or.inr (by rw [resP_in hz]; exact e))
theorem ResU.nots (h : ResU n N fr z s P0) (hc : ∀ a b, N a b → z a = z b) (hz : z s = true) : ∀ t, t < n → Rch N s t → P0 t ≠ (s : Int) := by
  intro t ht hr e
  have hzt := (resR hc hz).2 hr
  cases ef : resF fr z t
  · have := h.no t ht ef
    rw [resP_in hzt] at this
    omega
  · rcases h.yes t ht ef with ⟨m, hm, e1, _⟩ | ⟨e1, _⟩ <;> rw [resP_in hzt] at e1 <;> omega
theorem ResU.fill (h : ResU n N fr z s P0) (hs : ∀ a b, N a b → N b a) (hb : ∀ a b, N a b → b < n) (hf : ∀ a b, N a b → fr a = true ∧ fr b = true) (hc : ∀ a b, N a b → z a = z b) (hlt : s < n) (hz : z s = true) (hfs : fr s = true) (h0 : P0 s < 0)
    (k : Fil n N s P0 P (fun _ => False)) : ResU n N fr z (s + 1) P ∧ ∀ t, t < n → z t = false → P t = P0 t := by
  have k2 : Fil n (resN N z) s (resP P0 z) (resP P z) (fun _ => False) := by
    refine ⟨fun t ht => ?_, by rw [resP_in hz]; exact k.at0, fun t ht hk => ?_, fun t ht hr hp => ?_⟩
    · cases e : z t
      · left; rw [resP_out e, resP_out e]
      · rw [resP_in e, resP_in e]
        rcases k.old t ht with q | ⟨q, r⟩
        · exact Or.inl q
        · exact Or.inr ⟨q, (resR hc hz).1.1 r⟩
    · cases e : z t
      · rw [resP_out e] at hk; omega
      · rw [resP_in e] at hk ⊢
        rw [resP_in e]
        exact k.keep t ht hk
    · have hr' := (resR hc hz).1.2 hr
      have e := (resR hc hz).2 hr'
      rw [resP_in e] at hp
      right
      intro u hu
      rw [resP_in hu.2.2]
      rcases k.rel t ht hr' hp with q | q
      · exact q.elim
      · exact q u hu.1
  refine ⟨Upto.fill h (resN_symm hs) (resN_lt hb) (resN_free hf) hlt (by unfold resF; rw [hfs, hz]; rfl) (by rw [resP_in hz]; exact h0) k2 (fun _ q => q), fun t ht e => ?_⟩
  rcases k.old t ht with q | ⟨_, r⟩
  · exact q
  · have := (resR hc hz).2 r
    rw [e] at this
    cases this
theorem ResU.done (h : ResU n N fr z n P) (hs : ∀ a b, N a b → N b a) (hb : ∀ a b, N a b → b < n) (hf : ∀ a b, N a b → fr a = true ∧ fr b = true) (hc : ∀ a b, N a b → z a = z b) {F : Nat → Int} (k : IsPart n N fr F) : ∀ t, t < n → z t = true → P t = F t := by
  intro t ht hz
  have h1 : IsPart n (resN N z) (resF fr z) (resP P z) := Upto.all h (resN_symm hs)
  have h2 : IsPart n (resN N z) (resF fr z) (resP F z) := by
    refine ⟨fun u hu e => ?_, fun u hu e => ?_⟩
    · cases ez : z u
      · exact resP_out ez
      · rw [resP_in ez]
        refine k.no u hu ?_
        unfold resF at e
        rw [ez] at e
        simpa using e
    · unfold resF at e
      rw [Bool.and_eq_true] at e
      obtain ⟨m, e1, r, l⟩ := k.yes u hu e.1
      rw [resP_in e.2]
      exact ⟨m, e1, (resR hc e.2).1.1 r, fun v hv => l v ((resR hc e.2).1.2 hv)⟩
  have := h1.eq h2 ht
  rwa [resP_in hz, resP_in hz] at this
end
/-- The next tile of a rising list, or the end. -/
def nxL (L : List Nat) (n i : Nat) : Nat := L.getD i n
theorem nxL_at {L : List Nat} {n i : Nat} (h : i < L.length) : nxL L n i = L[i] := by unfold nxL; simp [List.getD, h]
theorem nxL_end {L : List Nat} {n i : Nat} (h : L.length ≤ i) : nxL L n i = n := by unfold nxL; simp [List.getD, h]
theorem nxL_le {W : Int} {n t i : Nat} {L : List Nat} (h : TlS W n t L) : nxL L n i ≤ n := by
  by_cases c : i < L.length
  · rw [nxL_at c]; exact Nat.le_of_lt ((h.2 _).1 (List.getElem_mem c)).1
  · rw [nxL_end (by omega)]; exact Nat.le_refl _
theorem nxL_lt {W : Int} {n t i : Nat} {L : List Nat} (h : TlS W n t L) (hi : i < L.length) : L[i] < nxL L n (i + 1) := by
  by_cases c : i + 1 < L.length
  · rw [nxL_at c]; exact List.pairwise_iff_getElem.1 h.1 i (i + 1) hi c (by omega)
  · rw [nxL_end (by omega)]; exact ((h.2 _).1 (List.getElem_mem hi)).1
theorem nxL_gap {W : Int} {n t i : Nat} {L : List Nat} (h : TlS W n t L) (hi : i < L.length) {k : Nat} (h1 : L[i] < k) (h2 : k < nxL L n (i + 1)) : ¬ secS W t k := by
  intro hs
  have hkn : k < n := Nat.lt_of_lt_of_le h2 (nxL_le h)
  obtain ⟨j, hj, e⟩ := List.getElem_of_mem ((h.2 k).2 ⟨hkn, hs⟩)
  have hp := List.pairwise_iff_getElem.1 h.1
  by_cases c : j ≤ i
  · by_cases d : j = i
    · subst d; omega
    · have := hp j i hj hi (by omega); omega
  · by_cases d : j = i + 1
    · subst d; rw [nxL_at hj] at h2; omega
    · have hi1 : i + 1 < L.length := by omega
      rw [nxL_at hi1] at h2
      have := hp (i + 1) j hi1 hj (by omega)
      omega
theorem nxL_gap0 {W : Int} {n t : Nat} {L : List Nat} (h : TlS W n t L) {k : Nat} (h2 : k < nxL L n 0) : ¬ secS W t k := by
  intro hs
  have hkn : k < n := Nat.lt_of_lt_of_le h2 (nxL_le h)
  obtain ⟨j, hj, e⟩ := List.getElem_of_mem ((h.2 k).2 ⟨hkn, hs⟩)
  have hp := List.pairwise_iff_getElem.1 h.1
  have h0 : 0 < L.length := by omega
  rw [nxL_at h0] at h2
  by_cases d : j = 0
  · subst d; omega
  · have := hp 0 j h0 hj (by omega)
    omega
instance secS_dec (W : Int) (a b : Nat) : Decidable (secS W a b) := by unfold secS; infer_instance
def secB (W : Int) (a b : Nat) : Bool := decide (secS W a b)
theorem secB_nb {W : Int} {n t : Nat} {fr : Nat → Bool} : ∀ a b, nbN W n fr a b → secB W t a = secB W t b := fun a b h => by
  obtain ⟨_, _, ⟨h5, h6⟩, _⟩ := h
  refine decide_eq_decide.2 ?_
  unfold secS
  rw [h5, h6]
end Go.Proofs.Ytifnmgbeepgfiaa
/- Package sector: Redo, on any map. -/
namespace Go.Proofs.Ytifnmgbeepgfiaa
open Go.ChangeShapes Go.WideShapes Go.ChangeAt Go.RowKit Go.Deep
set_option linter.unusedVariables false
set_option linter.unusedSimpArgs false
theorem addr_add (b o j : Nat) : (⟨b, o, none⟩ : Addr).add j = ⟨b, o + j, none⟩ := by
  simp only [Addr.add]
  by_cases e : j = 0
  · subst e; simp
  · simp [e]
theorem mem_take_more {L : List Nat} {i : Nat} (h : i < L.length) {k : Nat} : k ∈ L.take (i + 1) ↔ k ∈ L.take i ∨ k = L[i] := by
  rw [List.take_succ_eq_append_getElem h, List.mem_append, List.mem_singleton]
theorem own_open8 {w : World} {S n : Nat} {v : Value} {xs : List Value} (h : w.ownsRow S 3 1 v n xs) (hn : 0 < n) : ∃ J c, v = .slice (some ⟨J, 0, none⟩) n c ∧ S ≤ J := by
  rcases h.2 with ⟨e, h0⟩ | ⟨g', cap, cur, e, hg, _⟩
  · omega
  · exact ⟨g', cap, e, hg⟩
theorem fill_z (W H : Int) (t fb fo n fc J jc s : Nat) (fr : Nat → Bool) (P0 : Nat → Int) (w : World) (w1 : 1 ≤ W) (w2 : W ≤ 128) (h1 : 1 ≤ H) (h2 : H ≤ 128) (hn : (n : Int) = W * H) (hs : s < n) (hF : ∀ k, k < n → w.cell? ⟨fb, fo + k, none⟩ = some (.bool (fr k))) (hfl : fb < w.heap.size) (hfJ : fb ≠ J) (hJ : Arp w J n jc P0) (hzs : (secB W t) s = true) (hU : ResU n (nbN W n fr) fr (secB W t) s P0) :
    Calls Try.prog 25 #[.int .i64 W, .int .i64 H, .slice (some ⟨fb, fo, none⟩) n fc, .slice (some ⟨J, 0, none⟩) n jc, .int .i64 s] w fun e w' => e = .returned (.tuple #[]) ∧ ∃ P, Arp w' J n jc P ∧ ResU n (nbN W n fr) fr (secB W t) (s + 1) P ∧ (∀ k, k < n → (secB W t) k = false → P k = P0 k) ∧ Fr (fun q => q = J) w w' := by
  by_cases hk : fr s = false ∨ 0 ≤ P0 s
  · refine (fill_no W H fb fo n fc J jc s fr P0 w hs (hF s hs) hJ hk).mono ?_
    rintro e z ⟨rfl, rfl⟩
    exact ⟨rfl, P0, hJ, hU.skip nbN_symm nbN_free hs hzs hk, fun _ _ _ => rfl, Fr.refl _ _⟩
  · have hfs : fr s = true := by
      cases e : fr s
      · exact absurd (Or.inl e) hk
      · rfl
    have hps : P0 s < 0 := by
      apply Int.not_le.1
      exact fun e => hk (Or.inr e)
    refine (fill_in W H fb fo n fc J jc s fr P0 w w1 w2 h1 h2 hn hs hF hfl hfJ hJ (hU.nots secB_nb hzs) hfs hps).mono ?_
    rintro e z ⟨rfl, P, hP, hfil, hfr⟩
    obtain ⟨u1, u2⟩ := hU.fill nbN_symm nbN_lt nbN_free secB_nb hs hzs hfs hps hfil
    exact ⟨rfl, P, hP, u1, u2, hfr⟩
set_option maxRecDepth 1000000 in
set_option maxHeartbeats 6400000 in
theorem sredo_any (W H : Int) (t fb fo n fc pb po pc : Nat) (fr : Nat → Bool) (Q : Nat → Int) (w : World) (w1 : 1 ≤ W) (w2 : W ≤ 128) (h1 : 1 ≤ H) (h2 : H ≤ 128) (hn : (n : Int) = W * H) (htn : t < n) (hF : ∀ k, k < n → w.cell? ⟨fb, fo + k, none⟩ = some (.bool (fr k))) (hfl : fb < w.heap.size) (hQ : ∀ k, k < n → w.cell? ⟨pb, po + k, none⟩ = some (.int .i64 (Q k))) :
    Calls Try.prog 18 #[.int .i64 W, .int .i64 H, .slice (some ⟨fb, fo, none⟩) n fc, .slice (some ⟨pb, po, none⟩) n pc, .int .i64 t] w fun e w' => ∃ J jc P, e = .returned (.tuple #[.slice (some ⟨J, 0, none⟩) n jc, .int .i64 0]) ∧ w.heap.size ≤ J ∧ Arp w' J n jc P ∧ (∀ F, IsPart n (nbN W n fr) fr F → ∀ k, k < n → P k = if (secB W t) k = true then F k else Q k) ∧ Below w.heap.size w w' := by
  obtain ⟨ii, hii, hiz0, hiz1, hiz2⟩ := info_parts info_int
  have n16 : n ≤ 16384 := by have := mul_bd w1 w2 h1 h2; omega
  have HFF := Hk.mk hF
  have e1 : IntKind.i64.wrap (W * H) = (n : Int) := by rw [← hn, IntKind.wrap_i64]; omega
  have n0 : (0 : Int) ≤ (n : Int) := by omega
  have t0 : (0 : Int) ≤ (t : Int) := by omega
  have t1 : (t : Int) < (n : Int) := by omega
  have b0 : decide ((t : Int) < 0) = false := by simp
  have b1 : decide ((n : Int) ≤ (t : Int)) = false := by simp; omega
  obtain ⟨QL, hQL0⟩ : ∃ QL : List Value, (List.range n).map (fun k => Value.int .i64 (Q k)) = QL := ⟨_, rfl⟩
  have hQL : QL.length = n := by rw [← hQL0]; simp
  have HQG : Hk (∀ k, k < n → QL[k]? = some (.int .i64 (Q k))) := ⟨fun k hk => by rw [← hQL0]; simp [hk]⟩
  have HQN : Hk (∀ j u, QL[j]? = some u → w.cell? ((⟨pb, po, none⟩ : Addr).add j) = some u) := ⟨fun j u hu => by
    have hj : j < n := by rw [← hQL]; exact (List.getElem?_eq_some_iff.1 hu).1
    rw [HQG.out j hj] at hu
    cases hu
    rw [addr_add]
    exact hQ j hj⟩
  have HQT : Hk (∀ u ∈ QL, u.oneCell' = true) := ⟨fun u hu => by
    rw [← hQL0, List.mem_map] at hu
    obtain ⟨k, _, rfl⟩ := hu
    rfl⟩
  have HN := Hk.mk hn
  clear hF hQ hn hQL0
  go_enter Try.func18, Try.ntmps18
  have n1 : 0 < n := by omega
  go_wp2_with (first | (go_at_call 24; (with_reducible refine (sized_yes W H _ w1 w2 h1 h2).mono ?_); rintro e z ⟨rfl, hz⟩; rw [hz]; clear hz z) | (at_builtin; go_must (refine wpList_append_own_at _ rfl _ _ 23 rfl w.heap.size 3 ii (.int .i64 0) 1 8 Try.underlying23 hii hiz0 hiz1 hiz2 rfl (by decide) _ 0 _ rfl (World.ownsRow_nil _ _ _ _) ⟨pb, po, none⟩ n pc (QL) rfl (by omega) HQN.out HQT.out (by unfold maxLen; omega) (by omega) (Nat.le_refl _) ?_); intro v8 z8 hown hgrow hnil hat; rw [Nat.zero_add, List.nil_append] at hown; obtain ⟨J, jc, rfl, hJ0⟩ := own_open8 hown (by omega); have HA8 := Hk.mk (Arp.own (P := Q) hown (fun k hk => HQG.out k hk)); have HB8 := Hk.mk ((Below.refl w.heap.size w).grown hgrow (Nat.le_refl _) (fun j hj => by cases hj)); clear hown hgrow hnil hat) | (go_at_call 26; (with_reducible refine (stiles_any W H n t _ w1 w2 h1 h2 HN.out htn).mono ?_); rintro e z ⟨v, L, rfl, hts, hl64, hro, hb⟩; obtain ⟨aL, cL, rfl, hra⟩ := own_form20 hro; have HRA := Hk.mk hra; have HRO := Hk.mk hro; have HTS := Hk.mk hts; have hJz := HA8.out.lt; have HJ := Hk.mk (HA8.out.later hb); have HB := Hk.mk (HB8.out.trans (hb.mono HB8.out.size)); clear hra hro hts hb))
  clear e1 b0 b1 HQN HQT HB8 HA8
  have hJl := hJz
  obtain ⟨B2, hB2⟩ : ∃ B2, z8.heap.size = B2 := ⟨_, rfl⟩
  rw [hB2] at hJl HRO
  clear hB2 hJz
  obtain ⟨wo, rfl⟩ : ∃ wo : World, wo = z := ⟨z, rfl⟩
  go_loopw [55] (fun jj wr => ∃ i : Nat, jj = .int .i64 i ∧ i ≤ L.length ∧ Hk (Arp wr J n jc (fun k => if k ∈ L.take i then -1 else Q k)) ∧ Hk (World.ownsRow wr B2 3 1 (.slice aL L.length cL) L.length (natsL L)) ∧ Hk (Below w.heap.size w wr)) (fun jj _ => L.length - (intOf jj).toNat)
  case atStart => exact ⟨0, rfl, by omega, ⟨HJ.out.congr fun k hk => by simp⟩, HRO, HB⟩
  case round =>
    clear HJ HRO HB
    obtain ⟨i, rfl, hi, HJ, HRO, HB⟩ := hrel
    by_cases hil : i < L.length
    · obtain ⟨gL, rfl⟩ := HRA.out (by omega)
      have ci := own_at20 HRO.out hil
      have hsm := (HTS.out.2 L[i]).1 (List.getElem_mem hil)
      obtain ⟨s, hs⟩ : ∃ s, L[i] = s := ⟨_, rfl⟩
      rw [hs] at ci hsm
      have hsn := hsm.1
      have i0 : (0 : Int) ≤ (i : Int) := by omega
      have i1 : (i : Int) < (L.length : Int) := by omega
      have s0 : (0 : Int) ≤ (s : Int) := by omega
      have s1 : (s : Int) < (n : Int) := by omega
      have cj := HJ.out.cell hsn
      have fj := HJ.out.frozen s
      have HJ2 : Hk (Arp (wr.setCell ⟨J, s, none⟩ (.int .i64 (-1))) J n jc (fun k => if k ∈ L.take (i + 1) then -1 else Q k)) := ⟨(HJ.out.put hsn _).congr fun k hk => by
        have hm := mem_take_more hil (k := k)
        rw [hs] at hm
        unfold updP
        show (if k ∈ L.take (i + 1) then (-1 : Int) else Q k) = if k = s then -1 else (if k ∈ L.take i then -1 else Q k)
        by_cases e : k = s
        · rw [if_pos (hm.2 (Or.inr e)), if_pos e]
        · rw [if_neg e]
          by_cases e2 : k ∈ L.take i
          · rw [if_pos (hm.2 (Or.inl e2)), if_pos e2]
          · rw [if_neg e2, if_neg (fun q => (hm.1 q).elim e2 e)]⟩
      have HRO2 : Hk (World.ownsRow (wr.setCell ⟨J, s, none⟩ (.int .i64 (-1))) B2 3 1 (.slice (some ⟨gL, 0, none⟩) L.length cL) L.length (natsL L)) := ⟨ownsRow_setCell_below HRO.out (a := ⟨J, s, none⟩) hJl _⟩
      have HB2 := Hk.mk (HB.out.setCell (p := ⟨J, s, none⟩) hJ0 (.int .i64 (-1)))
      clear HJ HRO HB hs
      as_aux_lemma =>
        go_wp2_with fail
        exact ⟨⟨i + 1, by go_num, by omega, HJ2, HRO2, HB2⟩, by simp [intOf]; omega⟩
    · obtain rfl : i = L.length := by omega
      clear hil
      go_wp2_with fail
      have HU0 : Hk (ResU n (nbN W n fr) fr (secB W t) (nxL L n 0) (fun k => if k ∈ L.take L.length then -1 else Q k)) := ⟨by
        have h0 : ResU n (nbN W n fr) fr (secB W t) 0 (fun k => if k ∈ L.take L.length then -1 else Q k) := ResU.start fun k hk hz => by
          rw [List.take_length, if_pos ((HTS.out.2 k).2 ⟨hk, of_decide_eq_true hz⟩)]
        have := h0.outs nbN_symm nbN_free (nxL L n 0) (by have := nxL_le (i := 0) HTS.out; omega) (fun k _ hk => decide_eq_false (nxL_gap0 HTS.out (by omega)))
        rwa [Nat.zero_add] at this⟩
      have HKQ : Hk (∀ k, k < n → (secB W t) k = false → (fun k => if k ∈ L.take L.length then (-1 : Int) else Q k) k = Q k) := ⟨fun k hk hz => if_neg fun q => by
        rw [List.take_length] at q
        exact (of_decide_eq_false hz) ((HTS.out.2 k).1 q).2⟩
      obtain ⟨wq, rfl⟩ : ∃ wq : World, wq = wr := ⟨wr, rfl⟩
      go_loopw [65] (fun jj wr => ∃ (i : Nat) (P : Nat → Int), jj = .int .i64 i ∧ i ≤ L.length ∧ Hk (Arp wr J n jc P) ∧ Hk (ResU n (nbN W n fr) fr (secB W t) (nxL L n i) P) ∧ Hk (∀ k, k < n → (secB W t) k = false → P k = Q k) ∧ Hk (World.ownsRow wr B2 3 1 (.slice aL L.length cL) L.length (natsL L)) ∧ Hk (Below w.heap.size w wr)) (fun jj _ => L.length - (intOf jj).toNat)
      case atStart => exact ⟨0, _, rfl, by omega, HJ, HU0, HKQ, HRO, HB⟩
      case round =>
        clear HJ HU0 HKQ HRO HB
        obtain ⟨i, P, rfl, hi2, HJ, HU, HKQ, HRO, HB⟩ := hrel
        by_cases hil : i < L.length
        · obtain ⟨gL, rfl⟩ := HRA.out (by omega)
          have ci := own_at20 HRO.out hil
          have hsm := (HTS.out.2 L[i]).1 (List.getElem_mem hil)
          have hlt := nxL_lt HTS.out hil
          have hgap := fun k => nxL_gap (k := k) HTS.out hil
          have hU2 := HU.out
          rw [nxL_at hil] at hU2
          obtain ⟨s, hs⟩ : ∃ s, L[i] = s := ⟨_, rfl⟩
          rw [hs] at ci hsm hU2 hlt
          have hgap2 : ∀ k, s < k → k < nxL L n (i + 1) → ¬ secS W t k := fun k a b => hgap k (by rw [hs]; exact a) b
          have hsn := hsm.1
          have hzs : (secB W t) s = true := decide_eq_true hsm.2
          have HU3 := Hk.mk hU2
          have HGP := Hk.mk (And.intro hlt hgap2)
          have i0 : (0 : Int) ≤ (i : Int) := by omega
          have i1 : (i : Int) < (L.length : Int) := by omega
          clear hU2 hgap hgap2 hlt hs HU hsm
          as_aux_lemma =>
            go_wp2_with (go_at_call 25; (with_reducible refine (fill_z W H t fb fo n fc J jc s fr P _ w1 w2 h1 h2 HN.out hsn (fun k hk => by rw [HB.out.cell (p := ⟨fb, fo + k, none⟩) hfl]; exact HFF.out k hk) (Nat.lt_of_lt_of_le hfl HB.out.size) (Nat.ne_of_lt (Nat.lt_of_lt_of_le hfl hJ0)) HJ.out hzs HU3.out).mono ?_); rintro e z ⟨rfl, P2, hP, hu2, hk2, hfr⟩; have HJ2 := Hk.mk hP; have HU2 := Hk.mk hu2; have HK2 := Hk.mk hk2; have HRO2 : Hk (World.ownsRow z B2 3 1 (.slice (some ⟨gL, 0, none⟩) L.length cL) L.length (natsL L)) := ⟨hfr.row HRO.out (fun j hj hm => by have := (HRO.out.lt j hj).1; omega)⟩; have HB2 := Hk.mk (HB.out.trans (hfr.below HB.out.size (fun j _ hm => by subst hm; exact hJ0))); clear hP hu2 hk2 hfr)
            refine ⟨⟨i + 1, P2, by go_num, by omega, HJ2, ⟨?_⟩, ⟨fun k hk hz => by rw [HK2.out k hk hz, HKQ.out k hk hz]⟩, HRO2, HB2⟩, by simp [intOf]; omega⟩
            have := HU2.out.outs nbN_symm nbN_free (nxL L n (i + 1) - (s + 1)) (by have := nxL_le (i := i + 1) HTS.out; have := HGP.out.1; omega) (fun k a b => decide_eq_false (HGP.out.2 k (by omega) (by have := HGP.out.1; omega)))
            rwa [show s + 1 + (nxL L n (i + 1) - (s + 1)) = nxL L n (i + 1) by have := HGP.out.1; omega] at this
        · obtain rfl : i = L.length := by omega
          clear hil
          have HUE := HU.out
          rw [nxL_end (Nat.le_refl _)] at HUE
          have HUE := Hk.mk HUE
          as_aux_lemma =>
            go_wp2_with fail
            go_ret2
            refine ⟨J, jc, P, rfl, hJ0, HJ.out, fun F hF k hk => ?_, HB.out⟩
            cases e : (secB W t) k
            · rw [if_neg (by decide), HKQ.out k hk e]
            · rw [if_pos rfl]; exact HUE.out.done nbN_symm nbN_lt nbN_free secB_nb hF k hk e
end Go.Proofs.Ytifnmgbeepgfiaa
/- Layer 10: what is asked; lists of booleans copied; what is refused. -/
namespace Go.Proofs.Ytifnmgbeepgfiaa
open Go.ChangeShapes Go.WideShapes Go.ChangeAt Go.RowKit Go.Deep
set_option linter.unusedVariables false
set_option linter.unusedSimpArgs false
theorem bools_rd {H : Type} {enc : TypeId × Value → H} {w : World} {base : Nat} {held : Bool} {fuel : Nat} {x : DataW H × List MemPlace} {v : Value}
    (hf : DataW.trod enc Try.prog w base (fun _ => true) held fuel 22 [v] = some x) : ∃ (a : Option Addr) (n c : Nat) (fr : Nat → Bool), v = .slice a n c ∧ n ≤ 9223372036854775807 ∧ Rd w w.heap.size a n (fun k => .bool (fr k)) := by
  rcases open_bools Try.underlying22 Try.underlying4 (by kernel_rfl) hf with ⟨hcs, _⟩ | ⟨a, l, c, B, hcs, _, hl, hm, _, hc⟩
  · simp at hcs
    exact ⟨none, 0, 0, fun _ => true, hcs, by omega, rd_nil _ _ _ _⟩
  · simp at hcs
    refine ⟨_, _, _, B, hcs, by unfold maxLen at hm; omega, fun hn => ?_⟩
    obtain ⟨b, off, spot⟩ := a
    have hs : spot = none := by
      have h0 := World.cell?_spot (hc 0 (by omega))
      simpa [Addr.add] using h0
    subst hs
    refine ⟨b, off, rfl, ?_, fun k hk => ?_⟩
    · have := hc 0 (by omega); rw [addr_add] at this; exact World.block_lt_of_cell? _ _ this
    · have := hc k (by omega); rw [addr_add] at this; exact this
def Asks10b (w : World) (v : Value) : Prop := ∃ (W H : Int) (fa : Option Addr) (fn fc : Nat) (fr : Nat → Bool) (ta : Option Addr) (tn tc : Nat) (ts : List Int) (pa : Option Addr) (pn pc : Nat) (ps : List Int),
  v = .agg #[.int .i64 W, .int .i64 H, .slice fa fn fc, .slice ta tn tc, .slice pa pn pc] ∧ fn ≤ 9223372036854775807 ∧ tn ≤ 9223372036854775807 ∧ pn ≤ 9223372036854775807 ∧ Rd w w.heap.size fa fn (fun k => .bool (fr k)) ∧ Nq w w.heap.size ta tn ts ∧ Nq w w.heap.size pa pn ps
set_option maxRecDepth 100000 in
theorem asks10b_of {H : Type} {enc : TypeId × Value → H} {w : World} {base : Nat} {held : Bool} {fuel : Nat} {x : DataW H × List MemPlace} {cs : Array Value} (hcs : cs.size = Try.prog.cellsOf 25)
    (hf : DataW.trod enc Try.prog w base (fun _ => true) held fuel 25 cs.toList = some x) : Asks10b w (.agg cs) := by
  have hC : Try.prog.cellsOf 25 = 5 := by kernel_rfl
  have h2 : Try.prog.cellsOf 23 = 1 := by kernel_rfl
  have h4 : Try.prog.cellsOf 22 = 1 := by kernel_rfl
  have h5 : Try.prog.cellsOf 3 = 1 := by kernel_rfl
  rw [hC] at hcs
  obtain ⟨l⟩ := cs
  match l, hcs with
  | [c0, c1, c2, c3, c4], _ =>
    obtain ⟨ys, n', _, _, _, hyl, hg⟩ := DataW.trod_struct Try.underlying25 hf
    match ys, hyl with
    | [y0, y1, y2, y3, y4], _ =>
      have g0 := hg 0 _ rfl
      have g1 := hg 1 _ rfl
      have g2 := hg 2 _ rfl
      have g3 := hg 3 _ rfl
      have g4 := hg 4 _ rfl
      simp [h2, h4, h5] at g0 g1 g2 g3 g4
      obtain ⟨W, e0, _, _⟩ := DataW.trod_int Try.underlying3 g0
      simp at e0
      subst e0
      obtain ⟨H, e1, _, _⟩ := DataW.trod_int Try.underlying3 g1
      simp at e1
      subst e1
      obtain ⟨fa, fn, fc, fr, rfl, hfn, hfr⟩ := bools_rd g2
      obtain ⟨ta, tn, tc, ts, rfl, htn, hnq⟩ := nq_of g3
      obtain ⟨pa, pn, pc, ps, rfl, hpn, hpq⟩ := nq_of g4
      exact ⟨W, H, fa, fn, fc, fr, ta, tn, tc, ts, pa, pn, pc, ps, rfl, hfn, htn, hpn, hfr, hnq, hpq⟩
theorem own_rd {w : World} {S n : Nat} {T : TypeId} {v : Value} {f : Nat → Value} (h : w.ownsRow S T 1 v n ((List.range n).map f)) : ∃ a c, v = .slice a n c ∧ Rd w w.heap.size a n f ∧ ∀ b o, a = some ⟨b, o, none⟩ → S ≤ b := by
  rcases h.2 with ⟨e, h0⟩ | ⟨g, cap, cur, e, hg, hh, hc, hm2, hs, ht⟩
  · subst e
    exact ⟨none, 0, by rw [h0], fun hn => absurd hn (by omega), fun b o he => by cases he⟩
  · subst e
    refine ⟨_, _, rfl, fun hn => ⟨g, 0, rfl, (Array.getElem?_eq_some_iff.1 hh).1, fun k hk => ?_⟩, fun b o he => by injection he with he; injection he with e1; subst e1; exact hg⟩
    have : ((List.range n).map f)[k]? = some (f k) := by simp [hk]
    rw [← ht, List.getElem?_take, if_pos (by omega)] at this
    rw [Nat.zero_add]
    simp [World.cell?, hh]
    simpa using this
theorem info_bl : (Try.prog.info? 4).map (fun i => (i.zero, i.size, i.bytes)) = some (some (.bool false), 1, 1) := by kernel_rfl
set_option maxRecDepth 100000 in
theorem copybl_any (a : Option Addr) (n c : Nat) (f : Nat → Bool) (w : World) (h : Rd w w.heap.size a n (fun k => .bool (f k))) (hn : n ≤ 1099511627776) :
    Calls Try.prog 9 #[.slice a n c] w fun e w' => ∃ a2 c2, e = .returned (.slice a2 n c2) ∧ Rd w' w'.heap.size a2 n (fun k => .bool (f k)) ∧ (∀ b o, a2 = some ⟨b, o, none⟩ → w.heap.size ≤ b) ∧ Below w.heap.size w w' := by
  obtain ⟨i0, hi, hz0, hz1, hz2⟩ := info_parts info_bl
  have H := Hk.mk h
  clear h
  go_enter Try.func9, Try.ntmps9
  go_wp2
  go_loopw [3, 4] (fun m i wr => ∃ k : Nat, k ≤ n ∧ i = .int .i64 k ∧ Hk (wr.ownsRow w.heap.size 4 1 m k ((List.range k).map fun k => .bool (f k))) ∧ Hk (Below w.heap.size w wr)) (fun _ i _ => n - (intOf i).toNat)
  case atStart => exact ⟨0, Nat.zero_le _, rfl, ⟨World.ownsRow_nil _ _ _ _⟩, ⟨Below.refl _ _⟩⟩
  case round =>
    obtain ⟨k, hk, rfl, HO, HB⟩ := hrel
    by_cases hlt : k < n
    · obtain ⟨b, off, rfl, hbl, hc⟩ := H.out (by omega)
      have hcx := (HB.out.cell (p := ⟨b, off + k, none⟩) hbl).trans (hc k hlt)
      have hsz := HB.out.size
      have hown := HO.out
      have j1 : (0 : Int) ≤ (k : Int) := by omega
      have j2 : (k : Int) < (n : Int) := by omega
      clear hc
      have hbase : w.heap.size ≤ (wr.alloc (.cells #[.bool (f k)] 4)).heap.size := by simp; omega
      go_wp2_with (at_builtin; refine wpList_append_own _ rfl _ _ 22 rfl w.heap.size 4 i0 (.bool false) 1 1 Try.underlying22 hi hz0 hz1 hz2 rfl (by decide) _ _ _ rfl (hown.alloc _) ⟨wr.heap.size, 0, none⟩ 1 1 [.bool (f k)] rfl rfl (one_new wr _ _) (fun u hu => by rw [List.mem_singleton.1 hu]; rfl) (by unfold maxLen; omega) (by omega) hbase ?_)
      · intro v' w1 hown' hgrow _
        have hval : (List.range k).map (fun k => Value.bool (f k)) ++ [.bool (f k)] = (List.range (k + 1)).map fun k => Value.bool (f k) := by rw [List.range_succ, List.map_append]; rfl
        rw [hval] at hown'
        have HO2 := Hk.mk hown'
        have HB2 := Hk.mk ((HB.out.alloc hsz (.cells #[.bool (f k)] 4)).grown hgrow (by simp; omega) (fun g hg => (hown.lt g hg).1))
        clear hown' hgrow hown HO HB hcx
        go_wp2
        go_roundw
        case rel => exact ⟨k + 1, by omega, by go_num, HO2, HB2⟩
        case measure => simp [intOf]; omega
    · have hkn : k = n := by omega
      subst hkn
      go_wp2
      go_ret
      obtain ⟨a2, c2, rfl, h1, h2⟩ := own_rd HO.out
      exact ⟨a2, c2, rfl, h1, h2, HB.out⟩
def mayS (W H : Int) (n : Nat) : Bool := decide ((1 ≤ W ∧ W ≤ 128 ∧ 1 ≤ H ∧ H ≤ 128) ∧ (n : Int) = W * H)
theorem mayS_yes {W H : Int} {n : Nat} (h : mayS W H n = true) : (1 ≤ W ∧ W ≤ 128 ∧ 1 ≤ H ∧ H ≤ 128) ∧ (n : Int) = W * H := of_decide_eq_true h
theorem mayS_no {W H : Int} {n : Nat} (h : mayS W H n = false) : Fx.szB W H = false ∨ (Fx.szB W H = true ∧ (1 ≤ W ∧ W ≤ 128 ∧ 1 ≤ H ∧ H ≤ 128) ∧ ¬ (n : Int) = W * H) := by
  have h := of_decide_eq_false h
  by_cases c : 1 ≤ W ∧ W ≤ 128 ∧ 1 ≤ H ∧ H ≤ 128
  · exact Or.inr ⟨by unfold Fx.szB; exact decide_eq_true c, c, fun e => h ⟨c, e⟩⟩
  · exact Or.inl (by unfold Fx.szB; exact decide_eq_false c)
theorem rmay10_as (r : Bool) (W H : Int) (a : Option Addr) (n c : Nat) (w : World) (R : Hk (mayS W H n = r)) :
    Calls Try.prog 21 #[.int .i64 W, .int .i64 H, .slice a n c] w fun e w' => e = .returned (.bool r) ∧ w' = w := by
  cases r
  · have R2 : Hk (¬ ((1 ≤ W ∧ W ≤ 128 ∧ 1 ≤ H ∧ H ≤ 128) ∧ (n : Int) = W * H)) := ⟨of_decide_eq_false R.out⟩
    clear R
    by_cases q0 : 1 ≤ W
    · have b0 : decide (1 ≤ W) = true := decide_eq_true q0
      by_cases q1 : W ≤ 128
      · have b1 : decide (W ≤ 128) = true := decide_eq_true q1
        by_cases q2 : 1 ≤ H
        · have b2 : decide (1 ≤ H) = true := decide_eq_true q2
          by_cases q3 : H ≤ 128
          · have b3 : decide (H ≤ 128) = true := decide_eq_true q3
            obtain ⟨m1, m2⟩ := mul_bd q0 q1 q2 q3
            obtain ⟨M, hM⟩ : ∃ M, W * H = M := ⟨_, rfl⟩
            have e1 : IntKind.i64.wrap (W * H) = M := by rw [hM]; exact wr_in' (by omega)
            have hne : ¬ (n : Int) = M := fun e => R2.out ⟨⟨q0, q1, q2, q3⟩, by rw [hM]; exact e⟩
            have hned : decide ((n : Int) = M) = false := decide_eq_false hne
            clear hM m1 m2
            go_enter Try.func21, Try.ntmps21
            go_wp2
            go_ret
            exact ⟨by first | rfl | simp [hne], rfl⟩
          · have b3 : decide (H ≤ 128) = false := decide_eq_false q3
            go_enter Try.func21, Try.ntmps21
            go_wp2
            go_ret
            simp
        · have b2 : decide (1 ≤ H) = false := decide_eq_false q2
          go_enter Try.func21, Try.ntmps21
          go_wp2
          go_ret
          simp
      · have b1 : decide (W ≤ 128) = false := decide_eq_false q1
        go_enter Try.func21, Try.ntmps21
        go_wp2
        go_ret
        simp
    · have b0 : decide (1 ≤ W) = false := decide_eq_false q0
      go_enter Try.func21, Try.ntmps21
      go_wp2
      go_ret
      simp
  · obtain ⟨⟨q0, q1, q2, q3⟩, hn⟩ := mayS_yes R.out
    have b0 : decide (1 ≤ W) = true := decide_eq_true q0
    have b1 : decide (W ≤ 128) = true := decide_eq_true q1
    have b2 : decide (1 ≤ H) = true := decide_eq_true q2
    have b3 : decide (H ≤ 128) = true := decide_eq_true q3
    obtain ⟨m1, m2⟩ := mul_bd q0 q1 q2 q3
    have e1 : IntKind.i64.wrap (W * H) = (n : Int) := by rw [← hn]; exact wr_in' (by omega)
    clear R hn m1 m2
    go_enter Try.func21, Try.ntmps21
    go_wp2
    go_ret
    simp
def frmE (r : Bool) : Int := if r then 0 else 1
theorem form10_as (r : Bool) (W H : Int) (a ta pa : Option Addr) (n c tn tc pn pc : Nat) (w : World) (R : Hk (mayS W H n = r)) :
    Calls Try.prog 7 #[.agg #[.int .i64 W, .int .i64 H, .slice a n c, .slice ta tn tc, .slice pa pn pc]] w fun e w' => e = .returned (.int .i64 (frmE r)) ∧ Below w.heap.size w w' := by
  cases r
  · go_enter Try.func7, Try.ntmps7
    go_wp2_with (go_at_call 21; (with_reducible refine (rmay10_as false W H a n c _ R).mono ?_); rintro e z ⟨rfl, hz⟩; rw [hz]; clear hz z)
    go_ret
    exact ⟨rfl, (Below.refl _ _).alloc (Nat.le_refl _) _⟩
  · go_enter Try.func7, Try.ntmps7
    go_wp2_with (go_at_call 21; (with_reducible refine (rmay10_as true W H a n c _ R).mono ?_); rintro e z ⟨rfl, hz⟩; rw [hz]; clear hz z)
    go_ret
    exact ⟨rfl, (Below.refl _ _).alloc (Nat.le_refl _) _⟩
theorem sparts_no (W H : Int) (a : Option Addr) (n c : Nat) (w : World) (R : Hk (mayS W H n = false)) :
    Calls Try.prog 10 #[.int .i64 W, .int .i64 H, .slice a n c] w fun e w' => e = .returned (.tuple #[.slice none 0 0, .int .i64 1]) ∧ Below w.heap.size w w' := by
  rcases mayS_no R.out with h | ⟨h, ⟨q0, q1, q2, q3⟩, hne⟩
  · have ES := Hk.mk h
    clear h R
    go_enter Try.func10, Try.ntmps10
    go_wp2_with (go_at_call 24; (with_reducible refine (sized_as false W H _ ES).mono ?_); rintro e z ⟨rfl, hb⟩; have HB := Hk.mk hb; clear hb)
    go_ret2
    exact ⟨rfl, HB.out⟩
  · have ES := Hk.mk h
    obtain ⟨m1, m2⟩ := mul_bd q0 q1 q2 q3
    obtain ⟨M, hM⟩ : ∃ M, W * H = M := ⟨_, rfl⟩
    have e1 : IntKind.i64.wrap (W * H) = M := by rw [hM]; exact wr_in' (by omega)
    rw [hM] at hne
    have hned : decide ((n : Int) = M) = false := decide_eq_false hne
    clear hM m1 m2 h R
    go_enter Try.func10, Try.ntmps10
    go_wp2_with (go_at_call 24; (with_reducible refine (sized_as true W H _ ES).mono ?_); rintro e z ⟨rfl, hb⟩; have HB := Hk.mk hb; clear hb)
    go_ret2
    exact ⟨rfl, HB.out⟩
theorem sredo_form (W H t : Int) (a pa : Option Addr) (n c pn pc : Nat) (w : World) (R : Hk (mayS W H n = false ∨ (mayS W H n = true ∧ ¬ (pn : Int) = W * H))) :
    Calls Try.prog 18 #[.int .i64 W, .int .i64 H, .slice a n c, .slice pa pn pc, .int .i64 t] w fun e w' => e = .returned (.tuple #[.slice none 0 0, .int .i64 1]) ∧ Below w.heap.size w w' := by
  rcases R.out with R | ⟨R, hpn⟩
  · rcases mayS_no R with h | ⟨h, ⟨q0, q1, q2, q3⟩, hne⟩
    · have ES := Hk.mk h
      clear h R
      go_enter Try.func18, Try.ntmps18
      go_wp2_with (go_at_call 24; (with_reducible refine (sized_as false W H _ ES).mono ?_); rintro e z ⟨rfl, hb⟩; have HB := Hk.mk hb; clear hb)
      go_ret2
      exact ⟨rfl, HB.out⟩
    · have ES := Hk.mk h
      obtain ⟨m1, m2⟩ := mul_bd q0 q1 q2 q3
      obtain ⟨M, hM⟩ : ∃ M, W * H = M := ⟨_, rfl⟩
      have e1 : IntKind.i64.wrap (W * H) = M := by rw [hM]; exact wr_in' (by omega)
      rw [hM] at hne
      have hned : decide ((n : Int) = M) = false := decide_eq_false hne
      clear hM m1 m2 h R
      go_enter Try.func18, Try.ntmps18
      go_wp2_with (go_at_call 24; (with_reducible refine (sized_as true W H _ ES).mono ?_); rintro e z ⟨rfl, hb⟩; have HB := Hk.mk hb; clear hb)
      go_ret2
      exact ⟨rfl, HB.out⟩
  · obtain ⟨⟨q0, q1, q2, q3⟩, hn⟩ := mayS_yes R
    have ES : Hk (Fx.szB W H = true) := ⟨by unfold Fx.szB; exact decide_eq_true ⟨q0, q1, q2, q3⟩⟩
    obtain ⟨m1, m2⟩ := mul_bd q0 q1 q2 q3
    have e1 : IntKind.i64.wrap (W * H) = (n : Int) := by rw [← hn]; exact wr_in' (by omega)
    rw [← hn] at hpn
    have hpm : ¬ pn = n := fun e => hpn (by rw [e])
    have hned : decide ((pn : Int) = (n : Int)) = false := decide_eq_false hpn
    clear hn m1 m2 R hpn
    go_enter Try.func18, Try.ntmps18
    go_wp2_with (go_at_call 24; (with_reducible refine (sized_as true W H _ ES).mono ?_); rintro e z ⟨rfl, hb⟩; have HB := Hk.mk hb; clear hb)
    go_ret2
    exact ⟨rfl, HB.out⟩
theorem sredo_none (W H t : Int) (a pa : Option Addr) (n c pc : Nat) (w : World) (R : Hk (mayS W H n = true)) (ht : Hk (t < 0 ∨ (n : Int) ≤ t)) :
    Calls Try.prog 18 #[.int .i64 W, .int .i64 H, .slice a n c, .slice pa n pc, .int .i64 t] w fun e w' => e = .returned (.tuple #[.slice none 0 0, .int .i64 3]) ∧ Below w.heap.size w w' := by
  obtain ⟨⟨q0, q1, q2, q3⟩, hn⟩ := mayS_yes R.out
  have ES : Hk (Fx.szB W H = true) := ⟨by unfold Fx.szB; exact decide_eq_true ⟨q0, q1, q2, q3⟩⟩
  obtain ⟨m1, m2⟩ := mul_bd q0 q1 q2 q3
  have e1 : IntKind.i64.wrap (W * H) = (n : Int) := by rw [← hn]; exact wr_in' (by omega)
  clear hn m1 m2 R
  by_cases c0 : t < 0
  · have d0 : decide (t < 0) = true := decide_eq_true c0
    go_enter Try.func18, Try.ntmps18
    go_wp2_with (go_at_call 24; (with_reducible refine (sized_as true W H _ ES).mono ?_); rintro e z ⟨rfl, hb⟩; have HB := Hk.mk hb; clear hb)
    go_ret2
    exact ⟨rfl, HB.out⟩
  · have d0 : decide (t < 0) = false := decide_eq_false c0
    have c1 : (n : Int) ≤ t := by have := ht.out; omega
    have d1 : decide ((n : Int) ≤ t) = true := decide_eq_true c1
    go_enter Try.func18, Try.ntmps18
    go_wp2_with (go_at_call 24; (with_reducible refine (sized_as true W H _ ES).mono ?_); rintro e z ⟨rfl, hb⟩; have HB := Hk.mk hb; clear hb)
    go_ret2
    exact ⟨rfl, HB.out⟩
end Go.Proofs.Ytifnmgbeepgfiaa
/- The reference of layer 10: Parts, on any map. -/
namespace Go.Proofs.Ytifnmgbeepgfiaa
open Go.ChangeShapes Go.WideShapes Go.ChangeAt Go.RowKit Go.Deep
set_option linter.unusedVariables false
set_option linter.unusedSimpArgs false
/-- Two blocks of one's own, one behind the other. -/
theorem own_new20 {w : World} {S c n : Nat} {a : Option Addr} {xs : List Value} (h : w.ownsRow S 3 1 (.slice a n c) n xs) (hn : 0 < n) : ∃ g, a = some ⟨g, 0, none⟩ ∧ S ≤ g := by
  rcases h.2 with ⟨e, h0⟩ | ⟨g', cap, cur, e, hg, _⟩
  · omega
  · injection e with e1
    exact ⟨g', e1, hg⟩
set_option maxRecDepth 1000000 in
set_option maxHeartbeats 6400000 in
theorem rparts_any (W H : Int) (fb fo n fc : Nat) (fr : Nat → Bool) (w : World) (w1 : 1 ≤ W) (w2 : W ≤ 128) (h1 : 1 ≤ H) (h2 : H ≤ 128) (hn : (n : Int) = W * H) (hF : ∀ k, k < n → w.cell? ⟨fb, fo + k, none⟩ = some (.bool (fr k))) (hfl : fb < w.heap.size) :
    Calls Try.prog 8 #[.int .i64 W, .int .i64 H, .slice (some ⟨fb, fo, none⟩) n fc] w fun e w' => ∃ J P, e = .returned (.slice (some ⟨J, 0, none⟩) n n) ∧ w.heap.size ≤ J ∧ Arr w' J n 3 (fun k => .int .i64 (P k)) ∧ IsPart n (nbN W n fr) fr P ∧ Below w.heap.size w w' := by
  obtain ⟨ii, hii, hiz0, hiz1, hiz2⟩ := info_parts info_int
  have n16 : n ≤ 16384 := by have := mul_bd w1 w2 h1 h2; omega
  have HFF := Hk.mk hF
  have e1 : IntKind.i64.wrap (W * H) = (n : Int) := by rw [← hn, IntKind.wrap_i64]; omega
  have n0 : (0 : Int) ≤ (n : Int) := by omega
  clear hF
  go_enter Try.func8, Try.ntmps8
  go_wp2_with (at_make; go_must (refine wpList_make_full _ rfl _ _ 23 rfl w.heap.size 3 ii (.int .i64 0) 1 Try.underlying23 hii hiz0 hiz1 .i64 .i64 _ _ n rfl rfl hn.symm hn.symm (by rw [hiz2]; omega) (by unfold maxLen; omega) (Nat.le_refl _) ?_; intro z1 hown hgrow; have HJ := Hk.mk (Arr.made hown rfl (z := .int .i64 0)); have HB := Hk.mk (below_grown hgrow); clear hown hgrow))
  have HN := Hk.mk hn
  clear hn e1
  obtain ⟨wo, rfl⟩ : ∃ wo : World, wo = z1 := ⟨z1, rfl⟩
  go_loopw [8] (fun jj wr => ∃ t : Nat, jj = .int .i64 t ∧ t ≤ n ∧ Hk (Arr wr w.heap.size n 3 (fun k => .int .i64 (if k < t then (if fr k = true then (k : Int) else -1) else 0))) ∧ Hk (Below w.heap.size w wr)) (fun jj _ => n - (intOf jj).toNat)
  case atStart => exact ⟨0, rfl, by omega, ⟨HJ.out.congr fun k hk => by rw [if_neg (by omega)]⟩, HB⟩
  case round =>
    clear HJ HB
    obtain ⟨t, rfl, ht, HJ, HB⟩ := hrel
    by_cases htn : t < n
    · have t0 : (0 : Int) ≤ (t : Int) := by omega
      have t1 : (t : Int) < (n : Int) := by omega
      have cj := HJ.out.cell htn
      have fj := HJ.out.frozen t
      have hcF : wr.cell? ⟨fb, fo + t, none⟩ = some (.bool (fr t)) := by rw [HB.out.cell (p := ⟨fb, fo + t, none⟩) hfl]; exact HFF.out t htn
      have hcF2 : (wr.setCell ⟨w.heap.size, t, none⟩ (.int .i64 (-1))).cell? ⟨fb, fo + t, none⟩ = some (.bool (fr t)) := by rw [(HB.out.setCell (p := ⟨w.heap.size, t, none⟩) (Nat.le_refl _) _).cell (p := ⟨fb, fo + t, none⟩) hfl]; exact HFF.out t htn
      have HJ1 := Hk.mk (HJ.out.set htn (.int .i64 (-1)))
      have HB1 := Hk.mk (HB.out.setCell (p := ⟨w.heap.size, t, none⟩) (Nat.le_refl _) (.int .i64 (-1)))
      cases hft : fr t
      · rw [hft] at hcF hcF2
        have HJ2 : Hk (Arr (wr.setCell ⟨w.heap.size, t, none⟩ (.int .i64 (-1))) w.heap.size n 3 (fun k => .int .i64 (if k < t + 1 then (if fr k = true then (k : Int) else -1) else 0))) := ⟨HJ1.out.congr fun k hk => by
          by_cases e : k = t
          · subst e; rw [if_pos rfl, if_pos (by omega), hft]; simp
          · rw [if_neg e]
            by_cases e2 : k < t
            · rw [if_pos e2, if_pos (by omega)]
            · rw [if_neg e2, if_neg (by omega)]⟩
        clear HJ HB HJ1 hft
        as_aux_lemma =>
          go_wp2_with fail
          exact ⟨⟨t + 1, by go_num, by omega, HJ2, HB1⟩, by simp [intOf]; omega⟩
      · rw [hft] at hcF hcF2
        have cj2 := HJ1.out.cell htn
        have fj2 := HJ1.out.frozen t
        have HJ2 : Hk (Arr ((wr.setCell ⟨w.heap.size, t, none⟩ (.int .i64 (-1))).setCell ⟨w.heap.size, t, none⟩ (.int .i64 (t : Nat))) w.heap.size n 3 (fun k => .int .i64 (if k < t + 1 then (if fr k = true then (k : Int) else -1) else 0))) := ⟨(HJ1.out.set htn (.int .i64 (t : Nat))).congr fun k hk => by
          by_cases e : k = t
          · subst e; rw [if_pos rfl, if_pos (by omega), hft]; simp
          · rw [if_neg e, if_neg e]
            by_cases e2 : k < t
            · rw [if_pos e2, if_pos (by omega)]
            · rw [if_neg e2, if_neg (by omega)]⟩
        have HB2 := Hk.mk (HB1.out.setCell (p := ⟨w.heap.size, t, none⟩) (Nat.le_refl _) (.int .i64 (t : Nat)))
        clear HJ HB HJ1 HB1 hft
        as_aux_lemma =>
          go_wp2_with fail
          exact ⟨⟨t + 1, by go_num, by omega, HJ2, HB2⟩, by simp [intOf]; omega⟩
    · obtain rfl : n = t := by omega
      clear htn
      go_wp2_with fail
      obtain ⟨wq, rfl⟩ : ∃ wq : World, wq = wr := ⟨wr, rfl⟩
      go_loopw [9] (fun bb wr => ∃ (b : Bool) (P : Nat → Int), bb = .bool b ∧ Hk (Arr wr w.heap.size n 3 (fun k => .int .i64 (P k))) ∧ Hk (Spr n (nbN W n fr) fr P) ∧ Hk (NoLess (nbN W n fr) P n b) ∧ Hk (Below w.heap.size w wr)) (fun bb wr => 2 * sumP (cellW wr w.heap.size) n + boolW bb)
      case atStart => exact ⟨true, _, rfl, ⟨HJ.out.congr fun k hk => by rw [if_pos hk]⟩, ⟨Spr.start⟩, ⟨fun hb => by cases hb⟩, HB⟩
      case round =>
        clear HJ HB
        obtain ⟨b, P0, rfl, HJ, HS, HNL, HB⟩ := hrel
        cases b
        · have HDN := Hk.mk (HS.out.done nbN_symm nbN_lt nbN_free (HNL.out rfl))
          as_aux_lemma =>
            go_wp2_with fail
            go_ret
            exact ⟨w.heap.size, P0, rfl, Nat.le_refl _, HJ.out, HDN.out, HB.out⟩
        · obtain ⟨S0, hS0⟩ : ∃ S0, sumP P0 n = S0 := ⟨_, rfl⟩
          have HM0 : Hk (2 * sumP (cellW wr w.heap.size) n + boolW (.bool true) = 2 * S0 + 1) := ⟨by rw [sumW HJ.out, hS0]; rfl⟩
          have HSM : Hk (sumP P0 n + false.toNat ≤ S0) := ⟨by rw [hS0]; simp⟩
          clear hS0 HNL
          go_wp2_with fail
          obtain ⟨wp, rfl⟩ : ∃ wp : World, wp = wr := ⟨wr, rfl⟩
          go_loopw [9, 10] (fun bb tt wr => ∃ (b : Bool) (t : Nat) (P : Nat → Int), bb = .bool b ∧ tt = .int .i64 t ∧ t ≤ n ∧ Hk (Arr wr w.heap.size n 3 (fun k => .int .i64 (P k))) ∧ Hk (Spr n (nbN W n fr) fr P) ∧ Hk (NoLess (nbN W n fr) P t b) ∧ Hk (sumP P n + b.toNat ≤ S0) ∧ Hk (Below w.heap.size w wr)) (fun _ tt _ => n - (intOf tt).toNat)
          case atStart => exact ⟨false, 0, P0, rfl, rfl, by omega, HJ, HS, ⟨NoLess.zero _ _ _⟩, HSM, HB⟩
          case round =>
            clear HJ HS HSM HB
            obtain ⟨b, t, P, rfl, rfl, ht, HJ, HS, HNL, HSM, HB⟩ := hrel
            by_cases htn : t < n
            · have t0 : (0 : Int) ≤ (t : Int) := by omega
              have t1 : (t : Int) < (n : Int) := by omega
              have hcF : wr.cell? ⟨fb, fo + t, none⟩ = some (.bool (fr t)) := by rw [HB.out.cell (p := ⟨fb, fo + t, none⟩) hfl]; exact HFF.out t htn
              cases hft : fr t
              · rw [hft] at hcF
                have HN2 := Hk.mk (HNL.out.shut fun u hu => by have := hu.2.1.1; rw [hft] at this; cases this)
                clear hft HNL
                as_aux_lemma =>
                  go_wp2_with fail
                  exact ⟨⟨b, t + 1, P, rfl, by go_num, by omega, HJ, HS, HN2, HSM, HB⟩, by simp [intOf]; omega⟩
              · rw [hft] at hcF
                have HFT := Hk.mk hft
                clear hft
                have hJl := HJ.out.lt
                as_aux_lemma =>
                  have hWH := HN.out
                  have t2 : (t : Int) < W * H := by omega
                  clear hWH
                  go_wp2_with (go_at_call 22; (with_reducible refine (rbeside_any W H t _ w1 w2 h1 h2 (by omega) (by omega)).mono ?_); rintro e z ⟨rv, rfl, hro, hb⟩; rw [rbesN_vals w1 HN.out htn, rbesN_len] at hro; obtain ⟨aR, cR, rfl, hra⟩ := own_form20 hro; have HRA := Hk.mk hra; have HRO := Hk.mk hro; have HJ2 := Hk.mk (HJ.out.later hb); have HB2 := Hk.mk (HB.out.trans (hb.mono HB.out.size)); clear hra hro hb)
                  have HRA := HRA
                  have HRO := HRO
                  have HJ2 := HJ2
                  have HB2 := HB2
                  obtain ⟨R, hR⟩ : ∃ R, rbesN W H t = R := ⟨_, rfl⟩
                  have hRl : R.length ≤ 4 := by rw [← hR]; exact rbesN_le _ _ _
                  have HNJ : Hk (NoLessJ (nbN W n fr) P R t 0 b) := ⟨HNL.out.start⟩
                  rw [hR] at HRA HRO ⊢
                  have HRE := Hk.mk hR
                  clear hR HJ HB HNL
                  obtain ⟨B2, hB2⟩ : ∃ B2, wr.heap.size = B2 := ⟨_, rfl⟩
                  have hJB : w.heap.size < B2 := by rw [← hB2]; exact hJl
                  rw [hB2] at HRO
                  obtain ⟨ot, hot⟩ : ∃ o, Fx.ofS W (t : Nat) = o := ⟨_, rfl⟩
                  have EOT := Hk.mk hot
                  have t3 : (t : Int) ≤ 16384 := by omega
                  clear hot hB2
                  go_loopw [9, 12] (fun bb jj wr => ∃ (j : Nat) (b : Bool) (P : Nat → Int), bb = .bool b ∧ jj = .int .i64 j ∧ j ≤ R.length ∧ Hk (World.ownsRow wr B2 3 1 (.slice aR R.length cR) R.length (natsL R)) ∧ Hk (Arr wr w.heap.size n 3 (fun k => .int .i64 (P k))) ∧ Hk (Spr n (nbN W n fr) fr P) ∧ Hk (NoLessJ (nbN W n fr) P R t j b) ∧ Hk (sumP P n + b.toNat ≤ S0) ∧ Hk (Below w.heap.size w wr)) (fun _ jj _ => R.length - (intOf jj).toNat)
                  case atStart => exact ⟨0, b, P, rfl, rfl, by omega, HRO, HJ2, HS, HNJ, HSM, HB2⟩
                  case round =>
                    clear HRO HJ2 HS HNJ HSM HB2
                    obtain ⟨j, b, P, rfl, rfl, hjR, HRO, HJ, HS, HNJ, HSM, HB⟩ := hrel
                    by_cases hjl : j < R.length
                    · obtain ⟨gR, rfl⟩ := HRA.out (by omega)
                      have cj := own_at20 HRO.out hjl
                      obtain ⟨v, hv⟩ : ∃ v, R[j] = v := ⟨_, rfl⟩
                      have hvm : v ∈ rbesN W H t := by rw [HRE.out, ← hv]; exact List.getElem_mem hjl
                      have hvb := (rbesN_mem w1 HN.out htn).1 hvm
                      rw [hv] at cj
                      have j0 : (0 : Int) ≤ (j : Int) := by omega
                      have j1 : (j : Int) < (R.length : Int) := by omega
                      have hvn := hvb.1
                      have v0 : (0 : Int) ≤ (v : Int) := by omega
                      have v1 : (v : Int) < (n : Int) := by omega
                      have v2 : (v : Int) ≤ 16384 := by omega
                      have hcF : wr.cell? ⟨fb, fo + v, none⟩ = some (.bool (fr v)) := by rw [HB.out.cell (p := ⟨fb, fo + v, none⟩) hfl]; exact HFF.out v hvn
                      have hcP := HJ.out.cell hvn
                      have hcT := HJ.out.cell htn
                      have hfT := HJ.out.frozen t
                      obtain ⟨ov, hov⟩ : ∃ o, Fx.ofS W (v : Nat) = o := ⟨_, rfl⟩
                      have EOV := Hk.mk hov
                      have hNv : (nbN W n fr) t v → ov = ot ∧ fr v = true := fun h => ⟨by have := (ofS_iff (a := t) (b := v) w1).2 h.2.2.1; rw [hov, EOT.out] at this; exact this.symm, h.2.1.2⟩
                      have hNb : ov = ot → fr v = true → (nbN W n fr) t v := fun h1 h2 => ⟨⟨htn, hvn⟩, ⟨HFT.out, h2⟩, (ofS_iff w1).1 (by rw [hov, EOT.out, h1]), hvb.2⟩
                      clear hov hcT
                      have hcT := HJ.out.cell htn
                      cases hfv : fr v
                      · rw [hfv] at hcF
                        have HPU := Hk.mk (HNJ.out.skip fun hj hn => by rw [hv] at hn; have := (hNv hn).2; rw [hfv] at this; cases this)
                        clear hfv hNv hNb HNJ
                        as_aux_lemma =>
                          go_wp2_with fail
                          go_quiet (fail)
                          go_wp2_with fail
                          exact ⟨⟨j + 1, b, P, rfl, by go_num, by omega, ⟨HRO.out⟩, ⟨HJ.out.drewN nq⟩, HS, HPU, HSM, ⟨below_drewN HB.out nq⟩⟩, by simp [intOf]; omega⟩
                      · rw [hfv] at hcF
                        by_cases heq : ov = ot
                        · by_cases hlt : P v < P t
                          · have d2 : decide (P v < P t) = true := decide_eq_true hlt
                            have hN := hNb heq hfv
                            have HS2 := Hk.mk (HS.out.take nbN_free hN hvn hlt)
                            have hput := sumP_put (P := P) (n := n) (by
                              obtain ⟨m, e1, _⟩ := HS.out.yes v hvn hfv
                              rw [e1]; omega : 0 ≤ P v) hlt htn
                            have HSM2 : Hk (sumP (updP P t (P v)) n + true.toNat ≤ S0) := ⟨by have := HSM.out; simp; omega⟩
                            have HJ3 : ∀ q, Hk (Arr ((wr.drewN q).setCell ⟨w.heap.size, t, none⟩ (.int .i64 (P v))) w.heap.size n 3 (fun k => .int .i64 (updP P t (P v) k))) := fun q => ⟨((HJ.out.drewN q).set htn _).congr fun k hk => by
                              show Value.int .i64 (updP P t (P v) k) = if k = t then _ else _
                              unfold updP
                              by_cases e : k = t
                              · rw [if_pos e, if_pos e]
                              · rw [if_neg e, if_neg e]⟩
                            have HB3 := fun q => Hk.mk ((below_drewN HB.out q).setCell (p := ⟨w.heap.size, t, none⟩) (Nat.le_refl _) (.int .i64 (P v)))
                            have HRO3 : ∀ q, Hk (World.ownsRow ((wr.drewN q).setCell ⟨w.heap.size, t, none⟩ (.int .i64 (P v))) B2 3 1 (.slice (some ⟨gR, 0, none⟩) R.length cR) R.length (natsL R)) := fun q => ⟨ownsRow_setCell_below (w := wr.drewN q) HRO.out (a := ⟨w.heap.size, t, none⟩) hJB _⟩
                            clear hfv hNv hNb HNJ hput hN hlt
                            subst heq
                            as_aux_lemma =>
                              go_wp2_with fail
                              go_quiet (first | ((go_at_call 23; refine Calls.quiet_of (v := .int .i64 ov) ?_; with_reducible exact rsof_qas W (v : Nat) ov _ w1 w2 v0 v2 EOV)) | ((go_at_call 23; refine Calls.quiet_of (v := .int .i64 ov) ?_; with_reducible exact rsof_qas W (t : Nat) ov _ w1 w2 t0 t3 EOT)))
                              go_wp2_with fail
                              exact ⟨⟨j + 1, true, updP P t (P v), rfl, by go_num, by omega, HRO3 nq, HJ3 nq, HS2, ⟨NoLessJ.any _ _ _ _ _⟩, HSM2, HB3 nq⟩, by simp [intOf]; omega⟩
                          · have d2 : decide (P v < P t) = false := decide_eq_false hlt
                            have HPU := Hk.mk (HNJ.out.skip fun hj hn => by rw [hv]; omega)
                            clear hfv hNv hNb HNJ hlt
                            subst heq
                            as_aux_lemma =>
                              go_wp2_with fail
                              go_quiet (first | ((go_at_call 23; refine Calls.quiet_of (v := .int .i64 ov) ?_; with_reducible exact rsof_qas W (v : Nat) ov _ w1 w2 v0 v2 EOV)) | ((go_at_call 23; refine Calls.quiet_of (v := .int .i64 ov) ?_; with_reducible exact rsof_qas W (t : Nat) ov _ w1 w2 t0 t3 EOT)))
                              go_wp2_with fail
                              exact ⟨⟨j + 1, b, P, rfl, by go_num, by omega, ⟨HRO.out⟩, ⟨HJ.out.drewN nq⟩, HS, HPU, HSM, ⟨below_drewN HB.out nq⟩⟩, by simp [intOf]; omega⟩
                        · have d1 : decide (ov = ot) = false := decide_eq_false heq
                          have HPU := Hk.mk (HNJ.out.skip fun hj hn => by rw [hv] at hn; exact absurd (hNv hn).1 heq)
                          clear hfv hNv hNb HNJ
                          as_aux_lemma =>
                            go_wp2_with fail
                            go_quiet (first | ((go_at_call 23; refine Calls.quiet_of (v := .int .i64 ov) ?_; with_reducible exact rsof_qas W (v : Nat) ov _ w1 w2 v0 v2 EOV)) | ((go_at_call 23; refine Calls.quiet_of (v := .int .i64 ot) ?_; with_reducible exact rsof_qas W (t : Nat) ot _ w1 w2 t0 t3 EOT)))
                            go_wp2_with fail
                            exact ⟨⟨j + 1, b, P, rfl, by go_num, by omega, ⟨HRO.out⟩, ⟨HJ.out.drewN nq⟩, HS, HPU, HSM, ⟨below_drewN HB.out nq⟩⟩, by simp [intOf]; omega⟩
                    · obtain rfl : j = R.length := by omega
                      have HDN := Hk.mk (HNJ.out.done fun u hu => by rw [← HRE.out]; exact (rbesN_mem w1 HN.out htn).2 ⟨hu.1.2, hu.2.2.2⟩)
                      clear hjl HNJ
                      as_aux_lemma =>
                        go_wp2_with fail
                        exact ⟨⟨b, t + 1, P, rfl, by go_num, by omega, HJ, HS, HDN, HSM, HB⟩, by simp [intOf]; omega⟩
            · obtain rfl : n = t := by omega
              clear htn
              as_aux_lemma =>
                go_wp2_with fail
                exact ⟨⟨b, P, rfl, HJ, HS, HNL, HB⟩, by have h1 := sumW HJ.out; have h2 := HM0.out; have h3 := HSM.out; rw [h1, h2]; cases b <;> simp [boolW] at h3 ⊢ <;> omega⟩
end Go.Proofs.Ytifnmgbeepgfiaa
/- For every argument, SectorParts answers true and leaves its argument as it was: which part each tile of any map is of is the page's, or refused. No condition. -/
namespace Go.Proofs.Ytifnmgbeepgfiaa
open Go.ChangeShapes Go.WideShapes Go.ChangeAt Go.RowKit Go.Deep
set_option linter.unusedVariables false
set_option linter.unusedSimpArgs false
theorem hszA {w X : World} {o : Obj} (h : Below (w.heap.size + 1) (w.alloc o) X) : w.heap.size ≤ X.heap.size := by have := h.size; simp at this; omega
theorem rd_to {w z : World} {B n m : Nat} {a : Option Addr} {f : Nat → Value} (h : Rd w B a n f) (e : z = w.drewN m) : Rd z B a n f := by subst e; exact h
theorem below_to {w0 w z : World} {B m : Nat} (h : Below B w0 w) (e : z = w.drewN m) : Below B w0 z := by subst e; exact below_drewN h m
theorem arr_to {w z : World} {g n m : Nat} {T : TypeId} {f : Nat → Value} (h : Arr w g n T f) (e : z = w.drewN m) : Arr z g n T f := by subst e; exact h.drewN m
theorem form10_yes (W H : Int) (a ta pa : Option Addr) (n c tn tc pn pc : Nat) (w : World) (R : Hk (mayS W H n = true)) :
    Calls Try.prog 7 #[.agg #[.int .i64 W, .int .i64 H, .slice a n c, .slice ta tn tc, .slice pa pn pc]] w fun e w' => e = .returned (.int .i64 0) ∧ Below w.heap.size w w' := form10_as true W H a ta pa n c tn tc pn pc w R
theorem form10_no (W H : Int) (a ta pa : Option Addr) (n c tn tc pn pc : Nat) (w : World) (R : Hk (mayS W H n = false)) :
    Calls Try.prog 7 #[.agg #[.int .i64 W, .int .i64 H, .slice a n c, .slice ta tn tc, .slice pa pn pc]] w fun e w' => e = .returned (.int .i64 1) ∧ Below w.heap.size w w' := form10_as false W H a ta pa n c tn tc pn pc w R
theorem numbers_none (w : World) : Calls Try.prog 14 #[.slice none 0 0] w fun e w' => e = .returned (.tuple #[]) ∧ Below w.heap.size w w' := by
  obtain ⟨ii, hii, hiz0, hiz1, hiz2⟩ := info_parts info_int
  have HO := Hk.mk (World.ownsRow_nil w w.heap.size 3 1)
  go_enter Try.func14, Try.ntmps14
  go_wp2
  go_loopw [2] (fun i wr => i = .int .i64 0 ∧ wr = w) (fun i _ => 0)
  case atStart => exact ⟨rfl, rfl⟩
  case round =>
    obtain ⟨rfl, rfl⟩ := hrel
    have hbase : wr.heap.size ≤ (wr.alloc (.cells #[.int .i64 5] 3)).heap.size := by simp
    go_wp2_with (at_builtin; refine wpList_append_own _ rfl _ _ 23 rfl wr.heap.size 3 ii (.int .i64 0) 1 8 Try.underlying23 hii hiz0 hiz1 hiz2 rfl (by decide) _ _ _ rfl (HO.out.alloc _) ⟨wr.heap.size, 0, none⟩ 1 1 [.int .i64 5] rfl rfl (one_new _ _ _) (one_it _) (by unfold maxLen; omega) (by omega) hbase ?_)
    intro v' w1 hown' hgrow _
    have HG := Hk.mk hgrow
    clear hgrow hown'
    go_wp2
    go_end0
    exact ⟨rfl, ((Below.refl _ _).alloc (Nat.le_refl _) _).grown HG.out (by simp) (fun g hg => by cases hg)⟩
set_option maxRecDepth 100000 in
theorem sectorParts_big (W H : Int) (fa : Option Addr) (fn fc : Nat) (fr : Nat → Bool) (ta : Option Addr) (tn tc : Nat) (ts : List Int) (pa : Option Addr) (pn pc : Nat) (ps : List Int) (w : World) (hfn : fn ≤ 9223372036854775807) (htn : tn ≤ 9223372036854775807) (hpn : pn ≤ 9223372036854775807) (hfr : Rd w w.heap.size fa fn (fun k => .bool (fr k))) (hts : Nq w w.heap.size (ta) tn ts) (hps : Nq w w.heap.size (pa) pn ps) (HV : Hk (heavyS fn tn pn = true)) :
    Calls Try.prog 3 #[.agg #[.int .i64 W, .int .i64 H, .slice fa fn fc, .slice (ta) tn tc, .slice (pa) pn pc]] w fun e w' => e = .returned (.bool true) ∧ Below w.heap.size w w' := by
  have HWB : Hk (Below w.heap.size w (w.alloc (.cells #[.int .i64 W, .int .i64 H, .slice fa fn fc, .slice (ta) tn tc, .slice (pa) pn pc] 25))) := ⟨(Below.refl _ _).alloc (Nat.le_refl _) _⟩
  have hNW : (w.heap.size + 1) ≤ (w.alloc (.cells #[.int .i64 W, .int .i64 H, .slice fa fn fc, .slice (ta) tn tc, .slice (pa) pn pc] 25)).heap.size := by simp
  have HB : Hk (Below (w.heap.size + 1) (w.alloc (.cells #[.int .i64 W, .int .i64 H, .slice fa fn fc, .slice (ta) tn tc, .slice (pa) pn pc] 25)) (w.alloc (.cells #[.int .i64 W, .int .i64 H, .slice fa fn fc, .slice (ta) tn tc, .slice (pa) pn pc] 25))) := ⟨Below.refl _ _⟩
  have HTR : Hk (∀ X, Below (w.heap.size + 1) (w.alloc (.cells #[.int .i64 W, .int .i64 H, .slice fa fn fc, .slice (ta) tn tc, .slice (pa) pn pc] 25)) X → Below w.heap.size w X) := ⟨fun X hX => HWB.out.trans (hX.mono (by omega))⟩
  clear hfr hts hps
  obtain ⟨hc, hf, hl, hn', hm⟩ := kw_rules HB.out hNW
  go_enter Try.func3, Try.ntmps3
  go_wp2_with (go_at_call 6; (with_reducible refine (heavy10_as true W H fa (ta) (pa) fn fc tn tc pn pc _ hfn htn hpn HV).mono ?_); rintro e z ⟨rfl, hb⟩; replace HB := Hk.mk (kw_step HB.out hNW hb); clear hb; clear hc hf hl hn' hm; obtain ⟨hc, hf, hl, hn', hm⟩ := kw_rules HB.out hNW)
  go_ret
  exact ⟨rfl, HTR.out _ HB.out⟩
set_option maxRecDepth 100000 in
theorem sectorParts_no (W H : Int) (fa : Option Addr) (fn fc : Nat) (fr : Nat → Bool) (ta : Option Addr) (tn tc : Nat) (ts : List Int) (pa : Option Addr) (pn pc : Nat) (ps : List Int) (w : World) (hfn : fn ≤ 9223372036854775807) (htn : tn ≤ 9223372036854775807) (hpn : pn ≤ 9223372036854775807) (hfr : Rd w w.heap.size fa fn (fun k => .bool (fr k))) (hts : Nq w w.heap.size (ta) tn ts) (hps : Nq w w.heap.size (pa) pn ps) (HV : Hk (heavyS fn tn pn = false)) (MM : Hk (mayS W H fn = false)) :
    Calls Try.prog 3 #[.agg #[.int .i64 W, .int .i64 H, .slice fa fn fc, .slice (ta) tn tc, .slice (pa) pn pc]] w fun e w' => e = .returned (.bool true) ∧ Below w.heap.size w w' := by
  have HWB : Hk (Below w.heap.size w (w.alloc (.cells #[.int .i64 W, .int .i64 H, .slice fa fn fc, .slice (ta) tn tc, .slice (pa) pn pc] 25))) := ⟨(Below.refl _ _).alloc (Nat.le_refl _) _⟩
  have hNW : (w.heap.size + 1) ≤ (w.alloc (.cells #[.int .i64 W, .int .i64 H, .slice fa fn fc, .slice (ta) tn tc, .slice (pa) pn pc] 25)).heap.size := by simp
  have HB : Hk (Below (w.heap.size + 1) (w.alloc (.cells #[.int .i64 W, .int .i64 H, .slice fa fn fc, .slice (ta) tn tc, .slice (pa) pn pc] 25)) (w.alloc (.cells #[.int .i64 W, .int .i64 H, .slice fa fn fc, .slice (ta) tn tc, .slice (pa) pn pc] 25))) := ⟨Below.refl _ _⟩
  have HTR : Hk (∀ X, Below (w.heap.size + 1) (w.alloc (.cells #[.int .i64 W, .int .i64 H, .slice fa fn fc, .slice (ta) tn tc, .slice (pa) pn pc] 25)) X → Below w.heap.size w X) := ⟨fun X hX => HWB.out.trans (hX.mono (by omega))⟩
  have hfs : fn ≤ 900 := by have := HV.out; unfold heavyS at this; simp at this; omega
  have HFR := Hk.mk (fun (X : World) (hX : Below (w.heap.size + 1) (w.alloc (.cells #[.int .i64 W, .int .i64 H, .slice fa fn fc, .slice (ta) tn tc, .slice (pa) pn pc] 25)) X) => hfr.below (HTR.out X hX) (Nat.le_refl _))
  clear hfr hts hps
  obtain ⟨hc, hf, hl, hn', hm⟩ := kw_rules HB.out hNW
  go_enter Try.func3, Try.ntmps3
  go_wp2_with (first
    | (go_at_call 6; (with_reducible refine (heavy10_as false W H fa (ta) (pa) fn fc tn tc pn pc _ hfn htn hpn HV).mono ?_); rintro e z ⟨rfl, hb⟩; replace HB := Hk.mk (kw_step HB.out hNW hb); clear hb; clear hc hf hl hn' hm; obtain ⟨hc, hf, hl, hn', hm⟩ := kw_rules HB.out hNW)
    | (go_at_call 7; (with_reducible refine (form10_no W H fa (ta) (pa) fn fc tn tc pn pc _ MM).mono ?_); rintro e z ⟨rfl, hb⟩; replace HB := Hk.mk (kw_step HB.out hNW hb); clear hb; clear hc hf hl hn' hm; obtain ⟨hc, hf, hl, hn', hm⟩ := kw_rules HB.out hNW)
    | (go_at_call 9; (with_reducible refine (copybl_any fa fn fc fr _ ?_ (by omega)).mono ?_); (exact fun hn => by obtain ⟨b, o, e1, h1, h2⟩ := HFR.out _ HB.out hn; exact ⟨b, o, e1, by have := hszA HB.out; omega, h2⟩); rintro e z ⟨a2, c2, rfl, hr2, hlo, hb⟩; have HR2 := Hk.mk hr2; clear hr2 hlo; replace HB := Hk.mk (kw_step HB.out hNW hb); clear hb; clear hc hf hl hn' hm; obtain ⟨hc, hf, hl, hn', hm⟩ := kw_rules HB.out hNW)
    | (go_at_call 10; (with_reducible refine (sparts_no W H a2 fn c2 _ MM).mono ?_); rintro e z ⟨rfl, hb⟩; replace HR2 := Hk.mk (HR2.out.below hb (Nat.le_refl _)); replace HB := Hk.mk (kw_step HB.out hNW hb); clear hb; clear hc hf hl hn' hm; obtain ⟨hc, hf, hl, hn', hm⟩ := kw_rules HB.out hNW)
    | (go_at_call 11; (with_reducible refine (num10_any _ _).mono ?_); rintro e z ⟨rfl, rfl⟩)
    | (go_at_call 12; (with_reducible refine (eqn_yes none none 0 0 0 0 0 [] _ (Nq.nil _ _ _) (Nq.nil _ _ _) (by omega)).mono ?_); rintro e z ⟨rfl, mm, hz⟩; replace HR2 := Hk.mk (rd_to HR2.out hz); replace HB := Hk.mk (below_to HB.out hz); clear hz; clear hc hf hl hn' hm; obtain ⟨hc, hf, hl, hn', hm⟩ := kw_rules HB.out hNW)
    | (go_at_call 13; (with_reducible refine (eqbl_yes a2 fa fn c2 fc _ _ fr _ HR2.out (HFR.out _ HB.out) (by omega)).mono ?_); rintro e z ⟨rfl, mm, hz⟩; replace HB := Hk.mk (below_to HB.out hz); clear hz; clear hc hf hl hn' hm; obtain ⟨hc, hf, hl, hn', hm⟩ := kw_rules HB.out hNW)
    | (go_at_call 14; (with_reducible refine (numbers_none _).mono ?_); rintro e z ⟨rfl, hb⟩; replace HB := Hk.mk (kw_step HB.out hNW hb); clear hb; clear hc hf hl hn' hm; obtain ⟨hc, hf, hl, hn', hm⟩ := kw_rules HB.out hNW)
    | (go_at_call 15; (with_reducible refine (wakes10_any _).mono ?_); rintro e z ⟨rfl, hb⟩; replace HB := Hk.mk (kw_step HB.out hNW hb); clear hb; clear hc hf hl hn' hm; obtain ⟨hc, hf, hl, hn', hm⟩ := kw_rules HB.out hNW))
  go_ret
  exact ⟨rfl, HTR.out _ HB.out⟩
set_option maxRecDepth 100000 in
theorem sectorParts_yes (W H : Int) (fb fo fc n : Nat) (fr : Nat → Bool) (ta : Option Addr) (tn tc : Nat) (pa : Option Addr) (pn pc : Nat) (w : World) (hfn : n ≤ 9223372036854775807) (htn : tn ≤ 9223372036854775807) (hpn : pn ≤ 9223372036854775807) (hfl : fb < w.heap.size) (hF : ∀ k, k < n → w.cell? ⟨fb, fo + k, none⟩ = some (.bool (fr k))) (hn0 : 0 < n) (HV : Hk (heavyS n tn pn = false)) (MM : Hk (mayS W H n = true)) :
    Calls Try.prog 3 #[.agg #[.int .i64 W, .int .i64 H, .slice (some ⟨fb, fo, none⟩) n fc, .slice ta tn tc, .slice pa pn pc]] w fun e w' => e = .returned (.bool true) ∧ Below w.heap.size w w' := by
  have HWB : Hk (Below w.heap.size w (w.alloc (.cells #[.int .i64 W, .int .i64 H, .slice (some ⟨fb, fo, none⟩) n fc, .slice (ta) tn tc, .slice (pa) pn pc] 25))) := ⟨(Below.refl _ _).alloc (Nat.le_refl _) _⟩
  have hNW : (w.heap.size + 1) ≤ (w.alloc (.cells #[.int .i64 W, .int .i64 H, .slice (some ⟨fb, fo, none⟩) n fc, .slice (ta) tn tc, .slice (pa) pn pc] 25)).heap.size := by simp
  have HB : Hk (Below (w.heap.size + 1) (w.alloc (.cells #[.int .i64 W, .int .i64 H, .slice (some ⟨fb, fo, none⟩) n fc, .slice (ta) tn tc, .slice (pa) pn pc] 25)) (w.alloc (.cells #[.int .i64 W, .int .i64 H, .slice (some ⟨fb, fo, none⟩) n fc, .slice (ta) tn tc, .slice (pa) pn pc] 25))) := ⟨Below.refl _ _⟩
  have HTR : Hk (∀ X, Below (w.heap.size + 1) (w.alloc (.cells #[.int .i64 W, .int .i64 H, .slice (some ⟨fb, fo, none⟩) n fc, .slice (ta) tn tc, .slice (pa) pn pc] 25)) X → Below w.heap.size w X) := ⟨fun X hX => HWB.out.trans (hX.mono (by omega))⟩
  have hfs : n ≤ 900 := by have := HV.out; unfold heavyS at this; simp at this; omega
  have HFR := Hk.mk (fun (X : World) (hX : Below (w.heap.size + 1) (w.alloc (.cells #[.int .i64 W, .int .i64 H, .slice (some ⟨fb, fo, none⟩) n fc, .slice (ta) tn tc, .slice (pa) pn pc] 25)) X) (k : Nat) (hk : k < n) => ((HTR.out X hX).cell (p := ⟨fb, fo + k, none⟩) hfl).trans (hF k hk))
  obtain ⟨⟨w1, w2, h1, h2⟩, hn⟩ := mayS_yes MM.out
  have HN := Hk.mk hn
  clear hF hn
  obtain ⟨hc, hf, hl, hn', hm⟩ := kw_rules HB.out hNW
  go_enter Try.func3, Try.ntmps3
  go_wp2_with (first
    | (go_at_call 6; (with_reducible refine (heavy10_as false W H _ (ta) (pa) n fc tn tc pn pc _ hfn htn hpn HV).mono ?_); rintro e z ⟨rfl, hb⟩; replace HB := Hk.mk (kw_step HB.out hNW hb); clear hb; clear hc hf hl hn' hm; obtain ⟨hc, hf, hl, hn', hm⟩ := kw_rules HB.out hNW)
    | (go_at_call 7; (with_reducible refine (form10_yes W H _ (ta) (pa) n fc tn tc pn pc _ MM).mono ?_); rintro e z ⟨rfl, hb⟩; replace HB := Hk.mk (kw_step HB.out hNW hb); clear hb; clear hc hf hl hn' hm; obtain ⟨hc, hf, hl, hn', hm⟩ := kw_rules HB.out hNW)
    | (go_at_call 8; (with_reducible refine (rparts_any W H fb fo n fc fr _ w1 w2 h1 h2 HN.out (HFR.out _ HB.out) (Nat.lt_of_lt_of_le hfl (hszA HB.out))).mono ?_); rintro e z ⟨I, P1, rfl, hg1, hA1, hp1, hb⟩; have HA1 := Hk.mk hA1; have HP1 := Hk.mk hp1; clear hA1 hp1 hg1; replace HB := Hk.mk (kw_step HB.out hNW hb); clear hb; clear hc hf hl hn' hm; obtain ⟨hc, hf, hl, hn', hm⟩ := kw_rules HB.out hNW)
    | (go_at_call 9; (with_reducible refine (copybl_any _ n fc fr _ ?_ (by omega)).mono ?_); (exact fun _ => ⟨fb, fo, rfl, Nat.lt_of_lt_of_le hfl (hszA HB.out), HFR.out _ HB.out⟩); rintro e z ⟨a2, c2, rfl, hr2, hlo, hb⟩; obtain ⟨b2, o2, rfl, hb2, hc2⟩ := hr2 hn0; replace HA1 := Hk.mk (HA1.out.later hb); have HR2 := Hk.mk (And.intro hb2 hc2); clear hr2 hlo hb2 hc2; replace HB := Hk.mk (kw_step HB.out hNW hb); clear hb; clear hc hf hl hn' hm; obtain ⟨hc, hf, hl, hn', hm⟩ := kw_rules HB.out hNW)
    | (go_at_call 10; (with_reducible refine (sparts_any W H b2 o2 n c2 fr _ w1 w2 h1 h2 HN.out HR2.out.2 HR2.out.1).mono ?_); rintro e z ⟨J, P2, rfl, hg2, hA2, hp2, hb⟩; replace HA1 := Hk.mk (HA1.out.later hb); replace HR2 := Hk.mk (And.intro (Nat.lt_of_lt_of_le HR2.out.1 hb.size) (fun k hk => (hb.cell (p := ⟨b2, o2 + k, none⟩) HR2.out.1).trans (HR2.out.2 k hk))); have HA2 : Hk (Arr _ J n 3 (fun k => .int .i64 (P1 k))) := ⟨hA2.congr fun k hk => by rw [HP1.out.eq hp2 hk]⟩; have HJ : Hk (w.heap.size + 1 ≤ J) := ⟨by have := kw_size HB.out hNW; omega⟩; clear hA2 hg2 hp2; replace HB := Hk.mk (kw_step HB.out hNW hb); clear hb; clear hc hf hl hn' hm; obtain ⟨hc, hf, hl, hn', hm⟩ := kw_rules HB.out hNW)
    | (go_at_call 11; (with_reducible refine (num10_any _ _).mono ?_); rintro e z ⟨rfl, rfl⟩)
    | (go_at_call 12; (with_reducible refine (eqn_yes _ _ n _ _ (J + 1) (I + 1) ((List.range n).map P1) _ (HA2.out.nq (Nat.lt_succ_self J)) (HA1.out.nq (Nat.lt_succ_self I)) (by omega)).mono ?_); rintro e z ⟨rfl, mm, hz⟩; replace HA2 := Hk.mk (arr_to HA2.out hz); replace HR2 := Hk.mk (And.intro (show b2 < z.heap.size by rw [hz]; exact HR2.out.1) (fun k hk => (show z.cell? ⟨b2, o2 + k, none⟩ = some (.bool (fr k)) by rw [hz]; exact HR2.out.2 k hk))); replace HB := Hk.mk (below_to HB.out hz); clear hz; clear hc hf hl hn' hm; obtain ⟨hc, hf, hl, hn', hm⟩ := kw_rules HB.out hNW)
    | (go_at_call 13; (with_reducible refine (eqbl_yes _ _ n _ _ (b2 + 1) (fb + 1) fr _ ?_ ?_ (by omega)).mono ?_); (exact fun _ => ⟨b2, o2, rfl, Nat.lt_succ_self _, HR2.out.2⟩); (exact fun _ => ⟨fb, fo, rfl, Nat.lt_succ_self _, HFR.out _ HB.out⟩); rintro e z ⟨rfl, mm, hz⟩; replace HA2 := Hk.mk (arr_to HA2.out hz); replace HR2 := Hk.mk (And.intro (show b2 < z.heap.size by rw [hz]; exact HR2.out.1) (fun k hk => (show z.cell? ⟨b2, o2 + k, none⟩ = some (.bool (fr k)) by rw [hz]; exact HR2.out.2 k hk))); replace HB := Hk.mk (below_to HB.out hz); clear hz; clear hc hf hl hn' hm; obtain ⟨hc, hf, hl, hn', hm⟩ := kw_rules HB.out hNW)
    | (go_at_call 14; (with_reducible refine (numbers_as n J P1 _ HA2.out (by omega)).mono ?_); rintro e z ⟨rfl, hb⟩; replace HB := Hk.mk (HB.out.trans (hb.mono HJ.out)); clear hb; clear hc hf hl hn' hm; obtain ⟨hc, hf, hl, hn', hm⟩ := kw_rules HB.out hNW)
    | (go_at_call 15; (with_reducible refine (wakes10_any _).mono ?_); rintro e z ⟨rfl, hb⟩; replace HB := Hk.mk (kw_step HB.out hNW hb); clear hb; clear hc hf hl hn' hm; obtain ⟨hc, hf, hl, hn', hm⟩ := kw_rules HB.out hNW))
  go_ret
  exact ⟨rfl, HTR.out _ HB.out⟩
theorem sectorParts_walk (v : Value) (w : World) (rows : Asks10b w v) :
    Calls Try.prog 3 #[v] w fun e w' => e = .returned (.bool true) ∧ Below w.heap.size w w' := by
  obtain ⟨W, H, fa, fn, fc, fr, ta, tn, tc, ts, pa, pn, pc, ps, rfl, hfn, htn, hpn, hfr, hts, hps⟩ := rows
  cases hv : heavyS fn tn pn
  · cases hm : mayS W H fn
    · exact sectorParts_no W H fa fn fc fr ta tn tc ts pa pn pc ps w hfn htn hpn hfr hts hps ⟨hv⟩ ⟨hm⟩
    · obtain ⟨⟨w1, w2, h1, h2⟩, hn⟩ := mayS_yes hm
      have hp : 1 * 1 ≤ W * H := Int.mul_le_mul w1 h1 (by omega) (by omega)
      have hn0 : 0 < fn := by omega
      obtain ⟨fb, fo, rfl, hfl, hF⟩ := hfr hn0
      exact sectorParts_yes W H fb fo fc fn fr ta tn tc pa pn pc w hfn htn hpn hfl hF hn0 ⟨hv⟩ ⟨hm⟩
  · exact sectorParts_big W H fa fn fc fr ta tn tc ts pa pn pc ps w hfn htn hpn hfr hts hps ⟨hv⟩

theorem sectorParts_own : ownKnob Try.prog.godebug = none := by kernel_rfl
theorem sectorParts_laidOut : laidOutB Try.prog = true := by kernel_rfl
set_option maxRecDepth 100000 in
theorem sectorParts_lifted (os : Os) (started : os.Started) (H : Type) (enc : TypeId × Value → H) :
    ReturnsInHanded {} Try.checked os 3 .any (Rows.sectorPartsSpec.pre6 enc Try.prog Try.f3 Rows.sectorPartsRow.domain false) (Rows.sectorPartsSpec.post enc Try.prog Try.f3 false true false false) := by
  refine returnsInHanded_of_change (C := Try.checked) sectorParts_own started (by kernel_rfl) Try.func3
    (ChangeSpec.witness6 (enc := enc) (C := Try.checked) false ⟨#[], #[.agg #[.int .i64 0, .int .i64 0, .slice none 0 0, .slice none 0 0, .slice none 0 0]], []⟩ 8 (by kernel_rfl) (by kernel_rfl) (by kernel_rfl) (by kernel_rfl)) ?_
  intro W base args ds gs before hval0 hW hcnd _
  have hval : ∀ (j : Nat) t v, Try.f3.params[j]? = some t → args[j]? = some v → Value.okWide Try.prog W .any base t v := hval0
  have hW' := hW
  obtain ⟨p, q, hA0, hV, rfl, hfz, hnd⟩ := hW
  have hA : DataW.TrodAll enc Try.prog W 0 (fun _ => true) true Try.f3.params.toList args.toList ds p := hA0
  rw [Try.params3] at hA hval
  obtain ⟨v0, vs0, d0, ds0, p0, q0, hargs, rfl, rfl, h0, r0⟩ := trodAll_cons hA
  obtain ⟨rfl, rfl, rfl⟩ := trodAll_nil r0
  obtain rfl : args = #[v0] := by cases args; simp_all
  obtain ⟨rfl, rfl⟩ := trodVars_none hV
  obtain ⟨cs0, rfl, hcs0⟩ := okWide_struct Try.underlying25 (hval 0 25 v0 rfl rfl)
  have k0 := h0
  have lt0 : ∀ x ∈ p0, x.block < W.heap.size := by obtain ⟨m, hm⟩ := k0; exact DataW.trod_lt m _ _ _ hm
  have rows : Asks10b W (.agg cs0) := by obtain ⟨fuel, hf⟩ := h0; exact asks10b_of hcs0 hf
  clear hA0 hval0
  refine (sectorParts_walk (.agg cs0) W rows).mono fun e W' ⟨he, bel⟩ => ?_
  subst he
  exact ⟨_, rfl, _, _, _, [], _, [], hW', trodAll_mk1 (shut_bool Try.underlying4 _), (trodAll_cons_mk (Below.trod sectorParts_laidOut (by kernel_rfl) (of_decide_eq_true (by kernel_rfl)) k0 bel lt0) trodAll_mk0), rfl, bel.frame _, fun h => by cases h⟩
theorem sectorParts_over : Rows.sectorPartsRow.holds Try.pinned (OpenSpec.ofChange Rows.sectorPartsSpec) :=
  OpenClaim.holds_of_wide 3 Try.f3 rfl rfl rfl rfl rfl rfl rfl ⟨rfl, rfl, rfl, rfl, rfl⟩ rfl rfl rfl rfl rfl (by kernel_rfl) Try.func3 (by kernel_rfl)
    (of_decide_eq_true (by kernel_rfl)) (by unfold Func.isWrapper; first | (rw [if_pos (by decide +kernel)]; kernel_rfl) | (rw [if_neg (by decide +kernel)]; exact ⟨rfl, rfl⟩))
    (fun os started H enc _ => sectorParts_lifted os started H enc)
/-- The given statement of SectorParts. -/
theorem sectorParts_holds : Rows.SectorPartsSaid := sectorParts_over
end Go.Proofs.Ytifnmgbeepgfiaa

/- Layer 10: what SectorWhole leans on: sectors by calls that only read; plain words of corners. -/
namespace Go.Proofs.Ytifnmgbeepgfiaa
open Go.ChangeShapes Go.WideShapes Go.ChangeAt Go.RowKit Go.Deep
set_option linter.unusedVariables false
set_option linter.unusedSimpArgs false
theorem sofl_q (W H : Int) (t : Nat) (z : Int) (n : Nat) (w : World) (w1 : 1 ≤ W) (w2 : W ≤ 128) (h1 : 1 ≤ H) (h2 : H ≤ 128) (hn : (n : Int) = W * H) (htn : t < n) (EZ : Hk (Fx.ofS W t = z)) :
    Calls Try.prog 19 #[.int .i64 W, .int .i64 H, .int .i64 t] w fun e w' => e = .returned (.tuple #[.int .i64 z, .int .i64 0]) ∧ ∃ m, w' = w.drewN m := by
  have n16 : n ≤ 16384 := by have := mul_bd w1 w2 h1 h2; omega
  have e1 : IntKind.i64.wrap (W * H) = (n : Int) := by rw [← hn]; exact wr_in' (by omega)
  have t0 : (0 : Int) ≤ (t : Int) := by omega
  have t1 : (t : Int) ≤ 16384 := by omega
  have c0 : decide ((t : Int) < 0) = false := by simp
  have c1 : decide ((n : Int) ≤ (t : Int)) = false := by simp; omega
  have c2 : decide (n ≤ t) = false := by simp; omega
  have c3 : ¬ n ≤ t := by omega
  clear hn n16
  go_enter Try.func19, Try.ntmps19
  go_wp2_with (first
    | (go_at_call 24; (with_reducible refine (sized_yes W H _ w1 w2 h1 h2).mono ?_); rintro e z ⟨rfl, hz⟩; rw [hz]; clear hz z)
    | (go_at_call 27; (with_reducible refine (sof_qas W t z _ w1 w2 t0 t1 EZ).mono ?_); rintro e z2 ⟨rfl, hz⟩; have HZ := Hk.mk hz; clear hz))
  go_ret2
  exact ⟨rfl, HZ.out⟩
theorem num10_q (x : Int) (w : World) : Calls Try.prog 11 #[.int .i64 x] w fun e w' => e = .returned (.int .i64 x) ∧ w' = w := (num10_any x w).mono fun _ _ h => ⟨h.1, h.2.symm⟩
theorem same10_as (r : Bool) (W H : Int) (t n : Nat) (s : Int) (fa ta pa : Option Addr) (fn fc tn tc pn pc : Nat) (w : World) (w1 : 1 ≤ W) (w2 : W ≤ 128) (h1 : 1 ≤ H) (h2 : H ≤ 128) (hn : (n : Int) = W * H) (htn : t < n) (R : Hk (Fx.ofS W t = s ↔ r = true)) :
    Calls Try.prog 20 #[.agg #[.int .i64 W, .int .i64 H, .slice fa fn fc, .slice ta tn tc, .slice pa pn pc], .int .i64 t, .int .i64 s] w fun e w' => e = .returned (.bool r) ∧ Below w.heap.size w w' := by
  have HN := Hk.mk hn
  clear hn
  obtain ⟨o, ho⟩ : ∃ o, Fx.ofS W (t : Nat) = o := ⟨_, rfl⟩
  have EO := Hk.mk ho
  rw [ho] at R
  clear ho
  cases r
  · have hne : ¬ o = s := fun e => by have := R.out.1 e; cases this
    clear R
    go_enter Try.func20, Try.ntmps20
    go_wp2_with (first
      | (go_at_call 19; (with_reducible refine (sofl_q W H t o n _ w1 w2 h1 h2 HN.out htn EO).mono ?_); rintro e z2 ⟨rfl, hz⟩; have HZ : Hk (Below w.heap.size w z2) := ⟨by obtain ⟨m, rfl⟩ := hz; exact below_drewN ((Below.refl _ _).alloc (Nat.le_refl _) _) m⟩; clear hz)
      | (go_at_call 11; (with_reducible refine (num10_any _ _).mono ?_); rintro e z ⟨rfl, rfl⟩))
    go_ret
    exact ⟨by first | rfl | simp [hne], HZ.out⟩
  · have heq : o = s := R.out.2 rfl
    subst heq
    clear R
    go_enter Try.func20, Try.ntmps20
    go_wp2_with (first
      | (go_at_call 19; (with_reducible refine (sofl_q W H t o n _ w1 w2 h1 h2 HN.out htn EO).mono ?_); rintro e z2 ⟨rfl, hz⟩; have HZ : Hk (Below w.heap.size w z2) := ⟨by obtain ⟨m, rfl⟩ := hz; exact below_drewN ((Below.refl _ _).alloc (Nat.le_refl _) _) m⟩; clear hz)
      | (go_at_call 11; (with_reducible refine (num10_any _ _).mono ?_); rintro e z ⟨rfl, rfl⟩))
    go_ret
    exact ⟨by first | rfl | simp, HZ.out⟩
/-- The first tile of a tile's sector. -/
def fstS (W : Int) (k : Nat) : Int := (k : Int) % W / 8 * 8 + W * ((k : Int) / W / 8 * 8)
theorem fstS_le {W : Int} {k : Nat} (hW : 1 ≤ W) : fstS W k ≤ k := by
  have a0 := Int.emod_nonneg (k : Int) (show W ≠ 0 by omega)
  have b0 : 0 ≤ (k : Int) / W := Int.ediv_nonneg (by omega) (by omega)
  have e := Int.emod_add_mul_ediv (k : Int) W
  have := Int.mul_le_mul_of_nonneg_left (show (k : Int) / W / 8 * 8 ≤ (k : Int) / W by omega) (show 0 ≤ W by omega)
  unfold fstS
  omega
theorem fstS_at {W : Int} {k t : Nat} (hW : 1 ≤ W) (h : fstS W k = t) : (t : Int) % W = (k : Int) % W / 8 * 8 ∧ (t : Int) / W = (k : Int) / W / 8 * 8 := by
  have a0 := Int.emod_nonneg (k : Int) (show W ≠ 0 by omega)
  have a1 := Int.emod_lt_of_pos (k : Int) (show 0 < W by omega)
  exact xy_of20 (x := (k : Int) % W / 8 * 8) (y := (k : Int) / W / 8 * 8) h.symm (by omega) (by omega)
/-- A corner's sector is told by its first tile. -/
theorem fstS_corner {W : Int} {k t : Nat} (hW : 1 ≤ W) (h : fstS W k = t) : secS W t k ∧ (t : Int) % W % 8 = 0 ∧ (t : Int) / W % 8 = 0 := by
  obtain ⟨h1, h2⟩ := fstS_at hW h
  unfold secS
  rw [h1, h2]
  omega
def RedoI (W : Int) (n : Nat) (P Q : Nat → Int) (t : Nat) : Prop := ∀ k, k < n → fstS W k < t → Q k = P k
theorem RedoI.start (W : Int) (n : Nat) (P Q : Nat → Int) (hW : 1 ≤ W) : RedoI W n P Q 0 := fun k _ h => by
  exfalso
  have a0 := Int.emod_nonneg (k : Int) (show W ≠ 0 by omega)
  have b0 : 0 ≤ (k : Int) / W := Int.ediv_nonneg (by omega) (by omega)
  have := Int.mul_nonneg (show 0 ≤ W by omega) (show 0 ≤ (k : Int) / W / 8 * 8 by omega)
  unfold fstS at h
  omega
theorem RedoI.skip {W : Int} {n t : Nat} {P Q : Nat → Int} (h : RedoI W n P Q t) (hW : 1 ≤ W) (hc : ¬ ((t : Int) % W % 8 = 0 ∧ (t : Int) / W % 8 = 0)) : RedoI W n P Q (t + 1) := fun k hk hl => by
  refine h k hk ?_
  by_cases e : fstS W k = t
  · exact absurd (fstS_corner hW e).2 hc
  · omega
theorem RedoI.put {W : Int} {n t : Nat} {P Q Q' : Nat → Int} (h : RedoI W n P Q t) (hW : 1 ≤ W) (hq : ∀ k, k < n → Q' k = if secB W t k = true then P k else Q k) : RedoI W n P Q' (t + 1) := fun k hk hl => by
  rw [hq k hk]
  by_cases e : fstS W k = t
  · exact if_pos (decide_eq_true (fstS_corner hW e).1)
  · rw [h k hk (by omega)]
    split <;> rfl
theorem RedoI.done {W : Int} {n : Nat} {P Q : Nat → Int} (h : RedoI W n P Q n) (hW : 1 ≤ W) : ∀ k, k < n → Q k = P k := fun k hk => h k hk (by have := fstS_le (k := k) hW; omega)
section
variable {W : Int} {n t : Nat} {fr : Nat → Bool} {P : Nat → Int}
theorem part_le (h : IsPart n (nbN W n fr) fr P) (ht : t < n) : P t ≤ t := by
  cases e : fr t
  · rw [h.no t ht e]; omega
  · obtain ⟨m, e1, _, l⟩ := h.yes t ht e
    have := l t .refl
    omega
theorem part_pos (h : IsPart n (nbN W n fr) fr P) (ht : t < n) : decide (0 ≤ P t) = fr t := by
  cases e : fr t
  · rw [h.no t ht e]; rfl
  · obtain ⟨m, e1, _, _⟩ := h.yes t ht e
    rw [e1]; simp
theorem part_self (h : IsPart n (nbN W n fr) fr P) (hW : 1 ≤ W) (ht : t < n) (hf : fr t = true) : ∃ m : Nat, P t = (m : Int) ∧ m < n ∧ Fx.ofS W m = Fx.ofS W t ∧ P m = (m : Int) := by
  obtain ⟨m, e1, r, l⟩ := h.yes t ht hf
  have hm := r.lt nbN_lt ht
  have hfm := r.free nbN_free hf
  obtain ⟨k, e2, r2, l2⟩ := h.yes m hm hfm
  have := l k (r.trans r2)
  have := l2 m .refl
  have hs := (resR (z := secB W t) secB_nb (s := t) (decide_eq_true ⟨rfl, rfl⟩)).2 r
  exact ⟨m, e1, hm, ((ofS_iff hW).2 (of_decide_eq_true hs)).symm, by rw [e2]; omega⟩
theorem part_next {u : Nat} (h : IsPart n (nbN W n fr) fr P) (hn : (nbN W n fr) t u) : P u = P t := by
  obtain ⟨m, e1, r, l⟩ := h.yes t hn.1.1 hn.2.1.1
  obtain ⟨k, e2, r2, l2⟩ := h.yes u hn.1.2 hn.2.1.2
  have a := l k ((Rch.step .refl hn).trans r2)
  have b := l2 m ((Rch.step .refl (nbN_symm _ _ hn)).trans r)
  omega
end
theorem nb_right {W H : Int} {n t : Nat} {fr : Nat → Bool} (hW : 1 ≤ W) (hn : (n : Int) = W * H) (ht : t < n) (hx : (t : Int) % W < W - 1) : t + 1 < n ∧ (fr t = true → fr (t + 1) = true → Fx.ofS W ((t + 1 : Nat) : Int) = Fx.ofS W t → (nbN W n fr) t (t + 1)) := by
  have a0 := Int.emod_nonneg (t : Int) (show W ≠ 0 by omega)
  have em := Int.emod_add_mul_ediv (t : Int) W
  obtain ⟨ux, uy⟩ := xy_of20 (W := W) (j := t + 1) (x := (t : Int) % W + 1) (y := (t : Int) / W) (by push_cast; omega) (by omega) (by omega)
  have y1 : (t : Int) / W < H := Int.ediv_lt_of_lt_mul (by omega) (by rw [Int.mul_comm]; omega)
  have q : W * ((t : Int) / W + 1) ≤ W * H := Int.mul_le_mul_of_nonneg_left (by omega) (by omega)
  rw [Int.mul_add] at q
  refine ⟨by omega, fun f1 f2 hs => ⟨⟨ht, by omega⟩, ⟨f1, f2⟩, (ofS_iff hW).1 hs.symm, ?_⟩⟩
  unfold adjS
  rw [ux, uy]
  omega
theorem nb_down {W H : Int} {n t u : Nat} {fr : Nat → Bool} (hW : 1 ≤ W) (hn : (n : Int) = W * H) (ht : t < n) (hy : (t : Int) / W < H - 1) (hu : (u : Int) = t + W) : u < n ∧ (fr t = true → fr u = true → Fx.ofS W (u : Int) = Fx.ofS W t → (nbN W n fr) t u) := by
  have a0 := Int.emod_nonneg (t : Int) (show W ≠ 0 by omega)
  have a1 := Int.emod_lt_of_pos (t : Int) (show 0 < W by omega)
  have em := Int.emod_add_mul_ediv (t : Int) W
  obtain ⟨ux, uy⟩ := xy_of20 (W := W) (j := u) (x := (t : Int) % W) (y := (t : Int) / W + 1) (by rw [Int.mul_add]; omega) (by omega) (by omega)
  have q : W * ((t : Int) / W + 1 + 1) ≤ W * H := Int.mul_le_mul_of_nonneg_left (by omega) (by omega)
  rw [Int.mul_add, Int.mul_add] at q
  refine ⟨by omega, fun f1 f2 hs => ⟨⟨ht, by omega⟩, ⟨f1, f2⟩, (ofS_iff hW).1 hs.symm, ?_⟩⟩
  unfold adjS
  rw [ux, uy]
  omega
end Go.Proofs.Ytifnmgbeepgfiaa
