import Derived.Deep.QuietTactic
import Derived.BigQuiet
import Derived.Deep.RegionWith
import Derived.Deep.RegionHeld3
import Derived.Deep.DeepCutAuto
import Derived.Deep.DeepFit
import Derived.Outline
import Derived.Test.YtcgilmjhbdehpaaZbp
import Derived.Deep.Grids
import Derived.Test.YtcgilmjhbdehpaaZbn
import Derived.Test.YtcgilmjhbdehpaaZbo
/- Plain words of layer 10: filling one sector alone. -/
namespace Go.Proofs.Ytcgilmjhbdehpaa
open Go.RowKit
set_option linter.unusedVariables false
set_option linter.unusedSimpArgs false
def resN (N : Nat → Nat → Prop) (z : Nat → Bool) (a b : Nat) : Prop := N a b ∧ z a = true ∧ z b = true
def resF (fr z : Nat → Bool) (t : Nat) : Bool := fr t && z t
def resP (P : Nat → Int) (z : Nat → Bool) (t : Nat) : Int := if z t = true then P t else -1
theorem resP_in {P : Nat → Int} {z : Nat → Bool} {t : Nat} (h : z t = true) : resP P z t = P t := if_pos h
theorem resP_out {P : Nat → Int} {z : Nat → Bool} {t : Nat} (h : z t = false) : resP P z t = -1 := if_neg (by rw [h]; decide)
theorem resN_symm {N : Nat → Nat → Prop} {z : Nat → Bool} (hs : ∀ a b, N a b → N b a) : ∀ a b, resN N z a b → resN N z b a := fun a b h => ⟨hs _ _ h.1, h.2.2, h.2.1⟩
theorem resN_lt {n : Nat} {N : Nat → Nat → Prop} {z : Nat → Bool} (hb : ∀ a b, N a b → b < n) : ∀ a b, resN N z a b → b < n := fun a b h => hb _ _ h.1
theorem resN_free {N : Nat → Nat → Prop} {fr z : Nat → Bool} (hf : ∀ a b, N a b → fr a = true ∧ fr b = true) : ∀ a b, resN N z a b → resF fr z a = true ∧ resF fr z b = true := fun a b h => by
  have := hf _ _ h.1
  unfold resF
  rw [this.1, this.2, h.2.1, h.2.2]
  exact ⟨rfl, rfl⟩
theorem resN_rch {N : Nat → Nat → Prop} {z : Nat → Bool} {s t : Nat} (h : Rch (resN N z) s t) : Rch N s t := by
  induction h with
  | refl => exact .refl
  | step _ hn ih => exact ih.step hn.1
theorem resR {N : Nat → Nat → Prop} {z : Nat → Bool} (hz : ∀ a b, N a b → z a = z b) {s t : Nat} (hs : z s = true) : (Rch N s t ↔ Rch (resN N z) s t) ∧ (Rch N s t → z t = true) := by
  have key : Rch N s t → Rch (resN N z) s t ∧ z t = true := fun h => by
    induction h with
    | refl => exact ⟨.refl, hs⟩
    | @step u v hu hn ih => exact ⟨ih.1.step ⟨hn, ih.2, by rw [← hz _ _ hn]; exact ih.2⟩, by rw [← hz _ _ hn]; exact ih.2⟩
  refine ⟨⟨fun h => (key h).1, fun h => resN_rch h⟩, fun h => (key h).2⟩
def ResU (n : Nat) (N : Nat → Nat → Prop) (fr z : Nat → Bool) (s : Nat) (P : Nat → Int) : Prop := Upto n (resN N z) (resF fr z) s (resP P z)
section
variable {n s : Nat} {N : Nat → Nat → Prop} {fr z : Nat → Bool} {P P0 : Nat → Int}
theorem ResU.start (h : ∀ t, t < n → z t = true → P t = -1) : ResU n N fr z 0 P := Upto.start fun t ht => by
  cases e : z t
  · exact resP_out e
  · rw [resP_in e]; exact h t ht e
theorem ResU.out (h : ResU n N fr z s P) (hs : ∀ a b, N a b → N b a) (hf : ∀ a b, N a b → fr a = true ∧ fr b = true) (hlt : s < n) (hz : z s = false) : ResU n N fr z (s + 1) P :=
  Upto.skip h (resN_symm hs) (resN_free hf) hlt (Or.inl (by unfold resF; rw [hz]; simp))
theorem ResU.outs0 (hs : ∀ a b, N a b → N b a) (hf : ∀ a b, N a b → fr a = true ∧ fr b = true) (k : Nat) : ∀ s, ResU n N fr z s P → s + k ≤ n → (∀ t, s ≤ t → t < s + k → z t = false) → ResU n N fr z (s + k) P := by
  induction k with
  | zero => intro s h _ _; exact h
  | succ k ih =>
    intro s h hn hz
    have := ih (s + 1) (h.out hs hf (by omega) (hz s (Nat.le_refl _) (by omega))) (by omega) (fun t a b => hz t (by omega) (by omega))
    rwa [show s + 1 + k = s + (k + 1) by omega] at this
theorem ResU.outs (h : ResU n N fr z s P) (hs : ∀ a b, N a b → N b a) (hf : ∀ a b, N a b → fr a = true ∧ fr b = true) (k : Nat) (hn : s + k ≤ n) (hz : ∀ t, s ≤ t → t < s + k → z t = false) : ResU n N fr z (s + k) P := ResU.outs0 hs hf k s h hn hz
theorem ResU.skip (h : ResU n N fr z s P) (hs : ∀ a b, N a b → N b a) (hf : ∀ a b, N a b → fr a = true ∧ fr b = true) (hlt : s < n) (hz : z s = true) (hk : fr s = false ∨ 0 ≤ P s) : ResU n N fr z (s + 1) P :=
  Upto.skip h (resN_symm hs) (resN_free hf) hlt (by
    rcases hk with e | e
    · exact Or.inl (by unfold resF; rw [e]; simp)
    · exact Or.inr (by rw [resP_in hz]; exact e))
theorem ResU.nots (h : ResU n N fr z s P0) (hc : ∀ a b, N a b → z a = z b) (hz : z s = true) : ∀ t, t < n → Rch N s t → P0 t ≠ (s : Int) := by
  intro t ht hr e
  have hzt := (resR hc hz).2 hr
  cases ef : resF fr z t
  · have := h.no t ht ef
    rw [resP_in hzt] at this
    omega
  · rcases h.yes t ht ef with ⟨m, hm, e1, _⟩ | ⟨e1, _⟩ <;> rw [resP_in hzt] at e1 <;> omega
theorem ResU.fill (h : ResU n N fr z s P0) (hs : ∀ a b, N a b → N b a) (hb : ∀ a b, N a b → b < n) (hf : ∀ a b, N a b → fr a = true ∧ fr b = true) (hc : ∀ a b, N a b → z a = z b) (hlt : s < n) (hz : z s = true) (hfs : fr s = true) (h0 : P0 s < 0)
    (k : Fil n N s P0 P (fun _ => False)) : ResU n N fr z (s + 1) P ∧ ∀ t, t < n → z t = false → P t = P0 t := by
  have k2 : Fil n (resN N z) s (resP P0 z) (resP P z) (fun _ => False) := by
    refine ⟨fun t ht => ?_, by rw [resP_in hz]; exact k.at0, fun t ht hk => ?_, fun t ht hr hp => ?_⟩
    · cases e : z t
      · left; rw [resP_out e, resP_out e]
      · rw [resP_in e, resP_in e]
        rcases k.old t ht with q | ⟨q, r⟩
        · exact Or.inl q
        · exact Or.inr ⟨q, (resR hc hz).1.1 r⟩
    · cases e : z t
      · rw [resP_out e] at hk; omega
      · rw [resP_in e] at hk ⊢
        rw [resP_in e]
        exact k.keep t ht hk
    · have hr' := (resR hc hz).1.2 hr
      have e := (resR hc hz).2 hr'
      rw [resP_in e] at hp
      right
      intro u hu
      rw [resP_in hu.2.2]
      rcases k.rel t ht hr' hp with q | q
      · exact q.elim
      · exact q u hu.1
  refine ⟨Upto.fill h (resN_symm hs) (resN_lt hb) (resN_free hf) hlt (by unfold resF; rw [hfs, hz]; rfl) (by rw [resP_in hz]; exact h0) k2 (fun _ q => q), fun t ht e => ?_⟩
  rcases k.old t ht with q | ⟨_, r⟩
  · exact q
  · have := (resR hc hz).2 r
    rw [e] at this
    cases this
theorem ResU.done (h : ResU n N fr z n P) (hs : ∀ a b, N a b → N b a) (hb : ∀ a b, N a b → b < n) (hf : ∀ a b, N a b → fr a = true ∧ fr b = true) (hc : ∀ a b, N a b → z a = z b) {F : Nat → Int} (k : IsPart n N fr F) : ∀ t, t < n → z t = true → P t = F t := by
  intro t ht hz
  have h1 : IsPart n (resN N z) (resF fr z) (resP P z) := Upto.all h (resN_symm hs)
  have h2 : IsPart n (resN N z) (resF fr z) (resP F z) := by
    refine ⟨fun u hu e => ?_, fun u hu e => ?_⟩
    · cases ez : z u
      · exact resP_out ez
      · rw [resP_in ez]
        refine k.no u hu ?_
        unfold resF at e
        rw [ez] at e
        simpa using e
    · unfold resF at e
      rw [Bool.and_eq_true] at e
      obtain ⟨m, e1, r, l⟩ := k.yes u hu e.1
      rw [resP_in e.2]
      exact ⟨m, e1, (resR hc e.2).1.1 r, fun v hv => l v ((resR hc e.2).1.2 hv)⟩
  have := h1.eq h2 ht
  rwa [resP_in hz, resP_in hz] at this
end
/-- The next tile of a rising list, or the end. -/
def nxL (L : List Nat) (n i : Nat) : Nat := L.getD i n
theorem nxL_at {L : List Nat} {n i : Nat} (h : i < L.length) : nxL L n i = L[i] := by unfold nxL; simp [List.getD, h]
theorem nxL_end {L : List Nat} {n i : Nat} (h : L.length ≤ i) : nxL L n i = n := by unfold nxL; simp [List.getD, h]
theorem nxL_le {W : Int} {n t i : Nat} {L : List Nat} (h : TlS W n t L) : nxL L n i ≤ n := by
  by_cases c : i < L.length
  · rw [nxL_at c]; exact Nat.le_of_lt ((h.2 _).1 (List.getElem_mem c)).1
  · rw [nxL_end (by omega)]; exact Nat.le_refl _
theorem nxL_lt {W : Int} {n t i : Nat} {L : List Nat} (h : TlS W n t L) (hi : i < L.length) : L[i] < nxL L n (i + 1) := by
  by_cases c : i + 1 < L.length
  · rw [nxL_at c]; exact List.pairwise_iff_getElem.1 h.1 i (i + 1) hi c (by omega)
  · rw [nxL_end (by omega)]; exact ((h.2 _).1 (List.getElem_mem hi)).1
theorem nxL_gap {W : Int} {n t i : Nat} {L : List Nat} (h : TlS W n t L) (hi : i < L.length) {k : Nat} (h1 : L[i] < k) (h2 : k < nxL L n (i + 1)) : ¬ secS W t k := by
  intro hs
  have hkn : k < n := Nat.lt_of_lt_of_le h2 (nxL_le h)
  obtain ⟨j, hj, e⟩ := List.getElem_of_mem ((h.2 k).2 ⟨hkn, hs⟩)
  have hp := List.pairwise_iff_getElem.1 h.1
  by_cases c : j ≤ i
  · by_cases d : j = i
    · subst d; omega
    · have := hp j i hj hi (by omega); omega
  · by_cases d : j = i + 1
    · subst d; rw [nxL_at hj] at h2; omega
    · have hi1 : i + 1 < L.length := by omega
      rw [nxL_at hi1] at h2
      have := hp (i + 1) j hi1 hj (by omega)
      omega
theorem nxL_gap0 {W : Int} {n t : Nat} {L : List Nat} (h : TlS W n t L) {k : Nat} (h2 : k < nxL L n 0) : ¬ secS W t k := by
  intro hs
  have hkn : k < n := Nat.lt_of_lt_of_le h2 (nxL_le h)
  obtain ⟨j, hj, e⟩ := List.getElem_of_mem ((h.2 k).2 ⟨hkn, hs⟩)
  have hp := List.pairwise_iff_getElem.1 h.1
  have h0 : 0 < L.length := by omega
  rw [nxL_at h0] at h2
  by_cases d : j = 0
  · subst d; omega
  · have := hp 0 j h0 hj (by omega)
    omega
instance secS_dec (W : Int) (a b : Nat) : Decidable (secS W a b) := by unfold secS; infer_instance
def secB (W : Int) (a b : Nat) : Bool := decide (secS W a b)
theorem secB_nb {W : Int} {n t : Nat} {fr : Nat → Bool} : ∀ a b, nbN W n fr a b → secB W t a = secB W t b := fun a b h => by
  obtain ⟨_, _, ⟨h5, h6⟩, _⟩ := h
  refine decide_eq_decide.2 ?_
  unfold secS
  rw [h5, h6]
end Go.Proofs.Ytcgilmjhbdehpaa
/- Package sector: Redo, on any map. -/
namespace Go.Proofs.Ytcgilmjhbdehpaa
open Go.ChangeShapes Go.WideShapes Go.ChangeAt Go.RowKit Go.Deep
set_option linter.unusedVariables false
set_option linter.unusedSimpArgs false
theorem addr_add (b o j : Nat) : (⟨b, o, none⟩ : Addr).add j = ⟨b, o + j, none⟩ := by
  simp only [Addr.add]
  by_cases e : j = 0
  · subst e; simp
  · simp [e]
theorem mem_take_more {L : List Nat} {i : Nat} (h : i < L.length) {k : Nat} : k ∈ L.take (i + 1) ↔ k ∈ L.take i ∨ k = L[i] := by
  rw [List.take_succ_eq_append_getElem h, List.mem_append, List.mem_singleton]
theorem own_open8 {w : World} {S n : Nat} {v : Value} {xs : List Value} (h : w.ownsRow S 3 1 v n xs) (hn : 0 < n) : ∃ J c, v = .slice (some ⟨J, 0, none⟩) n c ∧ S ≤ J := by
  rcases h.2 with ⟨e, h0⟩ | ⟨g', cap, cur, e, hg, _⟩
  · omega
  · exact ⟨g', cap, e, hg⟩
theorem fill_z (W H : Int) (t fb fo n fc J jc s : Nat) (fr : Nat → Bool) (P0 : Nat → Int) (w : World) (w1 : 1 ≤ W) (w2 : W ≤ 128) (h1 : 1 ≤ H) (h2 : H ≤ 128) (hn : (n : Int) = W * H) (hs : s < n) (hF : ∀ k, k < n → w.cell? ⟨fb, fo + k, none⟩ = some (.bool (fr k))) (hfl : fb < w.heap.size) (hfJ : fb ≠ J) (hJ : Arp w J n jc P0) (hzs : (secB W t) s = true) (hU : ResU n (nbN W n fr) fr (secB W t) s P0) :
    Calls Try.prog 36 #[.int .i64 W, .int .i64 H, .slice (some ⟨fb, fo, none⟩) n fc, .slice (some ⟨J, 0, none⟩) n jc, .int .i64 s] w fun e w' => e = .returned (.tuple #[]) ∧ ∃ P, Arp w' J n jc P ∧ ResU n (nbN W n fr) fr (secB W t) (s + 1) P ∧ (∀ k, k < n → (secB W t) k = false → P k = P0 k) ∧ Fr (fun q => q = J) w w' := by
  by_cases hk : fr s = false ∨ 0 ≤ P0 s
  · refine (fill_no W H fb fo n fc J jc s fr P0 w hs (hF s hs) hJ hk).mono ?_
    rintro e z ⟨rfl, rfl⟩
    exact ⟨rfl, P0, hJ, hU.skip nbN_symm nbN_free hs hzs hk, fun _ _ _ => rfl, Fr.refl _ _⟩
  · have hfs : fr s = true := by
      cases e : fr s
      · exact absurd (Or.inl e) hk
      · rfl
    have hps : P0 s < 0 := by
      apply Int.not_le.1
      exact fun e => hk (Or.inr e)
    refine (fill_in W H fb fo n fc J jc s fr P0 w w1 w2 h1 h2 hn hs hF hfl hfJ hJ (hU.nots secB_nb hzs) hfs hps).mono ?_
    rintro e z ⟨rfl, P, hP, hfil, hfr⟩
    obtain ⟨u1, u2⟩ := hU.fill nbN_symm nbN_lt nbN_free secB_nb hs hzs hfs hps hfil
    exact ⟨rfl, P, hP, u1, u2, hfr⟩
end Go.Proofs.Ytcgilmjhbdehpaa
/- Layer 10: what is asked; lists of booleans copied; what is refused. -/
namespace Go.Proofs.Ytcgilmjhbdehpaa
open Go.ChangeShapes Go.WideShapes Go.ChangeAt Go.RowKit Go.Deep
set_option linter.unusedVariables false
set_option linter.unusedSimpArgs false
theorem bools_rd {H : Type} {enc : TypeId × Value → H} {w : World} {base : Nat} {held : Bool} {fuel : Nat} {x : DataW H × List MemPlace} {v : Value}
    (hf : DataW.trod enc Try.prog w base (fun _ => true) held fuel 22 [v] = some x) : ∃ (a : Option Addr) (n c : Nat) (fr : Nat → Bool), v = .slice a n c ∧ n ≤ 9223372036854775807 ∧ Rd w w.heap.size a n (fun k => .bool (fr k)) := by
  rcases open_bools Try.underlying22 Try.underlying4 (by kernel_rfl) hf with ⟨hcs, _⟩ | ⟨a, l, c, B, hcs, _, hl, hm, _, hc⟩
  · simp at hcs
    exact ⟨none, 0, 0, fun _ => true, hcs, by omega, rd_nil _ _ _ _⟩
  · simp at hcs
    refine ⟨_, _, _, B, hcs, by unfold maxLen at hm; omega, fun hn => ?_⟩
    obtain ⟨b, off, spot⟩ := a
    have hs : spot = none := by
      have h0 := World.cell?_spot (hc 0 (by omega))
      simpa [Addr.add] using h0
    subst hs
    refine ⟨b, off, rfl, ?_, fun k hk => ?_⟩
    · have := hc 0 (by omega); rw [addr_add] at this; exact World.block_lt_of_cell? _ _ this
    · have := hc k (by omega); rw [addr_add] at this; exact this
def Asks10b (w : World) (v : Value) : Prop := ∃ (W H : Int) (fa : Option Addr) (fn fc : Nat) (fr : Nat → Bool) (ta : Option Addr) (tn tc : Nat) (ts : List Int) (pa : Option Addr) (pn pc : Nat) (ps : List Int),
  v = .agg #[.int .i64 W, .int .i64 H, .slice fa fn fc, .slice ta tn tc, .slice pa pn pc] ∧ fn ≤ 9223372036854775807 ∧ tn ≤ 9223372036854775807 ∧ pn ≤ 9223372036854775807 ∧ Rd w w.heap.size fa fn (fun k => .bool (fr k)) ∧ Nq w w.heap.size ta tn ts ∧ Nq w w.heap.size pa pn ps
set_option maxRecDepth 100000 in
theorem asks10b_of {H : Type} {enc : TypeId × Value → H} {w : World} {base : Nat} {held : Bool} {fuel : Nat} {x : DataW H × List MemPlace} {cs : Array Value} (hcs : cs.size = Try.prog.cellsOf 25)
    (hf : DataW.trod enc Try.prog w base (fun _ => true) held fuel 25 cs.toList = some x) : Asks10b w (.agg cs) := by
  have hC : Try.prog.cellsOf 25 = 5 := by kernel_rfl
  have h2 : Try.prog.cellsOf 23 = 1 := by kernel_rfl
  have h4 : Try.prog.cellsOf 22 = 1 := by kernel_rfl
  have h5 : Try.prog.cellsOf 3 = 1 := by kernel_rfl
  rw [hC] at hcs
  obtain ⟨l⟩ := cs
  match l, hcs with
  | [c0, c1, c2, c3, c4], _ =>
    obtain ⟨ys, n', _, _, _, hyl, hg⟩ := DataW.trod_struct Try.underlying25 hf
    match ys, hyl with
    | [y0, y1, y2, y3, y4], _ =>
      have g0 := hg 0 _ rfl
      have g1 := hg 1 _ rfl
      have g2 := hg 2 _ rfl
      have g3 := hg 3 _ rfl
      have g4 := hg 4 _ rfl
      simp [h2, h4, h5] at g0 g1 g2 g3 g4
      obtain ⟨W, e0, _, _⟩ := DataW.trod_int Try.underlying3 g0
      simp at e0
      subst e0
      obtain ⟨H, e1, _, _⟩ := DataW.trod_int Try.underlying3 g1
      simp at e1
      subst e1
      obtain ⟨fa, fn, fc, fr, rfl, hfn, hfr⟩ := bools_rd g2
      obtain ⟨ta, tn, tc, ts, rfl, htn, hnq⟩ := nq_of g3
      obtain ⟨pa, pn, pc, ps, rfl, hpn, hpq⟩ := nq_of g4
      exact ⟨W, H, fa, fn, fc, fr, ta, tn, tc, ts, pa, pn, pc, ps, rfl, hfn, htn, hpn, hfr, hnq, hpq⟩
theorem own_rd {w : World} {S n : Nat} {T : TypeId} {v : Value} {f : Nat → Value} (h : w.ownsRow S T 1 v n ((List.range n).map f)) : ∃ a c, v = .slice a n c ∧ Rd w w.heap.size a n f ∧ ∀ b o, a = some ⟨b, o, none⟩ → S ≤ b := by
  rcases h.2 with ⟨e, h0⟩ | ⟨g, cap, cur, e, hg, hh, hc, hm2, hs, ht⟩
  · subst e
    exact ⟨none, 0, by rw [h0], fun hn => absurd hn (by omega), fun b o he => by cases he⟩
  · subst e
    refine ⟨_, _, rfl, fun hn => ⟨g, 0, rfl, (Array.getElem?_eq_some_iff.1 hh).1, fun k hk => ?_⟩, fun b o he => by injection he with he; injection he with e1; subst e1; exact hg⟩
    have : ((List.range n).map f)[k]? = some (f k) := by simp [hk]
    rw [← ht, List.getElem?_take, if_pos (by omega)] at this
    rw [Nat.zero_add]
    simp [World.cell?, hh]
    simpa using this
theorem info_bl : (Try.prog.info? 4).map (fun i => (i.zero, i.size, i.bytes)) = some (some (.bool false), 1, 1) := by kernel_rfl
set_option maxRecDepth 100000 in
theorem copybl_any (a : Option Addr) (n c : Nat) (f : Nat → Bool) (w : World) (h : Rd w w.heap.size a n (fun k => .bool (f k))) (hn : n ≤ 1099511627776) :
    Calls Try.prog 11 #[.slice a n c] w fun e w' => ∃ a2 c2, e = .returned (.slice a2 n c2) ∧ Rd w' w'.heap.size a2 n (fun k => .bool (f k)) ∧ (∀ b o, a2 = some ⟨b, o, none⟩ → w.heap.size ≤ b) ∧ Below w.heap.size w w' := by
  obtain ⟨i0, hi, hz0, hz1, hz2⟩ := info_parts info_bl
  have H := Hk.mk h
  clear h
  go_enter Try.func11, Try.ntmps11
  go_wp2
  go_loopw [3, 4] (fun m i wr => ∃ k : Nat, k ≤ n ∧ i = .int .i64 k ∧ Hk (wr.ownsRow w.heap.size 4 1 m k ((List.range k).map fun k => .bool (f k))) ∧ Hk (Below w.heap.size w wr)) (fun _ i _ => n - (intOf i).toNat)
  case atStart => exact ⟨0, Nat.zero_le _, rfl, ⟨World.ownsRow_nil _ _ _ _⟩, ⟨Below.refl _ _⟩⟩
  case round =>
    obtain ⟨k, hk, rfl, HO, HB⟩ := hrel
    by_cases hlt : k < n
    · obtain ⟨b, off, rfl, hbl, hc⟩ := H.out (by omega)
      have hcx := (HB.out.cell (p := ⟨b, off + k, none⟩) hbl).trans (hc k hlt)
      have hsz := HB.out.size
      have hown := HO.out
      have j1 : (0 : Int) ≤ (k : Int) := by omega
      have j2 : (k : Int) < (n : Int) := by omega
      clear hc
      have hbase : w.heap.size ≤ (wr.alloc (.cells #[.bool (f k)] 4)).heap.size := by simp; omega
      go_wp2_with (at_builtin; refine wpList_append_own _ rfl _ _ 22 rfl w.heap.size 4 i0 (.bool false) 1 1 Try.underlying22 hi hz0 hz1 hz2 rfl (by decide) _ _ _ rfl (hown.alloc _) ⟨wr.heap.size, 0, none⟩ 1 1 [.bool (f k)] rfl rfl (one_new wr _ _) (fun u hu => by rw [List.mem_singleton.1 hu]; rfl) (by unfold maxLen; omega) (by omega) hbase ?_)
      · intro v' w1 hown' hgrow _
        have hval : (List.range k).map (fun k => Value.bool (f k)) ++ [.bool (f k)] = (List.range (k + 1)).map fun k => Value.bool (f k) := by rw [List.range_succ, List.map_append]; rfl
        rw [hval] at hown'
        have HO2 := Hk.mk hown'
        have HB2 := Hk.mk ((HB.out.alloc hsz (.cells #[.bool (f k)] 4)).grown hgrow (by simp; omega) (fun g hg => (hown.lt g hg).1))
        clear hown' hgrow hown HO HB hcx
        go_wp2
        go_roundw
        case rel => exact ⟨k + 1, by omega, by go_num, HO2, HB2⟩
        case measure => simp [intOf]; omega
    · have hkn : k = n := by omega
      subst hkn
      go_wp2
      go_ret
      obtain ⟨a2, c2, rfl, h1, h2⟩ := own_rd HO.out
      exact ⟨a2, c2, rfl, h1, h2, HB.out⟩
def mayS (W H : Int) (n : Nat) : Bool := decide ((1 ≤ W ∧ W ≤ 128 ∧ 1 ≤ H ∧ H ≤ 128) ∧ (n : Int) = W * H)
theorem mayS_yes {W H : Int} {n : Nat} (h : mayS W H n = true) : (1 ≤ W ∧ W ≤ 128 ∧ 1 ≤ H ∧ H ≤ 128) ∧ (n : Int) = W * H := of_decide_eq_true h
theorem mayS_no {W H : Int} {n : Nat} (h : mayS W H n = false) : Fx.szB W H = false ∨ (Fx.szB W H = true ∧ (1 ≤ W ∧ W ≤ 128 ∧ 1 ≤ H ∧ H ≤ 128) ∧ ¬ (n : Int) = W * H) := by
  have h := of_decide_eq_false h
  by_cases c : 1 ≤ W ∧ W ≤ 128 ∧ 1 ≤ H ∧ H ≤ 128
  · exact Or.inr ⟨by unfold Fx.szB; exact decide_eq_true c, c, fun e => h ⟨c, e⟩⟩
  · exact Or.inl (by unfold Fx.szB; exact decide_eq_false c)
theorem rmay10_as (r : Bool) (W H : Int) (a : Option Addr) (n c : Nat) (w : World) (R : Hk (mayS W H n = r)) :
    Calls Try.prog 9 #[.int .i64 W, .int .i64 H, .slice a n c] w fun e w' => e = .returned (.bool r) ∧ w' = w := by
  cases r
  · have R2 : Hk (¬ ((1 ≤ W ∧ W ≤ 128 ∧ 1 ≤ H ∧ H ≤ 128) ∧ (n : Int) = W * H)) := ⟨of_decide_eq_false R.out⟩
    clear R
    by_cases q0 : 1 ≤ W
    · have b0 : decide (1 ≤ W) = true := decide_eq_true q0
      by_cases q1 : W ≤ 128
      · have b1 : decide (W ≤ 128) = true := decide_eq_true q1
        by_cases q2 : 1 ≤ H
        · have b2 : decide (1 ≤ H) = true := decide_eq_true q2
          by_cases q3 : H ≤ 128
          · have b3 : decide (H ≤ 128) = true := decide_eq_true q3
            obtain ⟨m1, m2⟩ := mul_bd q0 q1 q2 q3
            obtain ⟨M, hM⟩ : ∃ M, W * H = M := ⟨_, rfl⟩
            have e1 : IntKind.i64.wrap (W * H) = M := by rw [hM]; exact wr_in' (by omega)
            have hne : ¬ (n : Int) = M := fun e => R2.out ⟨⟨q0, q1, q2, q3⟩, by rw [hM]; exact e⟩
            have hned : decide ((n : Int) = M) = false := decide_eq_false hne
            clear hM m1 m2
            go_enter Try.func9, Try.ntmps9
            go_wp2
            go_ret
            exact ⟨by first | rfl | simp [hne], rfl⟩
          · have b3 : decide (H ≤ 128) = false := decide_eq_false q3
            go_enter Try.func9, Try.ntmps9
            go_wp2
            go_ret
            simp
        · have b2 : decide (1 ≤ H) = false := decide_eq_false q2
          go_enter Try.func9, Try.ntmps9
          go_wp2
          go_ret
          simp
      · have b1 : decide (W ≤ 128) = false := decide_eq_false q1
        go_enter Try.func9, Try.ntmps9
        go_wp2
        go_ret
        simp
    · have b0 : decide (1 ≤ W) = false := decide_eq_false q0
      go_enter Try.func9, Try.ntmps9
      go_wp2
      go_ret
      simp
  · obtain ⟨⟨q0, q1, q2, q3⟩, hn⟩ := mayS_yes R.out
    have b0 : decide (1 ≤ W) = true := decide_eq_true q0
    have b1 : decide (W ≤ 128) = true := decide_eq_true q1
    have b2 : decide (1 ≤ H) = true := decide_eq_true q2
    have b3 : decide (H ≤ 128) = true := decide_eq_true q3
    obtain ⟨m1, m2⟩ := mul_bd q0 q1 q2 q3
    have e1 : IntKind.i64.wrap (W * H) = (n : Int) := by rw [← hn]; exact wr_in' (by omega)
    clear R hn m1 m2
    go_enter Try.func9, Try.ntmps9
    go_wp2
    go_ret
    simp
def frmE (r : Bool) : Int := if r then 0 else 1
theorem sparts_no (W H : Int) (a : Option Addr) (n c : Nat) (w : World) (R : Hk (mayS W H n = false)) :
    Calls Try.prog 19 #[.int .i64 W, .int .i64 H, .slice a n c] w fun e w' => e = .returned (.tuple #[.slice none 0 0, .int .i64 1]) ∧ Below w.heap.size w w' := by
  rcases mayS_no R.out with h | ⟨h, ⟨q0, q1, q2, q3⟩, hne⟩
  · have ES := Hk.mk h
    clear h R
    go_enter Try.func19, Try.ntmps19
    go_wp2_with (go_at_call 35; (with_reducible refine (sized_as false W H _ ES).mono ?_); rintro e z ⟨rfl, hb⟩; have HB := Hk.mk hb; clear hb)
    go_ret2
    exact ⟨rfl, HB.out⟩
  · have ES := Hk.mk h
    obtain ⟨m1, m2⟩ := mul_bd q0 q1 q2 q3
    obtain ⟨M, hM⟩ : ∃ M, W * H = M := ⟨_, rfl⟩
    have e1 : IntKind.i64.wrap (W * H) = M := by rw [hM]; exact wr_in' (by omega)
    rw [hM] at hne
    have hned : decide ((n : Int) = M) = false := decide_eq_false hne
    clear hM m1 m2 h R
    go_enter Try.func19, Try.ntmps19
    go_wp2_with (go_at_call 35; (with_reducible refine (sized_as true W H _ ES).mono ?_); rintro e z ⟨rfl, hb⟩; have HB := Hk.mk hb; clear hb)
    go_ret2
    exact ⟨rfl, HB.out⟩
end Go.Proofs.Ytcgilmjhbdehpaa
/- Layer 11: lists of portals compared; what is refused; the statements' own waking. -/
namespace Go.Proofs.Ytcgilmjhbdehpaa
open Go.ChangeShapes Go.WideShapes Go.ChangeAt Go.RowKit Go.Deep
set_option linter.unusedVariables false
set_option linter.unusedSimpArgs false
/-- The slice reads as these portals. -/
def Ptq (w : World) (B : Nat) (a : Option Addr) (L : List (Int × Int × Int)) : Prop := 0 < L.length → ∃ b off, a = some ⟨b, off, none⟩ ∧ b < B ∧ ∀ k (h : k < L.length), w.cell? ⟨b, off + k * 3, none⟩ = some (.int .i64 L[k].1) ∧ w.cell? ⟨b, off + k * 3 + 1, none⟩ = some (.int .i64 L[k].2.1) ∧ w.cell? ⟨b, off + k * 3 + 2, none⟩ = some (.int .i64 L[k].2.2)
theorem Ptq.of_own {w : World} {S c : Nat} {a : Option Addr} {L : List (Int × Int × Int)} (h : w.ownsRow S 41 3 (.slice a L.length c) L.length (fl3 L)) : Ptq w w.heap.size a L := fun hn => by
  obtain ⟨g, c', e, hg⟩ := own_openP h hn
  injection e with e1 e2 e3
  subst e1
  refine ⟨g, 0, rfl, ?_, fun k hk => ?_⟩
  · exact (h.lt g rfl).2
  · obtain ⟨p, q, r⟩ := fl3_at L k hk
    have c0 := h.cellAt (k * 3) (by omega)
    have c1 := h.cellAt (k * 3 + 1) (by omega)
    have c2 := h.cellAt (k * 3 + 2) (by omega)
    rw [p] at c0
    rw [q] at c1
    rw [r] at c2
    rw [Nat.zero_add]
    exact ⟨c0, c1, c2⟩
theorem Ptq.below {w w' : World} {B B' : Nat} {a : Option Addr} {L : List (Int × Int × Int)} (h : Ptq w B a L) (hb : Below B' w w') (hB : B ≤ B') : Ptq w' B a L := fun hn => by
  obtain ⟨b, off, e, hlt, hc⟩ := h hn
  refine ⟨b, off, e, hlt, fun k hk => ?_⟩
  obtain ⟨p, q, r⟩ := hc k hk
  exact ⟨(hb.cell (p := ⟨b, off + k * 3, none⟩) (Nat.lt_of_lt_of_le hlt hB)).trans p, (hb.cell (p := ⟨b, off + k * 3 + 1, none⟩) (Nat.lt_of_lt_of_le hlt hB)).trans q, (hb.cell (p := ⟨b, off + k * 3 + 2, none⟩) (Nat.lt_of_lt_of_le hlt hB)).trans r⟩
theorem Ptq.drewN {w : World} {B : Nat} {a : Option Addr} {L : List (Int × Int × Int)} (h : Ptq w B a L) (m : Nat) : Ptq (w.drewN m) B a L := h
theorem lit_ptq (z : World) (a b c : Int) : Ptq (z.alloc (.cells #[.int .i64 a, .int .i64 b, .int .i64 c] 41)) (z.heap.size + 1) (some ⟨z.heap.size, 0, none⟩) [(a, b, c)] := fun _ => ⟨z.heap.size, 0, rfl, Nat.lt_succ_self _, fun k hk => by
  have : k = 0 := by simpa using hk
  subst this
  exact ⟨alc_new _ _ _ 0 _ rfl, alc_new _ _ _ 1 _ rfl, alc_new _ _ _ 2 _ rfl⟩⟩
theorem below_to11 {w0 w z : World} {B m : Nat} (h : Below B w0 w) (e : z = w.drewN m) : Below B w0 z := by subst e; exact below_drewN h m
theorem eqpt_yes (a a' : Option Addr) (c c' B B' : Nat) (L : List (Int × Int × Int)) (w : World) (h : Ptq w B a L) (h' : Ptq w B' a' L) (hn : L.length ≤ 1099511627776) :
    Calls Try.prog 14 #[.slice a L.length c, .slice a' L.length c'] w fun e w' => e = .returned (.bool true) ∧ ∃ m, w' = w.drewN m := by
  have H := Hk.mk h
  have H' := Hk.mk h'
  clear h h'
  obtain ⟨n, hnn⟩ : ∃ n, L.length = n := ⟨_, rfl⟩
  rw [hnn] at hn ⊢
  have HL := Hk.mk hnn
  clear hnn
  go_enter Try.func14, Try.ntmps14
  go_wp2
  go_loopw [5] (fun i wr => ∃ k : Nat, k ≤ n ∧ i = .int .i64 k ∧ Hk (∃ m, wr = w.drewN m)) (fun i _ => n - (intOf i).toNat)
  case atStart => exact ⟨0, Nat.zero_le _, rfl, ⟨0, rfl⟩⟩
  case round =>
    obtain ⟨k, hk, rfl, HB⟩ := hrel
    by_cases hlt : k < n
    · obtain ⟨m, hm⟩ := HB.out
      have HQ := H.out.drewN m
      have HQ' := H'.out.drewN m
      rw [← hm] at HQ HQ'
      have hkl : k < L.length := by rw [HL.out]; exact hlt
      obtain ⟨b, off, rfl, hbl, hcs⟩ := HQ (by omega)
      obtain ⟨b', off', rfl, hbl', hcs'⟩ := HQ' (by omega)
      obtain ⟨p0, p1, p2⟩ := hcs k hkl
      obtain ⟨q0, q1, q2⟩ := hcs' k hkl
      clear HQ HQ' hm hcs hcs'
      generalize L[k] = e at *
      clear hkl
      have i1 : (0 : Int) ≤ (k : Int) := by omega
      have i2 : (k : Int) < (n : Int) := by omega
      go_wp2
      go_quiet (fail)
      go_wp2
      go_roundw
      case rel => exact ⟨k + 1, by omega, by go_num, ⟨by obtain ⟨m, rfl⟩ := HB.out; exact ⟨_, by rw [World.drewN_drewN]⟩⟩⟩
      case measure => simp [intOf]; omega
    · have hkn : k = n := by omega
      subst hkn
      go_wp2
      go_ret
      exact ⟨rfl, HB.out⟩
theorem find_no (W H : Int) (a : Option Addr) (n c : Nat) (w : World) (R : Hk (mayS W H n = false)) :
    Calls Try.prog 12 #[.int .i64 W, .int .i64 H, .slice a n c] w fun e w' => e = .returned (.tuple #[.slice none 0 0, .int .i64 1]) ∧ Below w.heap.size w w' := by
  rcases mayS_no R.out with h | ⟨h, ⟨q0, q1, q2, q3⟩, hne⟩
  · have ES := Hk.mk h
    clear h R
    go_enter Try.func12, Try.ntmps12
    go_wp2_with (go_at_call 28; (with_reducible refine (count_no W H _ ES).mono ?_); rintro e z ⟨rfl, hb⟩; have HB := Hk.mk hb; clear hb)
    go_ret2
    exact ⟨rfl, HB.out⟩
  · have ES := Hk.mk h
    obtain ⟨m1, m2⟩ := mul_bd q0 q1 q2 q3
    obtain ⟨M, hM⟩ : ∃ M, W * H = M := ⟨_, rfl⟩
    have e1 : IntKind.i64.wrap (W * H) = M := by rw [hM]; exact wr_in' (by omega)
    rw [hM] at hne
    have hned : decide ((n : Int) = M) = false := decide_eq_false hne
    clear hM m1 m2 h R
    go_enter Try.func12, Try.ntmps12
    go_wp2_with (go_at_call 28; (with_reducible refine (count_yes W H _ ES).mono ?_); rintro e z ⟨rfl, hb⟩; have HB := Hk.mk hb; clear hb)
    go_ret2
    exact ⟨rfl, HB.out⟩
theorem num11_any (x : Int) (w : World) : Calls Try.prog 13 #[.int .i64 x] w fun e w' => e = .returned (.int .i64 x) ∧ w' = w := by
  go_enter Try.func13, Try.ntmps13
  go_wp2
  go_ret
  exact ⟨rfl, rfl⟩
theorem all16 : allP (fun _ => true) 16 1 = [(7, 8, 1)] := by decide
theorem perm16 {L : List (Int × Int × Int)} (h : L.Perm (allP (fun _ => true) 16 1)) : L = [(7, 8, 1)] := by
  rw [all16] at h
  exact List.perm_singleton.1 h
set_option maxRecDepth 100000 in
theorem wakes11_any (w : World) : Calls Try.prog 17 #[] w fun e w' => e = .returned (.bool true) ∧ Below w.heap.size w w' := by
  obtain ⟨ii, hii, hiz0, hiz1, hiz2⟩ := info_parts info_bl
  go_enter Try.func17, Try.ntmps17
  go_wp2_with (at_make; go_must (refine wpList_make_full _ rfl _ _ 22 rfl w.heap.size 4 ii (.bool false) 1 Try.underlying22 hii hiz0 hiz1 .i64 .i64 _ _ 16 rfl rfl rfl rfl (by rw [hiz2]; omega) (by unfold maxLen; omega) (Nat.le_refl _) ?_; intro z1 hown hgrow; have HJ := Hk.mk (Arr.made hown rfl (z := .bool false)); have HB := Hk.mk (below_grown hgrow); clear hown hgrow))
  obtain ⟨wo, rfl⟩ : ∃ wo : World, wo = z1 := ⟨z1, rfl⟩
  go_loopw [2] (fun jj wr => ∃ t : Nat, jj = .int .i64 t ∧ t ≤ 16 ∧ Hk (Arr wr w.heap.size 16 4 (fun k => .bool (decide (k < t)))) ∧ Hk (Below w.heap.size w wr)) (fun jj _ => 16 - (intOf jj).toNat)
  case atStart => exact ⟨0, rfl, by omega, ⟨HJ.out.congr fun k hk => by simp⟩, HB⟩
  case round =>
    clear HJ HB
    obtain ⟨t, rfl, ht, HJ, HB⟩ := hrel
    by_cases htn : t < 16
    · have t0 : (0 : Int) ≤ (t : Int) := by omega
      have t1 : (t : Int) < 16 := by omega
      have cj := HJ.out.cell htn
      have fj := HJ.out.frozen t
      have HJ2 : Hk (Arr (wr.setCell ⟨w.heap.size, t, none⟩ (.bool true)) w.heap.size 16 4 (fun k => .bool (decide (k < t + 1)))) := ⟨(HJ.out.set htn _).congr fun k hk => by
        by_cases e : k = t
        · subst e; simp
        · rw [if_neg e]
          have : decide (k < t + 1) = decide (k < t) := by by_cases c : k < t <;> simp [c] <;> omega
          rw [this]⟩
      have HB2 : Hk (Below w.heap.size w (wr.setCell ⟨w.heap.size, t, none⟩ (.bool true))) := ⟨HB.out.setCell (Nat.le_refl _) _⟩
      clear HJ HB
      as_aux_lemma =>
        go_wp2_with fail
        exact ⟨⟨t + 1, by go_num, by omega, HJ2, HB2⟩, by simp [intOf]; omega⟩
    · obtain rfl : t = 16 := by omega
      have HF : Hk (∀ k, k < 16 → wr.cell? ⟨w.heap.size, 0 + k, none⟩ = some (.bool true)) := ⟨fun k hk => by rw [Nat.zero_add, HJ.out.cell hk]; simp [hk]⟩
      have hlt := HJ.out.lt
      have HFD := Hk.mk (find_yes 16 1 w.heap.size 0 16 16 (fun _ => true) wr (by omega) (by omega) (by omega) (by omega) rfl hlt HF.out)
      clear htn
      as_aux_lemma =>
        go_wp2_with (first
          | (go_at_call 12; (refine HFD.out.mono ?_); rintro e z ⟨a, c, L, rfl, hp, hs, ho, hb⟩; have hL := perm16 hp; subst hL; have HOP := Hk.mk ho; have HB2 := Hk.mk (HB.out.trans (hb.mono HB.out.size)); clear hp hs ho hb)
          | (go_at_call 13; (with_reducible refine (num11_any _ _).mono ?_); rintro e z2 ⟨rfl, hz⟩; rw [hz]; clear hz z2)
          | (go_at_call 14; (refine (eqpt_yes a (some ⟨z.heap.size, 0, none⟩) c 1 _ (z.heap.size + 1) [(7, 8, 1)] _ (Ptq.below (Ptq.of_own HOP.out) ((Below.refl _ _).alloc (Nat.le_refl _) _) (Nat.le_refl _)) ?_ (by simp)).mono ?_); (exact lit_ptq z 7 8 1); rintro e z3 ⟨rfl, mm, hz⟩; have HB3 := Hk.mk (below_to11 (HB2.out.alloc HB2.out.size (.cells #[.int .i64 7, .int .i64 8, .int .i64 1] 41)) hz); clear hz))
        go_ret
        exact ⟨rfl, HB3.out⟩
end Go.Proofs.Ytcgilmjhbdehpaa
/- Layer 11: a wall with gaps: plain words. -/
namespace Go.Proofs.Ytcgilmjhbdehpaa
open Go.ChangeShapes Go.WideShapes Go.ChangeAt Go.RowKit Go.Deep
set_option linter.unusedVariables false
set_option linter.unusedSimpArgs false
def frW (g k : Nat) : Bool := !(k % 16 == 8) || g / 2 ^ (k / 16) % 2 == 1
def bitW (g y : Nat) : Bool := g / 2 ^ y % 2 == 1
def stW (g : Nat) : Nat → Nat
  | 0 => 0
  | y + 1 => stW g y + (if bitW g y && (y == 0 || !(bitW g (y - 1))) then 1 else 0)
def cnW (g : Nat) : Nat → Nat
  | 0 => 0
  | y + 1 => cnW g y + (if bitW g y then 1 else 0)
def sW3 : List (Int × Int × Int) → Int
  | [] => 0
  | p :: l => p.2.2 + sW3 l
theorem sW3_perm {l m : List (Int × Int × Int)} (h : l.Perm m) : sW3 l = sW3 m := by
  induction h with
  | nil => rfl
  | cons x _ ih => show x.2.2 + _ = x.2.2 + _; rw [ih]
  | swap x y l => show y.2.2 + (x.2.2 + _) = x.2.2 + (y.2.2 + _); omega
  | trans _ _ a b => exact a.trans b
def okW (p : Int × Int × Int) : Bool := p.1 % 16 == 7 && p.2.1 == p.1 + 1 && decide (0 ≤ p.1) && decide (p.1 ≤ 1000) && decide (0 ≤ p.2.2) && decide (p.2.2 ≤ 1000)
set_option maxRecDepth 100000 in
theorem allW : ∀ g, g < 256 → (allP (frW g) 16 8).length = stW g 8 ∧ sW3 (allP (frW g) 16 8) = cnW g 8 ∧ (allP (frW g) 16 8).all okW = true ∧ stW g 8 ≤ 8 ∧ cnW g 8 ≤ 8 := by decide +kernel
theorem bits_and1 (x : Nat) (h : x ≤ 1000000) : bits BinOp.and IntKind.i64 (x : Int) 1 = ((x % 2 : Nat) : Int) := by
  have e : bits BinOp.and IntKind.i64 (x : Int) 1 = IntKind.i64.wrap ((BitVec.ofInt 64 (x : Int) &&& BitVec.ofInt 64 1).toNat : Int) := rfl
  have e2 : (BitVec.ofInt 64 (x : Int) &&& BitVec.ofInt 64 1).toNat = x % 2 := by
    rw [BitVec.toNat_and]
    have a : (BitVec.ofInt 64 (x : Int)).toNat = x := by
      rw [BitVec.ofInt_natCast, BitVec.toNat_ofNat]
      exact Nat.mod_eq_of_lt (by omega)
    have b : (BitVec.ofInt 64 1).toNat = 1 := by decide
    rw [a, b, Nat.and_one_is_mod]
  rw [e, e2]
  exact wr_nat (by omega)
theorem bitE (g y : Nat) (h : g ≤ 1000000) : bits BinOp.and IntKind.i64 ((g : Int) / 2 ^ y) 1 = ((g / 2 ^ y % 2 : Nat) : Int) := by
  have e : (g : Int) / 2 ^ y = ((g / 2 ^ y : Nat) : Int) := by push_cast; rfl
  rw [e]
  exact bits_and1 _ (Nat.le_trans (Nat.div_le_self _ _) h)
theorem bit_yes {g y : Nat} (h : g ≤ 1000000) (hb : bitW g y = true) : bits BinOp.and IntKind.i64 ((g : Int) / 2 ^ y) 1 = 1 := by
  have : g / 2 ^ y % 2 = 1 := by simpa [bitW] using hb
  rw [bitE g y h, this]; rfl
theorem bit_no {g y : Nat} (h : g ≤ 1000000) (hb : bitW g y = false) : bits BinOp.and IntKind.i64 ((g : Int) / 2 ^ y) 1 = 0 := by
  have : g / 2 ^ y % 2 = 0 := by have : ¬ g / 2 ^ y % 2 = 1 := by simpa [bitW] using hb
                                 omega
  rw [bitE g y h, this]; rfl
theorem frW8 {g t : Nat} (h : t % 16 = 8) : frW g t = bitW g (t / 16) := by unfold frW bitW; rw [h]; rfl
theorem frWn {g t : Nat} (h : ¬ t % 16 = 8) : frW g t = true := by
  unfold frW
  have : (t % 16 == 8) = false := by simpa using h
  rw [this]; rfl
end Go.Proofs.Ytcgilmjhbdehpaa
/- Layer 11: pairs counted tile by tile are those counted border by border; what every portal is. -/
namespace Go.Proofs.Ytcgilmjhbdehpaa
open Go.ChangeShapes Go.WideShapes Go.ChangeAt Go.RowKit Go.Deep
set_option linter.unusedVariables false
set_option linter.unusedSimpArgs false
def sT (c : Nat → Nat) : Nat → Nat
  | 0 => 0
  | k + 1 => sT c k + c k
theorem sT_congr {c d : Nat → Nat} : ∀ n, (∀ k, k < n → c k = d k) → sT c n = sT d n
  | 0, _ => rfl
  | n + 1, h => by
    show sT c n + c n = sT d n + d n
    rw [sT_congr n (fun k hk => h k (by omega)), h n (by omega)]
theorem sT_zero : ∀ n, sT (fun _ => 0) n = 0
  | 0 => rfl
  | n + 1 => by show sT (fun _ => 0) n + 0 = 0; rw [sT_zero n]
theorem sT_addf (c d : Nat → Nat) : ∀ n, sT (fun k => c k + d k) n = sT c n + sT d n
  | 0 => rfl
  | n + 1 => by
    show sT (fun k => c k + d k) n + (c n + d n) = sT c n + c n + (sT d n + d n)
    rw [sT_addf c d n]; omega
theorem sT_swap (c : Nat → Nat → Nat) (m : Nat) : ∀ n, sT (fun y => sT (c y) m) n = sT (fun x => sT (fun y => c y x) n) m
  | 0 => (sT_zero m).symm
  | n + 1 => by
    show sT (fun y => sT (c y) m) n + sT (c n) m = sT (fun x => sT (fun y => c y x) n + c n x) m
    rw [sT_addf, sT_swap c m n]
theorem sT_cat (c : Nat → Nat) (a : Nat) : ∀ b, sT c (a + b) = sT c a + sT (fun k => c (a + k)) b
  | 0 => rfl
  | b + 1 => by
    show sT c (a + b) + c (a + b) = sT c a + (sT (fun k => c (a + k)) b + c (a + b))
    rw [sT_cat c a b]; omega
theorem sT_rows (c : Nat → Nat) (W : Nat) : ∀ H, sT c (W * H) = sT (fun y => sT (fun x => c (W * y + x)) W) H
  | 0 => rfl
  | H + 1 => by
    rw [Nat.mul_succ, sT_cat, sT_rows c W H]; rfl
theorem sT_8 (g : Nat → Nat) : ∀ m, sT (fun x => if x % 8 = 7 then g x else 0) m = sT (fun k => g (8 * k + 7)) (m / 8)
  | 0 => rfl
  | m + 1 => by
    show sT (fun x => if x % 8 = 7 then g x else 0) m + (if m % 8 = 7 then g m else 0) = _
    rw [sT_8 g m]
    by_cases h : m % 8 = 7
    · rw [if_pos h, show (m + 1) / 8 = m / 8 + 1 by omega]
      show _ = sT (fun k => g (8 * k + 7)) (m / 8) + g (8 * (m / 8) + 7)
      rw [show 8 * (m / 8) + 7 = m by omega]
    · rw [if_neg h, show (m + 1) / 8 = m / 8 by omega]; rfl
theorem sT_edge (g : Nat → Nat) (W : Nat) : sT (fun x => if x + 1 < W ∧ x % 8 = 7 then g x else 0) W = sT (fun k => g (8 * k + 7)) ((W - 1) / 8) := by
  cases W with
  | zero => rfl
  | succ m =>
    rw [show m + 1 - 1 = m by omega, ← sT_8]
    show sT (fun x => if x + 1 < m + 1 ∧ x % 8 = 7 then g x else 0) m + (if m + 1 < m + 1 ∧ m % 8 = 7 then g m else 0) = _
    rw [if_neg (by omega), Nat.add_zero]
    refine sT_congr m fun k hk => ?_
    by_cases h : k % 8 = 7
    · rw [if_pos h, if_pos ⟨by omega, h⟩]
    · rw [if_neg h, if_neg (fun e => h e.2)]
def b1 (b : Bool) : Nat := if b = true then 1 else 0
theorem cntR_sT (pr : Nat → Bool) : ∀ n, cntR pr n = sT (fun i => b1 (pr i)) n
  | 0 => rfl
  | n + 1 => by show cntR pr n + _ = sT _ n + _; rw [cntR_sT pr n]; rfl
/-- Has tile t a pair to its right, below it? -/
def rgP (fr : Nat → Bool) (W t : Nat) : Bool := decide (t % W + 1 < W ∧ t % W % 8 = 7) && (fr t && fr (t + 1))
def dnP (fr : Nat → Bool) (W H t : Nat) : Bool := decide (t / W + 1 < H ∧ t / W % 8 = 7) && (fr t && fr (t + W))
def prN (fr : Nat → Bool) (W H : Nat) : Nat → Nat := sT (fun t => b1 (rgP fr W t) + b1 (dnP fr W H t))
theorem atV (W k y : Nat) : (((8 * k + 7 : Nat) : Int) + (y : Int) * (W : Int)) = ((W * y + (8 * k + 7) : Nat) : Int) := by
  push_cast; rw [Int.mul_comm (y : Int)]; omega
theorem atH (W k x : Nat) : (((8 * k + 7 : Nat) : Int) * (W : Int) + (x : Int) * 1) = ((W * (8 * k + 7) + x : Nat) : Int) := by
  push_cast; rw [Int.mul_comm (W : Int)]; omega
theorem rg_sum (fr : Nat → Bool) (W H : Nat) : sT (fun t => b1 (rgP fr W t)) (W * H) = sT (fun k => cntR (prV fr W H k) H) ((W - 1) / 8) := by
  rw [sT_rows, sT_swap]
  have e : sT (fun x => sT (fun y => b1 (rgP fr W (W * y + x))) H) W = sT (fun x => if x + 1 < W ∧ x % 8 = 7 then sT (fun y => b1 (fr (W * y + x) && fr (W * y + x + 1))) H else 0) W := sT_congr W fun x hx => by
    by_cases h : x + 1 < W ∧ x % 8 = 7
    · rw [if_pos h]
      refine sT_congr H fun y _ => ?_
      unfold rgP
      rw [Nat.mul_add_mod, Nat.mod_eq_of_lt hx, decide_eq_true h]; rfl
    · rw [if_neg h]
      refine (sT_congr H fun y _ => ?_).trans (sT_zero H)
      unfold rgP
      rw [Nat.mul_add_mod, Nat.mod_eq_of_lt hx, decide_eq_false h]; rfl
  rw [e, sT_edge (fun x => sT (fun y => b1 (fr (W * y + x) && fr (W * y + x + 1))) H)]
  refine sT_congr _ fun k _ => ?_
  rw [cntR_sT]
  refine sT_congr H fun y hy => ?_
  rw [prV_on y hy, atV, show ((W * y + (8 * k + 7) : Nat) : Int) + 1 = ((W * y + (8 * k + 7) + 1 : Nat) : Int) by push_cast; rfl, Int.toNat_natCast, Int.toNat_natCast]
theorem dn_sum (fr : Nat → Bool) (W H : Nat) : sT (fun t => b1 (dnP fr W H t)) (W * H) = sT (fun k => cntR (prH fr W k) W) ((H - 1) / 8) := by
  rw [sT_rows]
  have e : sT (fun y => sT (fun x => b1 (dnP fr W H (W * y + x))) W) H = sT (fun y => if y + 1 < H ∧ y % 8 = 7 then sT (fun x => b1 (fr (W * y + x) && fr (W * y + x + W))) W else 0) H := sT_congr H fun y hy => by
    have hd : ∀ x, x < W → (W * y + x) / W = y := fun x hx => by rw [Nat.mul_add_div (by omega), Nat.div_eq_of_lt hx, Nat.add_zero]
    by_cases h : y + 1 < H ∧ y % 8 = 7
    · rw [if_pos h]
      refine sT_congr W fun x hx => ?_
      unfold dnP
      rw [hd x hx, decide_eq_true h]; rfl
    · rw [if_neg h]
      refine (sT_congr W fun x hx => ?_).trans (sT_zero W)
      unfold dnP
      rw [hd x hx, decide_eq_false h]; rfl
  rw [e, sT_edge (fun y => sT (fun x => b1 (fr (W * y + x) && fr (W * y + x + W))) W)]
  refine sT_congr _ fun k _ => ?_
  rw [cntR_sT]
  refine sT_congr W fun x hx => ?_
  rw [prH_on x hx, atH, show ((W * (8 * k + 7) + x : Nat) : Int) + (W : Int) = ((W * (8 * k + 7) + x + W : Nat) : Int) by push_cast; rfl, Int.toNat_natCast, Int.toNat_natCast]
theorem sW3_cat (l m : List (Int × Int × Int)) : sW3 (l ++ m) = sW3 l + sW3 m := by
  induction l with
  | nil => show sW3 m = 0 + sW3 m; omega
  | cons a l ih => show a.2.2 + sW3 (l ++ m) = a.2.2 + sW3 l + sW3 m; omega
theorem sW3_map (T : Nat → Int) (ac : Int) (R : List (Nat × Nat)) : sW3 (R.map (ptOf T ac)) = (sumR R : Int) := by
  induction R with
  | nil => rfl
  | cons r R ih => show (r.2 : Int) + sW3 (R.map (ptOf T ac)) = ((r.2 + sumR R : Nat) : Int); rw [ih]; push_cast; rfl
theorem run_sum {pr : Nat → Bool} {n : Nat} (h : pr n = false) : sumR (rnS pr (n + 1)).1 = cntR pr n := by
  have a := rnS_sum pr (n + 1)
  have b := rnS_end h
  have c : cntR pr (n + 1) = cntR pr n + 0 := by show cntR pr n + (if pr n = true then 1 else 0) = _; rw [h]; rfl
  omega
theorem bV_sum (fr : Nat → Bool) (W H k : Nat) : sW3 (bV fr W H k) = (cntR (prV fr W H k) H : Int) := by
  unfold bV; rw [sW3_map, run_sum (prV_off H (Nat.le_refl H))]
theorem bH_sum (fr : Nat → Bool) (W k : Nat) : sW3 (bH fr W k) = (cntR (prH fr W k) W : Int) := by
  unfold bH; rw [sW3_map, run_sum (prH_off W (Nat.le_refl W))]
theorem vL_sum (fr : Nat → Bool) (W H : Nat) : ∀ k, sW3 (vL fr W H k) = (sT (fun j => cntR (prV fr W H j) H) k : Int)
  | 0 => rfl
  | k + 1 => by
    show sW3 (vL fr W H k ++ bV fr W H k) = ((sT (fun j => cntR (prV fr W H j) H) k + cntR (prV fr W H k) H : Nat) : Int)
    rw [sW3_cat, vL_sum fr W H k, bV_sum]; push_cast; rfl
theorem hL_sum (fr : Nat → Bool) (W H : Nat) : ∀ k, sW3 (hL fr W H k) = (sT (fun j => cntR (prV fr W H j) H) ((W - 1) / 8) : Int) + (sT (fun j => cntR (prH fr W j) W) k : Int)
  | 0 => by show sW3 (vL fr W H ((W - 1) / 8)) = _ + 0; rw [vL_sum]; omega
  | k + 1 => by
    show sW3 (hL fr W H k ++ bH fr W k) = _ + ((sT (fun j => cntR (prH fr W j) W) k + cntR (prH fr W k) W : Nat) : Int)
    rw [sW3_cat, hL_sum fr W H k, bH_sum]; push_cast; omega
/-- All widths together are the pairs. -/
theorem pr_all (fr : Nat → Bool) (W H : Nat) : (prN fr W H (W * H) : Int) = sW3 (allP fr W H) := by
  unfold prN allP
  rw [sT_addf, rg_sum, dn_sum, hL_sum]; push_cast; rfl
/-- What a portal is. -/
def OkP (fr : Nat → Bool) (W H : Nat) (p : Int × Int × Int) : Prop := 1 ≤ p.2.2 ∧ p.2.2 ≤ 8 ∧ ∃ t : Nat, p.1 = (t : Int) ∧ (rgP fr W t = true ∧ p.2.1 = ((t + 1 : Nat) : Int) ∧ t + 1 < W * H ∨ dnP fr W H t = true ∧ p.2.1 = ((t + W : Nat) : Int) ∧ t + W < W * H)
theorem bV_ok {fr : Nat → Bool} {W H k : Nat} (hk : 8 * k + 8 < W) : ∀ p, p ∈ bV fr W H k → OkP fr W H p := fun p hp => by
  obtain ⟨r, hr, rfl⟩ := List.mem_map.1 hp
  have ho := ((runI (prV fr W H k) (H + 1)).ok r hr).1
  have hw := ho.w1
  have hw8 := ho.w8
  obtain ⟨j, hj⟩ : ∃ j, j = r.1 + (r.2 - 1) / 2 := ⟨_, rfl⟩
  have hon := ho.on j (by omega) (by omega)
  have hjH : j < H := by
    apply Classical.byContradiction
    intro h
    rw [prV_off j (by omega)] at hon
    cases hon
  rw [prV_on j hjH, atV, show ((W * j + (8 * k + 7) : Nat) : Int) + 1 = ((W * j + (8 * k + 7) + 1 : Nat) : Int) by push_cast; rfl, Int.toNat_natCast, Int.toNat_natCast] at hon
  have hlt := bdV (W := W) (H := H) hk hjH
  rw [atV] at hlt
  refine ⟨by show (1 : Int) ≤ (r.2 : Int); omega, by show (r.2 : Int) ≤ 8; omega, W * j + (8 * k + 7), ?_, Or.inl ⟨?_, ?_, by omega⟩⟩
  · show ((8 * k + 7 : Nat) : Int) + ((r.1 + (r.2 - 1) / 2 : Nat) : Int) * (W : Int) = _
    rw [← hj, atV]
  · unfold rgP
    rw [Nat.mul_add_mod, Nat.mod_eq_of_lt (by omega), decide_eq_true (by omega)]
    exact hon
  · show ((8 * k + 7 : Nat) : Int) + ((r.1 + (r.2 - 1) / 2 : Nat) : Int) * (W : Int) + 1 = _
    rw [← hj, atV]; push_cast; rfl
theorem bH_ok {fr : Nat → Bool} {W H k : Nat} (hk : 8 * k + 8 < H) : ∀ p, p ∈ bH fr W k → OkP fr W H p := fun p hp => by
  obtain ⟨r, hr, rfl⟩ := List.mem_map.1 hp
  have ho := ((runI (prH fr W k) (W + 1)).ok r hr).1
  have hw := ho.w1
  have hw8 := ho.w8
  obtain ⟨j, hj⟩ : ∃ j, j = r.1 + (r.2 - 1) / 2 := ⟨_, rfl⟩
  have hon := ho.on j (by omega) (by omega)
  have hjW : j < W := by
    apply Classical.byContradiction
    intro h
    rw [prH_off j (by omega)] at hon
    cases hon
  rw [prH_on j hjW, atH, show ((W * (8 * k + 7) + j : Nat) : Int) + (W : Int) = ((W * (8 * k + 7) + j + W : Nat) : Int) by push_cast; rfl, Int.toNat_natCast, Int.toNat_natCast] at hon
  have hlt := bdH (W := W) (H := H) hk hjW
  rw [atH] at hlt
  refine ⟨by show (1 : Int) ≤ (r.2 : Int); omega, by show (r.2 : Int) ≤ 8; omega, W * (8 * k + 7) + j, ?_, Or.inr ⟨?_, ?_, by omega⟩⟩
  · show ((8 * k + 7 : Nat) : Int) * (W : Int) + ((r.1 + (r.2 - 1) / 2 : Nat) : Int) * 1 = _
    rw [← hj, atH]
  · unfold dnP
    rw [Nat.mul_add_div (by omega), Nat.div_eq_of_lt hjW, decide_eq_true (by omega)]
    exact hon
  · show ((8 * k + 7 : Nat) : Int) * (W : Int) + ((r.1 + (r.2 - 1) / 2 : Nat) : Int) * 1 + (W : Int) = _
    rw [← hj, atH]; push_cast; rfl
theorem vL_ok {fr : Nat → Bool} {W H : Nat} : ∀ k, k ≤ (W - 1) / 8 → ∀ p, p ∈ vL fr W H k → OkP fr W H p
  | 0, _, p, hp => by cases hp
  | k + 1, h, p, hp => by
    rcases List.mem_append.1 hp with h1 | h1
    · exact vL_ok k (by omega) p h1
    · exact bV_ok (by omega) p h1
theorem hL_ok {fr : Nat → Bool} {W H : Nat} : ∀ k, k ≤ (H - 1) / 8 → ∀ p, p ∈ hL fr W H k → OkP fr W H p
  | 0, _, p, hp => vL_ok _ (Nat.le_refl _) p hp
  | k + 1, h, p, hp => by
    rcases List.mem_append.1 hp with h1 | h1
    · exact hL_ok k (by omega) p h1
    · exact bH_ok (by omega) p h1
theorem all_ok {fr : Nat → Bool} {W H : Nat} : ∀ p, p ∈ allP fr W H → OkP fr W H p := hL_ok _ (Nat.le_refl _)
end Go.Proofs.Ytcgilmjhbdehpaa
