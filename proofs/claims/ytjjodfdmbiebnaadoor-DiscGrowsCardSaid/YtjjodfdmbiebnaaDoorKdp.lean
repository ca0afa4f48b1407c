import Derived.ArgAppend
import Derived.Test.YtjjodfdmbiebnaaDoorKdo
import Derived.Test.YtjjodfdmbiebnaaDoorKdf
import Derived.WalkKit
import Derived.Below
import Derived.Test.YtjjodfdmbiebnaaDoorProg
/- Layer 6: what the statements call. -/
namespace Go.Proofs.YtjjodfdmbiebnaaDoor
open Go.RowKit
set_option linter.unusedVariables false
theorem gr_new (w : World) (W H : Int) (n m : Nat) (hm : (m : Int) = W * H) (t : TypeId) (hW : 1 ≤ W ∧ W ≤ 128) (hH : 1 ≤ H ∧ H ≤ 128) : GOk W H m (List.replicate m 0) := ⟨hW.1, hW.2, hH.1, hH.2, hm, fun x hx => by rw [List.eq_of_mem_replicate hx]; omega⟩
theorem nq_lit (w : World) (xs : List Int) (t : TypeId) (n : Nat) (hl : xs.length = n) : Nq (w.alloc (.cells (xs.map (Value.int .i64)).toArray t)) (w.heap.size + 1) (some ⟨w.heap.size, 0, none⟩) n xs := by
  refine ⟨hl, fun _ => ⟨_, _, rfl, by omega, fun k hk => ?_⟩⟩
  rw [Nat.zero_add, World.cell?_alloc_mark]
  simp [List.getD, List.getElem?_eq_getElem (show k < xs.length by omega)]
theorem byt_zeros : ∀ b ∈ ([0, 0, 0, 0, 0, 0] : List Int), Fn.Byt b := by
  intro b hb
  simp at hb
  subst hb
  unfold Fn.Byt; omega
theorem nb_320 : nbL 3 2 0 = [-1, 1, 3, -1, -1, 4, -1, -1] := by decide
set_option maxRecDepth 100000 in
theorem wakes6_any (w : World) (hL : LT w) : Calls Tryd.prog 22 #[] w fun e w' => e = .returned (.bool true) ∧ Below w.heap.size w w' := by
  have hG : GOk 3 2 6 [0, 0, 0, 0, 0, 0] := ⟨by omega, by omega, by omega, by omega, by decide, by decide⟩
  have hby := By.lit w [0, 0, 0, 0, 0, 0] 5 (0, 0) (w.heap.size + 1) 6 rfl byt_zeros (by omega)
  have HG := Hk.mk hG
  have HBY := Hk.mk hby
  have HL := Hk.mk (hL.below ((Below.refl _ _).alloc (Nat.le_refl _) (.cells (([0, 0, 0, 0, 0, 0] : List Int).map (Value.int .u8)).toArray 5)) (Nat.le_refl _))
  have HN := Hk.mk nb_320
  have hmk : ∀ w, (Instr.makeSlice 22 (.int .i64 6) (.int .i64 6)).run Tryd.prog w = .ok (.slice (some ⟨w.heap.size, 0, none⟩) 6 6) (w.alloc (.cells #[.int .u8 0, .int .u8 0, .int .u8 0, .int .u8 0, .int .u8 0, .int .u8 0] 5)) := fun _ => by kernel_rfl
  clear hG hby hL
  go_enter Tryd.func22, Tryd.ntmps22
  go_wp2_with (first
    | (go_at_call 20; go_must (refine (near_yes 0 3 2 (some ⟨w.heap.size, 0, none⟩) 6 6 (w.heap.size + 1) [0, 0, 0, 0, 0, 0] _ HBY.out (by simp) (by omega) HL.out HG.out (by omega) (by omega)).mono ?_); rintro e w1 ⟨g, rfl, hg1, hg2, hl8, hcg, hfg, hb1⟩; rw [HN.out] at hcg; have HNQ := Hk.mk (show Nq w1 (g + 1) (some ⟨g, 0, none⟩) 8 [-1, 1, 3, -1, -1, 4, -1, -1] from ⟨rfl, fun _ => ⟨g, 0, rfl, by omega, fun k hk => by rw [Nat.zero_add]; exact hcg k hk⟩⟩); have HB1 := Hk.mk hb1; have hz1 := hb1.size; simp at hz1; have HNL := Hk.mk (nq_lit w1 [-1, 1, 3, -1, -1, 4, -1, -1] 3 8 rfl); clear hb1 hcg hfg hl8)
    | (go_at_call 14; (with_reducible refine (num6_any _ _).mono ?_); rintro e w' ⟨rfl, rfl⟩)
    | (go_at_call 33; go_must (refine (eqn_yes (some ⟨g, 0, none⟩) (some ⟨w1.heap.size, 0, none⟩) 8 8 8 (g + 1) (w1.heap.size + 1) [-1, 1, 3, -1, -1, 4, -1, -1] _ (HNQ.out.below ((Below.refl _ _).alloc (Nat.le_refl _) _) (by omega)) HNL.out (by omega)).mono ?_); rintro e w2 ⟨rfl, m, rfl⟩))
  go_ret
  exact ⟨rfl, below_drewN ((((Below.refl _ _).alloc (Nat.le_refl _) _).trans (HB1.out.mono (by simp <;> omega))).alloc (by omega) _) _⟩
/-- Eight numbers of a block of our own. -/
structure A8 (base g : Nat) (w0 w : World) (F : Nat → Int) : Prop where
  c : ∀ j, j < 8 → w.cell? ⟨g, j, none⟩ = some (.int .i64 (F j))
  f : ∀ j, w.frozen? ⟨g, j, none⟩ = false
  hs : g < w.heap.size
  hb : base ≤ g
  hB : Below base w0 w
theorem A8.set {base g : Nat} {w0 w : World} {F : Nat → Int} (h : A8 base g w0 w F) (k : Nat) (v : Int) (hk : k < 8) : A8 base g w0 (w.setCell ⟨g, k, none⟩ (.int .i64 v)) (fun j => if j = k then v else F j) := by
  refine ⟨fun j hj => ?_, fun j => ?_, ?_, h.hb, h.hB.setCell h.hb _⟩
  · by_cases e : j = k
    · subst e; rw [if_pos rfl]; exact World.cell?_setCell_same _ _ _ (u := .int .i64 (F j)) (h.c j hj)
    · rw [if_neg e, World.cell?_setCell_other _ _ _ _ (by simp <;> omega)]; exact h.c j hj
  · simpa using h.f j
  · simpa using h.hs
set_option maxRecDepth 100000 in
theorem numbers8 (base g : Nat) (w0 w : World) (F : Nat → Int) (h : A8 base g w0 w F) (hw : base ≤ w.heap.size) :
    Calls Tryd.prog 34 #[.slice (some ⟨g, 0, none⟩) 8 8] w fun e w' => e = .returned (.tuple #[]) ∧ Below base w0 w' := by
  obtain ⟨i0, hi, hz0, hz1, hz2⟩ := info_parts info_int
  have HO := Hk.mk h
  clear h
  go_enter Tryd.func34, Tryd.ntmps34
  go_wp2
  go_loopw [2] (fun i wr => ∃ (k : Nat), i = .int .i64 k ∧ k ≤ 8 ∧ Hk (∃ F, A8 base g w0 wr F) ∧ base ≤ wr.heap.size) (fun i _ => 8 - (intOf i).toNat)
  case atStart => exact ⟨0, rfl, by omega, ⟨_, HO.out⟩, hw⟩
  case round =>
    obtain ⟨k, rfl, hk, HP, hwr⟩ := hrel
    obtain ⟨F, HF⟩ := HP.out
    clear HP
    by_cases hlt : k < 8
    · have hcx := HF.c k hlt
      have hfz := HF.f k
      have j1 : (0 : Int) ≤ (k : Int) := by omega
      have j2 : (k : Int) < 8 := by omega
      have H3 := Hk.mk (HF.set k (-99) hlt)
      clear HF
      go_wp2
      go_roundw
      case rel => exact ⟨k + 1, by go_num, by omega, ⟨_, H3.out⟩, by simpa using hwr⟩
      case measure => simp [intOf]; omega
    · obtain rfl : k = 8 := by omega
      have H3 := Hk.mk HF
      clear HF
      go_wp2_with (at_builtin; go_must (refine wpList_append_arg _ rfl _ _ 25 rfl 3 i0 (.int .i64 0) 1 8 Tryd.underlying25 hi hz0 hz1 hz2 rfl (by decide) g 0 8 8 ((List.range 8).map (fun j => .int .i64 (F j))) rfl (by simp) ?c0 ⟨wr.heap.size, 0, none⟩ 1 1 [.int .i64 5] rfl rfl (one_new _ _ _) ?c2 (fun h => absurd h (by omega)) (by unfold maxLen; omega) (by omega) (fun h => absurd h (by omega)) ?_))
      case c0 =>
        intro j u hj
        by_cases hj8 : j < 8
        · have e := (Below.cell (p := ⟨g, j, none⟩) ((Below.refl wr.heap.size wr).alloc (Nat.le_refl _) (.cells #[.int .i64 5] 3)) H3.out.hs).trans (H3.out.c j hj8)
          simp [hj8] at hj
          rw [Nat.zero_add, e, ← hj]
        · rw [List.getElem?_eq_none (by simp; omega)] at hj
          cases hj
      case c2 => intro u hu; simp at hu; subst hu; rfl
      · intro v' w1 _ hgrow
        have HG := Hk.mk hgrow
        clear hgrow
        go_wp2
        go_end0
        exact ⟨rfl, (H3.out.hB.alloc hwr _).grown HG.out (by simp; omega) (fun g hg => by cases hg)⟩
theorem numbers0 (base : Nat) (w0 w : World) (h : Below base w0 w) (hw : base ≤ w.heap.size) :
    Calls Tryd.prog 34 #[.slice none 0 0] w fun e w' => e = .returned (.tuple #[]) ∧ Below base w0 w' := by
  obtain ⟨i0, hi, hz0, hz1, hz2⟩ := info_parts info_int
  have HB := Hk.mk h
  have HO := Hk.mk (World.ownsRow_nil w base 3 1)
  clear h
  go_enter Tryd.func34, Tryd.ntmps34
  go_wp2
  go_loopw [2] (fun i wr => i = .int .i64 0 ∧ wr = w) (fun i _ => 0)
  case atStart => exact ⟨rfl, rfl⟩
  case round =>
    obtain ⟨rfl, rfl⟩ := hrel
    go_wp2_with (at_builtin; refine wpList_append_own _ rfl _ _ 25 rfl base 3 i0 (.int .i64 0) 1 8 Tryd.underlying25 hi hz0 hz1 hz2 rfl (by decide) _ _ _ rfl (HO.out.alloc _) ⟨wr.heap.size, 0, none⟩ 1 1 [.int .i64 5] rfl rfl (one_new _ _ _) ?c2 (by unfold maxLen; omega) (by omega) ?c5 ?_)
    case c2 => intro u hu; simp at hu; subst hu; rfl
    case c5 => simp; omega
    · intro v' w1 hown' hgrow _
      have HG := Hk.mk hgrow
      clear hgrow hown'
      go_wp2
      go_end0
      exact ⟨rfl, (HB.out.alloc hw _).grown HG.out (by simp; omega) (fun g hg => by cases hg)⟩
end Go.Proofs.YtjjodfdmbiebnaaDoor
/- Arguments that hold slices of numbers, of ways, of bytes: what is known of them. -/
namespace Go.Proofs.YtjjodfdmbiebnaaDoor
open Go.ChangeShapes Go.WideShapes Go.ChangeAt Go.RowKit Go.Deep
set_option linter.unusedVariables false
theorem i64q_of_wf {n : Int} (h : (Lit.int .i64 n).wf = true) : I64' n := by
  have := bounds_i64 h
  unfold I64'; omega
theorem vecq_of {H : Type} {enc : TypeId × Value → H} {w : World} {base : Nat} {spare : Nat → Bool} {held : Bool} {fuel : Nat} {x : DataW H × List MemPlace} {c0 c1 : Value}
    (hf : DataW.trod enc Tryd.prog w base spare held fuel 38 [c0, c1] = some x) : ∃ x y : Int, c0 = .int .i64 x ∧ c1 = .int .i64 y ∧ I64' x ∧ I64' y := by
  have h2 : Tryd.prog.cellsOf 2 = 1 := by kernel_rfl
  obtain ⟨ys, n', _, _, _, hyl, hg⟩ := DataW.trod_struct Tryd.underlying38 hf
  match ys, hyl with
  | [y0, y1], _ =>
    have g0 := hg 0 _ rfl
    have g1 := hg 1 _ rfl
    simp [h2] at g0 g1
    obtain ⟨x0, e0, _, w0⟩ := DataW.trod_int Tryd.underlying2 g0
    obtain ⟨x1, e1, _, w1⟩ := DataW.trod_int Tryd.underlying2 g1
    simp at e0 e1
    exact ⟨x0, x1, e0, e1, i64q_of_wf w0, i64q_of_wf w1⟩

/-- The slice's n elements are the ways (f k, g k). -/
structure Vq (w : World) (B : Nat) (a : Option Addr) (n : Nat) (f g : Nat → Int) : Prop where
  num : ∀ k, k < n → I64' (f k) ∧ I64' (g k)
  rd : 0 < n → ∃ b off, a = some ⟨b, off, none⟩ ∧ b < B ∧ ∀ k, k < n → w.cell? ⟨b, off + k * 2, none⟩ = some (.int .i64 (f k)) ∧ w.cell? ⟨b, off + k * 2 + 1, none⟩ = some (.int .i64 (g k))
theorem Vq.nil (w : World) (B : Nat) (a : Option Addr) (f g : Nat → Int) : Vq w B a 0 f g := ⟨fun k h => absurd h (by omega), fun h => absurd h (by omega)⟩
theorem Vq.below {w w' : World} {B B' n : Nat} {a : Option Addr} {f g : Nat → Int} (h : Vq w B a n f g) (hb : Below B' w w') (hB : B ≤ B') : Vq w' B a n f g := ⟨h.num, fun hn => by
  obtain ⟨b, off, e, hlt, hc⟩ := h.rd hn
  exact ⟨b, off, e, hlt, fun k hk => ⟨(hb.cell (p := ⟨b, off + k * 2, none⟩) (Nat.lt_of_lt_of_le hlt hB)).trans (hc k hk).1, (hb.cell (p := ⟨b, off + k * 2 + 1, none⟩) (Nat.lt_of_lt_of_le hlt hB)).trans (hc k hk).2⟩⟩⟩
theorem Vq.mono {w : World} {B B' n : Nat} {a : Option Addr} {f g : Nat → Int} (h : Vq w B a n f g) (hB : B ≤ B') : Vq w B' a n f g := ⟨h.num, fun hn => by
  obtain ⟨b, off, e, hlt, hc⟩ := h.rd hn
  exact ⟨b, off, e, by omega, hc⟩⟩
set_option maxRecDepth 100000 in
theorem vq_of {H : Type} {enc : TypeId × Value → H} {w : World} {base : Nat} {spare : Nat → Bool} {held : Bool} {fuel : Nat} {x : DataW H × List MemPlace} {v : Value}
    (hf : DataW.trod enc Tryd.prog w base spare held fuel 26 [v] = some x) : ∃ a n c f g, v = .slice a n c ∧ n ≤ c ∧ c ≤ 9223372036854775807 ∧ Vq w w.heap.size a n f g := by
  rcases open_slice Tryd.underlying26 hf with ⟨hcs, _⟩ | ⟨a', l, c, m, n, D, Pl, hcs, _, hl, hm, hmm, _, hi⟩
  · simp at hcs
    exact ⟨none, 0, 0, fun _ => 0, fun _ => 0, hcs, by omega, by omega, Vq.nil _ _ _ _ _⟩
  · simp at hcs
    have hC : Tryd.prog.cellsOf 38 = 2 := by kernel_rfl
    have hall : ∀ k, ∃ p : Int × Int, k < l → I64' p.1 ∧ I64' p.2 ∧ ∃ b off, a' = ⟨b, off, none⟩ ∧ b < w.heap.size ∧ w.cell? ⟨b, off + k * 2, none⟩ = some (.int .i64 p.1) ∧ w.cell? ⟨b, off + k * 2 + 1, none⟩ = some (.int .i64 p.2) := by
      intro k
      by_cases hk : k < l
      · obtain ⟨cs', hc, ht⟩ := hi k (by rw [hmm]; split <;> omega)
        rw [hC] at hc
        obtain ⟨_, hcl, hat⟩ := World.cells?_some hc
        match cs', hcl with
        | [c0, c1], _ =>
          obtain ⟨x0, x1, rfl, rfl, w0, w1⟩ := vecq_of ht
          have k0 := hat 0 (by omega)
          have k1 := hat 1 (by omega)
          obtain ⟨b, off, spot⟩ := a'
          have hs : spot = none := by
            obtain ⟨cs2, hc2, _⟩ := hi 0 (by rw [hmm]; split <;> omega)
            rw [hC] at hc2
            obtain ⟨_, hcl2, hat2⟩ := World.cells?_some hc2
            have h0 := hat2 0 (by omega)
            rw [List.getElem?_eq_getElem (by omega)] at h0
            simpa [Addr.add] using World.cell?_spot h0
          subst hs
          simp only [aq_plus, Nat.add_zero] at k0 k1
          exact ⟨(x0, x1), fun _ => ⟨w0, w1, b, off, rfl, World.block_lt_of_cell? _ _ k0, k0, k1⟩⟩
      · exact ⟨(0, 0), fun h => absurd h hk⟩
    obtain ⟨p, hp⟩ := Classical.skolem.1 hall
    refine ⟨_, l, c, fun k => (p k).1, fun k => (p k).2, hcs, hl, by unfold maxLen at hm; omega, fun k hk => ⟨(hp k hk).1, (hp k hk).2.1⟩, fun hn => ?_⟩
    obtain ⟨_, _, b, off, rfl, hb, _⟩ := hp 0 hn
    refine ⟨b, off, rfl, hb, fun k hk => ?_⟩
    obtain ⟨_, _, b', off', e, _, h1, h2⟩ := hp k hk
    simp only [Addr.mk.injEq] at e
    obtain ⟨rfl, rfl, _⟩ := e
    exact ⟨h1, h2⟩
end Go.Proofs.YtjjodfdmbiebnaaDoor
/- The argument of the statements of layer 6: a ground, tiles, places. -/
namespace Go.Proofs.YtjjodfdmbiebnaaDoor
open Go.ChangeShapes Go.WideShapes Go.ChangeAt Go.RowKit Go.Deep
set_option linter.unusedVariables false
def Asks6 (w : World) (v : Value) : Prop := ∃ (W H : Int) (a : Option Addr) (n c : Nat) (xs : List Int) (ta : Option Addr) (tn tc : Nat) (ts : List Int) (pa : Option Addr) (pn pc : Nat) (f g : Nat → Int),
  v = .agg #[.int .i64 W, .int .i64 H, .slice a n c, .slice ta tn tc, .slice pa pn pc] ∧ I64' W ∧ I64' H ∧ n ≤ 9223372036854775807 ∧ tn ≤ 9223372036854775807 ∧ pn ≤ 9223372036854775807 ∧ By w w.heap.size a n xs ∧ Nq w w.heap.size ta tn ts ∧ Vq w w.heap.size pa pn f g
theorem ground_of {H : Type} {enc : TypeId × Value → H} {w : World} {base : Nat} {spare : Nat → Bool} {held : Bool} {fuel : Nat} {x : DataW H × List MemPlace} {c0 c1 c2 : Value}
    (hf : DataW.trod enc Tryd.prog w base spare held fuel 24 [c0, c1, c2] = some x) : ∃ (W H : Int) (a : Option Addr) (n c : Nat) (xs : List Int), c0 = .int .i64 W ∧ c1 = .int .i64 H ∧ c2 = .slice a n c ∧ I64' W ∧ I64' H ∧ n ≤ 9223372036854775807 ∧ By w w.heap.size a n xs := by
  have h2 : Tryd.prog.cellsOf 3 = 1 := by kernel_rfl
  have h3 : Tryd.prog.cellsOf 22 = 1 := by kernel_rfl
  obtain ⟨ys, n', _, _, _, hyl, hg⟩ := DataW.trod_struct Tryd.underlying24 hf
  match ys, hyl with
  | [y0, y1, y2], _ =>
    have g0 := hg 0 _ rfl
    have g1 := hg 1 _ rfl
    have g2 := hg 2 _ rfl
    simp [h2, h3] at g0 g1 g2
    obtain ⟨x0, e0, _, w0⟩ := DataW.trod_int Tryd.underlying3 g0
    obtain ⟨x1, e1, _, w1⟩ := DataW.trod_int Tryd.underlying3 g1
    obtain ⟨a, n, c, xs, rfl, hn, hc, hby⟩ := by_of g2
    simp at e0 e1
    exact ⟨x0, x1, a, n, c, xs, e0, e1, rfl, i64q_of_wf w0, i64q_of_wf w1, by omega, hby⟩
set_option maxRecDepth 100000 in
theorem asks6_of {H : Type} {enc : TypeId × Value → H} {w : World} {base : Nat} {spare : Nat → Bool} {held : Bool} {fuel : Nat} {x : DataW H × List MemPlace} {cs : Array Value} (hcs : cs.size = Tryd.prog.cellsOf 28)
    (hf : DataW.trod enc Tryd.prog w base spare held fuel 28 cs.toList = some x) : Asks6 w (.agg cs) := by
  have hC : Tryd.prog.cellsOf 28 = 5 := by kernel_rfl
  have h1 : Tryd.prog.cellsOf 24 = 3 := by kernel_rfl
  have h2 : Tryd.prog.cellsOf 25 = 1 := by kernel_rfl
  have h3 : Tryd.prog.cellsOf 26 = 1 := by kernel_rfl
  rw [hC] at hcs
  obtain ⟨l⟩ := cs
  match l, hcs with
  | [c0, c1, c2, c3, c4], _ =>
    obtain ⟨ys, n', _, _, _, hyl, hg⟩ := DataW.trod_struct Tryd.underlying28 hf
    match ys, hyl with
    | [y0, y1, y2], _ =>
      have g0 := hg 0 _ rfl
      have g1 := hg 1 _ rfl
      have g2 := hg 2 _ rfl
      simp [h1, h2, h3] at g0 g1 g2
      obtain ⟨W, H, a, n, c, xs, rfl, rfl, rfl, hW, hH, hn, hby⟩ := ground_of g0
      obtain ⟨ta, tn, tc, ts, rfl, htn, hnq⟩ := nq_of g1
      obtain ⟨pa, pn, pc, f, g, rfl, hpn, hpc, hvq⟩ := vq_of g2
      exact ⟨W, H, a, n, c, xs, ta, tn, tc, ts, pa, pn, pc, f, g, rfl, hW, hH, hn, htn, by omega, hby, hnq, hvq⟩
theorem hsz_of {w X : World} {o : Obj} (h : Below (w.heap.size + 1) (w.alloc o) X) : w.heap.size + 1 ≤ X.heap.size := by simpa using h.size
def heavyB (n tn pn : Nat) : Bool := decide (20000 < n ∨ 60 < tn ∨ 60 < pn)
theorem heavy6_any (W H : Int) (a ta pa : Option Addr) (n c tn tc pn pc : Nat) (w : World) (hn : n ≤ 9223372036854775807) (htn : tn ≤ 9223372036854775807) (hpn : pn ≤ 9223372036854775807) :
    Calls Tryd.prog 13 #[.agg #[.int .i64 W, .int .i64 H, .slice a n c, .slice ta tn tc, .slice pa pn pc]] w fun e w' => e = .returned (.bool (heavyB n tn pn)) ∧ Below w.heap.size w w' := by
  by_cases q1 : 20000 < n
  · have b1 : decide ((20000 : Int) < n) = true := by simp; omega
    have R : Hk (heavyB n tn pn = true) := ⟨by unfold heavyB; simp; omega⟩
    go_enter Tryd.func13, Tryd.ntmps13
    go_wp2
    go_ret
    exact ⟨rbo R.out.symm, (Below.refl _ _).alloc (Nat.le_refl _) _⟩
  have b1 : decide ((20000 : Int) < n) = false := by simp; omega
  by_cases q2 : 60 < tn
  · have b2 : decide ((60 : Int) < tn) = true := by simp; omega
    have R : Hk (heavyB n tn pn = true) := ⟨by unfold heavyB; simp; omega⟩
    go_enter Tryd.func13, Tryd.ntmps13
    go_wp2
    go_ret
    exact ⟨rbo R.out.symm, (Below.refl _ _).alloc (Nat.le_refl _) _⟩
  have b2 : decide ((60 : Int) < tn) = false := by simp; omega
  by_cases q3 : 60 < pn
  · have b3 : decide ((60 : Int) < pn) = true := by simp; omega
    have R : Hk (heavyB n tn pn = true) := ⟨by unfold heavyB; simp; omega⟩
    go_enter Tryd.func13, Tryd.ntmps13
    go_wp2
    go_ret
    exact ⟨rbo R.out.symm, (Below.refl _ _).alloc (Nat.le_refl _) _⟩
  · have b3 : decide ((60 : Int) < pn) = false := by simp; omega
    have R : Hk (heavyB n tn pn = false) := ⟨by unfold heavyB; simp; omega⟩
    go_enter Tryd.func13, Tryd.ntmps13
    go_wp2
    go_ret
    exact ⟨rbo R.out.symm, (Below.refl _ _).alloc (Nat.le_refl _) _⟩
theorem heavy6_as (r : Bool) (W H : Int) (a ta pa : Option Addr) (n c tn tc pn pc : Nat) (w : World) (hn : n ≤ 9223372036854775807) (htn : tn ≤ 9223372036854775807) (hpn : pn ≤ 9223372036854775807) (R : Hk (heavyB n tn pn = r)) :
    Calls Tryd.prog 13 #[.agg #[.int .i64 W, .int .i64 H, .slice a n c, .slice ta tn tc, .slice pa pn pc]] w fun e w' => e = .returned (.bool r) ∧ Below w.heap.size w w' := by
  obtain ⟨rfl⟩ := R; exact heavy6_any W H a ta pa n c tn tc pn pc w hn htn hpn
end Go.Proofs.YtjjodfdmbiebnaaDoor
/- A call that makes memory leaves cells, wherever they lie, as they were: posts of any form. -/
namespace Go.Proofs.YtjjodfdmbiebnaaDoor
open Go.RowKit
set_option linter.unusedVariables false
theorem holdQ1 {P : Program} {F : FuncId} {args : Array Value} {w w0 : World} {Q : Ending → World → Prop} {B b1 o1 : Nat} {x1 : Value} (h : Calls P F args w Q) (hQ : ∀ e w', Q e w' → Below w.heap.size w w')
    (hB : Below B w0 w) (hs : B ≤ w.heap.size) (d1 : w.cell? ⟨b1, o1, none⟩ = some x1) :
    Calls P F args w fun e w' => Q e w' ∧ w'.cell? ⟨b1, o1, none⟩ = some x1 ∧ Below B w0 w' :=
  h.mono fun e w' h1 => ⟨h1, ((hQ e w' h1).cell (p := ⟨b1, o1, none⟩) (World.block_lt_of_cell? _ _ d1)).trans d1, hB.trans ((hQ e w' h1).mono hs)⟩
theorem holdQ2 {P : Program} {F : FuncId} {args : Array Value} {w w0 : World} {Q : Ending → World → Prop} {B b1 o1 b2 o2 : Nat} {x1 x2 : Value} (h : Calls P F args w Q) (hQ : ∀ e w', Q e w' → Below w.heap.size w w')
    (hB : Below B w0 w) (hs : B ≤ w.heap.size) (d1 : w.cell? ⟨b1, o1, none⟩ = some x1) (d2 : w.cell? ⟨b2, o2, none⟩ = some x2) :
    Calls P F args w fun e w' => Q e w' ∧ w'.cell? ⟨b1, o1, none⟩ = some x1 ∧ w'.cell? ⟨b2, o2, none⟩ = some x2 ∧ Below B w0 w' :=
  h.mono fun e w' h1 => ⟨h1, ((hQ e w' h1).cell (p := ⟨b1, o1, none⟩) (World.block_lt_of_cell? _ _ d1)).trans d1, ((hQ e w' h1).cell (p := ⟨b2, o2, none⟩) (World.block_lt_of_cell? _ _ d2)).trans d2, hB.trans ((hQ e w' h1).mono hs)⟩
theorem holdQ3 {P : Program} {F : FuncId} {args : Array Value} {w w0 : World} {Q : Ending → World → Prop} {B b1 o1 b2 o2 b3 o3 : Nat} {x1 x2 x3 : Value} (h : Calls P F args w Q) (hQ : ∀ e w', Q e w' → Below w.heap.size w w')
    (hB : Below B w0 w) (hs : B ≤ w.heap.size) (d1 : w.cell? ⟨b1, o1, none⟩ = some x1) (d2 : w.cell? ⟨b2, o2, none⟩ = some x2) (d3 : w.cell? ⟨b3, o3, none⟩ = some x3) :
    Calls P F args w fun e w' => Q e w' ∧ w'.cell? ⟨b1, o1, none⟩ = some x1 ∧ w'.cell? ⟨b2, o2, none⟩ = some x2 ∧ w'.cell? ⟨b3, o3, none⟩ = some x3 ∧ Below B w0 w' :=
  h.mono fun e w' h1 => ⟨h1, ((hQ e w' h1).cell (p := ⟨b1, o1, none⟩) (World.block_lt_of_cell? _ _ d1)).trans d1, ((hQ e w' h1).cell (p := ⟨b2, o2, none⟩) (World.block_lt_of_cell? _ _ d2)).trans d2, ((hQ e w' h1).cell (p := ⟨b3, o3, none⟩) (World.block_lt_of_cell? _ _ d3)).trans d3, hB.trans ((hQ e w' h1).mono hs)⟩
theorem holdQ4 {P : Program} {F : FuncId} {args : Array Value} {w w0 : World} {Q : Ending → World → Prop} {B b1 o1 b2 o2 b3 o3 b4 o4 : Nat} {x1 x2 x3 x4 : Value} (h : Calls P F args w Q) (hQ : ∀ e w', Q e w' → Below w.heap.size w w')
    (hB : Below B w0 w) (hs : B ≤ w.heap.size) (d1 : w.cell? ⟨b1, o1, none⟩ = some x1) (d2 : w.cell? ⟨b2, o2, none⟩ = some x2) (d3 : w.cell? ⟨b3, o3, none⟩ = some x3) (d4 : w.cell? ⟨b4, o4, none⟩ = some x4) :
    Calls P F args w fun e w' => Q e w' ∧ w'.cell? ⟨b1, o1, none⟩ = some x1 ∧ w'.cell? ⟨b2, o2, none⟩ = some x2 ∧ w'.cell? ⟨b3, o3, none⟩ = some x3 ∧ w'.cell? ⟨b4, o4, none⟩ = some x4 ∧ Below B w0 w' :=
  h.mono fun e w' h1 => ⟨h1, ((hQ e w' h1).cell (p := ⟨b1, o1, none⟩) (World.block_lt_of_cell? _ _ d1)).trans d1, ((hQ e w' h1).cell (p := ⟨b2, o2, none⟩) (World.block_lt_of_cell? _ _ d2)).trans d2, ((hQ e w' h1).cell (p := ⟨b3, o3, none⟩) (World.block_lt_of_cell? _ _ d3)).trans d3, ((hQ e w' h1).cell (p := ⟨b4, o4, none⟩) (World.block_lt_of_cell? _ _ d4)).trans d4, hB.trans ((hQ e w' h1).mono hs)⟩
theorem holdQ5 {P : Program} {F : FuncId} {args : Array Value} {w w0 : World} {Q : Ending → World → Prop} {B b1 o1 b2 o2 b3 o3 b4 o4 b5 o5 : Nat} {x1 x2 x3 x4 x5 : Value} (h : Calls P F args w Q) (hQ : ∀ e w', Q e w' → Below w.heap.size w w')
    (hB : Below B w0 w) (hs : B ≤ w.heap.size) (d1 : w.cell? ⟨b1, o1, none⟩ = some x1) (d2 : w.cell? ⟨b2, o2, none⟩ = some x2) (d3 : w.cell? ⟨b3, o3, none⟩ = some x3) (d4 : w.cell? ⟨b4, o4, none⟩ = some x4) (d5 : w.cell? ⟨b5, o5, none⟩ = some x5) :
    Calls P F args w fun e w' => Q e w' ∧ w'.cell? ⟨b1, o1, none⟩ = some x1 ∧ w'.cell? ⟨b2, o2, none⟩ = some x2 ∧ w'.cell? ⟨b3, o3, none⟩ = some x3 ∧ w'.cell? ⟨b4, o4, none⟩ = some x4 ∧ w'.cell? ⟨b5, o5, none⟩ = some x5 ∧ Below B w0 w' :=
  h.mono fun e w' h1 => ⟨h1, ((hQ e w' h1).cell (p := ⟨b1, o1, none⟩) (World.block_lt_of_cell? _ _ d1)).trans d1, ((hQ e w' h1).cell (p := ⟨b2, o2, none⟩) (World.block_lt_of_cell? _ _ d2)).trans d2, ((hQ e w' h1).cell (p := ⟨b3, o3, none⟩) (World.block_lt_of_cell? _ _ d3)).trans d3, ((hQ e w' h1).cell (p := ⟨b4, o4, none⟩) (World.block_lt_of_cell? _ _ d4)).trans d4, ((hQ e w' h1).cell (p := ⟨b5, o5, none⟩) (World.block_lt_of_cell? _ _ d5)).trans d5, hB.trans ((hQ e w' h1).mono hs)⟩
theorem holdQ6 {P : Program} {F : FuncId} {args : Array Value} {w w0 : World} {Q : Ending → World → Prop} {B b1 o1 b2 o2 b3 o3 b4 o4 b5 o5 b6 o6 : Nat} {x1 x2 x3 x4 x5 x6 : Value} (h : Calls P F args w Q) (hQ : ∀ e w', Q e w' → Below w.heap.size w w')
    (hB : Below B w0 w) (hs : B ≤ w.heap.size) (d1 : w.cell? ⟨b1, o1, none⟩ = some x1) (d2 : w.cell? ⟨b2, o2, none⟩ = some x2) (d3 : w.cell? ⟨b3, o3, none⟩ = some x3) (d4 : w.cell? ⟨b4, o4, none⟩ = some x4) (d5 : w.cell? ⟨b5, o5, none⟩ = some x5) (d6 : w.cell? ⟨b6, o6, none⟩ = some x6) :
    Calls P F args w fun e w' => Q e w' ∧ w'.cell? ⟨b1, o1, none⟩ = some x1 ∧ w'.cell? ⟨b2, o2, none⟩ = some x2 ∧ w'.cell? ⟨b3, o3, none⟩ = some x3 ∧ w'.cell? ⟨b4, o4, none⟩ = some x4 ∧ w'.cell? ⟨b5, o5, none⟩ = some x5 ∧ w'.cell? ⟨b6, o6, none⟩ = some x6 ∧ Below B w0 w' :=
  h.mono fun e w' h1 => ⟨h1, ((hQ e w' h1).cell (p := ⟨b1, o1, none⟩) (World.block_lt_of_cell? _ _ d1)).trans d1, ((hQ e w' h1).cell (p := ⟨b2, o2, none⟩) (World.block_lt_of_cell? _ _ d2)).trans d2, ((hQ e w' h1).cell (p := ⟨b3, o3, none⟩) (World.block_lt_of_cell? _ _ d3)).trans d3, ((hQ e w' h1).cell (p := ⟨b4, o4, none⟩) (World.block_lt_of_cell? _ _ d4)).trans d4, ((hQ e w' h1).cell (p := ⟨b5, o5, none⟩) (World.block_lt_of_cell? _ _ d5)).trans d5, ((hQ e w' h1).cell (p := ⟨b6, o6, none⟩) (World.block_lt_of_cell? _ _ d6)).trans d6, hB.trans ((hQ e w' h1).mono hs)⟩
theorem holdQ7 {P : Program} {F : FuncId} {args : Array Value} {w w0 : World} {Q : Ending → World → Prop} {B b1 o1 b2 o2 b3 o3 b4 o4 b5 o5 b6 o6 b7 o7 : Nat} {x1 x2 x3 x4 x5 x6 x7 : Value} (h : Calls P F args w Q) (hQ : ∀ e w', Q e w' → Below w.heap.size w w')
    (hB : Below B w0 w) (hs : B ≤ w.heap.size) (d1 : w.cell? ⟨b1, o1, none⟩ = some x1) (d2 : w.cell? ⟨b2, o2, none⟩ = some x2) (d3 : w.cell? ⟨b3, o3, none⟩ = some x3) (d4 : w.cell? ⟨b4, o4, none⟩ = some x4) (d5 : w.cell? ⟨b5, o5, none⟩ = some x5) (d6 : w.cell? ⟨b6, o6, none⟩ = some x6) (d7 : w.cell? ⟨b7, o7, none⟩ = some x7) :
    Calls P F args w fun e w' => Q e w' ∧ w'.cell? ⟨b1, o1, none⟩ = some x1 ∧ w'.cell? ⟨b2, o2, none⟩ = some x2 ∧ w'.cell? ⟨b3, o3, none⟩ = some x3 ∧ w'.cell? ⟨b4, o4, none⟩ = some x4 ∧ w'.cell? ⟨b5, o5, none⟩ = some x5 ∧ w'.cell? ⟨b6, o6, none⟩ = some x6 ∧ w'.cell? ⟨b7, o7, none⟩ = some x7 ∧ Below B w0 w' :=
  h.mono fun e w' h1 => ⟨h1, ((hQ e w' h1).cell (p := ⟨b1, o1, none⟩) (World.block_lt_of_cell? _ _ d1)).trans d1, ((hQ e w' h1).cell (p := ⟨b2, o2, none⟩) (World.block_lt_of_cell? _ _ d2)).trans d2, ((hQ e w' h1).cell (p := ⟨b3, o3, none⟩) (World.block_lt_of_cell? _ _ d3)).trans d3, ((hQ e w' h1).cell (p := ⟨b4, o4, none⟩) (World.block_lt_of_cell? _ _ d4)).trans d4, ((hQ e w' h1).cell (p := ⟨b5, o5, none⟩) (World.block_lt_of_cell? _ _ d5)).trans d5, ((hQ e w' h1).cell (p := ⟨b6, o6, none⟩) (World.block_lt_of_cell? _ _ d6)).trans d6, ((hQ e w' h1).cell (p := ⟨b7, o7, none⟩) (World.block_lt_of_cell? _ _ d7)).trans d7, hB.trans ((hQ e w' h1).mono hs)⟩
theorem holdQ8 {P : Program} {F : FuncId} {args : Array Value} {w w0 : World} {Q : Ending → World → Prop} {B b1 o1 b2 o2 b3 o3 b4 o4 b5 o5 b6 o6 b7 o7 b8 o8 : Nat} {x1 x2 x3 x4 x5 x6 x7 x8 : Value} (h : Calls P F args w Q) (hQ : ∀ e w', Q e w' → Below w.heap.size w w')
    (hB : Below B w0 w) (hs : B ≤ w.heap.size) (d1 : w.cell? ⟨b1, o1, none⟩ = some x1) (d2 : w.cell? ⟨b2, o2, none⟩ = some x2) (d3 : w.cell? ⟨b3, o3, none⟩ = some x3) (d4 : w.cell? ⟨b4, o4, none⟩ = some x4) (d5 : w.cell? ⟨b5, o5, none⟩ = some x5) (d6 : w.cell? ⟨b6, o6, none⟩ = some x6) (d7 : w.cell? ⟨b7, o7, none⟩ = some x7) (d8 : w.cell? ⟨b8, o8, none⟩ = some x8) :
    Calls P F args w fun e w' => Q e w' ∧ w'.cell? ⟨b1, o1, none⟩ = some x1 ∧ w'.cell? ⟨b2, o2, none⟩ = some x2 ∧ w'.cell? ⟨b3, o3, none⟩ = some x3 ∧ w'.cell? ⟨b4, o4, none⟩ = some x4 ∧ w'.cell? ⟨b5, o5, none⟩ = some x5 ∧ w'.cell? ⟨b6, o6, none⟩ = some x6 ∧ w'.cell? ⟨b7, o7, none⟩ = some x7 ∧ w'.cell? ⟨b8, o8, none⟩ = some x8 ∧ Below B w0 w' :=
  h.mono fun e w' h1 => ⟨h1, ((hQ e w' h1).cell (p := ⟨b1, o1, none⟩) (World.block_lt_of_cell? _ _ d1)).trans d1, ((hQ e w' h1).cell (p := ⟨b2, o2, none⟩) (World.block_lt_of_cell? _ _ d2)).trans d2, ((hQ e w' h1).cell (p := ⟨b3, o3, none⟩) (World.block_lt_of_cell? _ _ d3)).trans d3, ((hQ e w' h1).cell (p := ⟨b4, o4, none⟩) (World.block_lt_of_cell? _ _ d4)).trans d4, ((hQ e w' h1).cell (p := ⟨b5, o5, none⟩) (World.block_lt_of_cell? _ _ d5)).trans d5, ((hQ e w' h1).cell (p := ⟨b6, o6, none⟩) (World.block_lt_of_cell? _ _ d6)).trans d6, ((hQ e w' h1).cell (p := ⟨b7, o7, none⟩) (World.block_lt_of_cell? _ _ d7)).trans d7, ((hQ e w' h1).cell (p := ⟨b8, o8, none⟩) (World.block_lt_of_cell? _ _ d8)).trans d8, hB.trans ((hQ e w' h1).mono hs)⟩
theorem holdQ9 {P : Program} {F : FuncId} {args : Array Value} {w w0 : World} {Q : Ending → World → Prop} {B b1 o1 b2 o2 b3 o3 b4 o4 b5 o5 b6 o6 b7 o7 b8 o8 b9 o9 : Nat} {x1 x2 x3 x4 x5 x6 x7 x8 x9 : Value} (h : Calls P F args w Q) (hQ : ∀ e w', Q e w' → Below w.heap.size w w')
    (hB : Below B w0 w) (hs : B ≤ w.heap.size) (d1 : w.cell? ⟨b1, o1, none⟩ = some x1) (d2 : w.cell? ⟨b2, o2, none⟩ = some x2) (d3 : w.cell? ⟨b3, o3, none⟩ = some x3) (d4 : w.cell? ⟨b4, o4, none⟩ = some x4) (d5 : w.cell? ⟨b5, o5, none⟩ = some x5) (d6 : w.cell? ⟨b6, o6, none⟩ = some x6) (d7 : w.cell? ⟨b7, o7, none⟩ = some x7) (d8 : w.cell? ⟨b8, o8, none⟩ = some x8) (d9 : w.cell? ⟨b9, o9, none⟩ = some x9) :
    Calls P F args w fun e w' => Q e w' ∧ w'.cell? ⟨b1, o1, none⟩ = some x1 ∧ w'.cell? ⟨b2, o2, none⟩ = some x2 ∧ w'.cell? ⟨b3, o3, none⟩ = some x3 ∧ w'.cell? ⟨b4, o4, none⟩ = some x4 ∧ w'.cell? ⟨b5, o5, none⟩ = some x5 ∧ w'.cell? ⟨b6, o6, none⟩ = some x6 ∧ w'.cell? ⟨b7, o7, none⟩ = some x7 ∧ w'.cell? ⟨b8, o8, none⟩ = some x8 ∧ w'.cell? ⟨b9, o9, none⟩ = some x9 ∧ Below B w0 w' :=
  h.mono fun e w' h1 => ⟨h1, ((hQ e w' h1).cell (p := ⟨b1, o1, none⟩) (World.block_lt_of_cell? _ _ d1)).trans d1, ((hQ e w' h1).cell (p := ⟨b2, o2, none⟩) (World.block_lt_of_cell? _ _ d2)).trans d2, ((hQ e w' h1).cell (p := ⟨b3, o3, none⟩) (World.block_lt_of_cell? _ _ d3)).trans d3, ((hQ e w' h1).cell (p := ⟨b4, o4, none⟩) (World.block_lt_of_cell? _ _ d4)).trans d4, ((hQ e w' h1).cell (p := ⟨b5, o5, none⟩) (World.block_lt_of_cell? _ _ d5)).trans d5, ((hQ e w' h1).cell (p := ⟨b6, o6, none⟩) (World.block_lt_of_cell? _ _ d6)).trans d6, ((hQ e w' h1).cell (p := ⟨b7, o7, none⟩) (World.block_lt_of_cell? _ _ d7)).trans d7, ((hQ e w' h1).cell (p := ⟨b8, o8, none⟩) (World.block_lt_of_cell? _ _ d8)).trans d8, ((hQ e w' h1).cell (p := ⟨b9, o9, none⟩) (World.block_lt_of_cell? _ _ d9)).trans d9, hB.trans ((hQ e w' h1).mono hs)⟩
theorem holdQ10 {P : Program} {F : FuncId} {args : Array Value} {w w0 : World} {Q : Ending → World → Prop} {B b1 o1 b2 o2 b3 o3 b4 o4 b5 o5 b6 o6 b7 o7 b8 o8 b9 o9 b10 o10 : Nat} {x1 x2 x3 x4 x5 x6 x7 x8 x9 x10 : Value} (h : Calls P F args w Q) (hQ : ∀ e w', Q e w' → Below w.heap.size w w')
    (hB : Below B w0 w) (hs : B ≤ w.heap.size) (d1 : w.cell? ⟨b1, o1, none⟩ = some x1) (d2 : w.cell? ⟨b2, o2, none⟩ = some x2) (d3 : w.cell? ⟨b3, o3, none⟩ = some x3) (d4 : w.cell? ⟨b4, o4, none⟩ = some x4) (d5 : w.cell? ⟨b5, o5, none⟩ = some x5) (d6 : w.cell? ⟨b6, o6, none⟩ = some x6) (d7 : w.cell? ⟨b7, o7, none⟩ = some x7) (d8 : w.cell? ⟨b8, o8, none⟩ = some x8) (d9 : w.cell? ⟨b9, o9, none⟩ = some x9) (d10 : w.cell? ⟨b10, o10, none⟩ = some x10) :
    Calls P F args w fun e w' => Q e w' ∧ w'.cell? ⟨b1, o1, none⟩ = some x1 ∧ w'.cell? ⟨b2, o2, none⟩ = some x2 ∧ w'.cell? ⟨b3, o3, none⟩ = some x3 ∧ w'.cell? ⟨b4, o4, none⟩ = some x4 ∧ w'.cell? ⟨b5, o5, none⟩ = some x5 ∧ w'.cell? ⟨b6, o6, none⟩ = some x6 ∧ w'.cell? ⟨b7, o7, none⟩ = some x7 ∧ w'.cell? ⟨b8, o8, none⟩ = some x8 ∧ w'.cell? ⟨b9, o9, none⟩ = some x9 ∧ w'.cell? ⟨b10, o10, none⟩ = some x10 ∧ Below B w0 w' :=
  h.mono fun e w' h1 => ⟨h1, ((hQ e w' h1).cell (p := ⟨b1, o1, none⟩) (World.block_lt_of_cell? _ _ d1)).trans d1, ((hQ e w' h1).cell (p := ⟨b2, o2, none⟩) (World.block_lt_of_cell? _ _ d2)).trans d2, ((hQ e w' h1).cell (p := ⟨b3, o3, none⟩) (World.block_lt_of_cell? _ _ d3)).trans d3, ((hQ e w' h1).cell (p := ⟨b4, o4, none⟩) (World.block_lt_of_cell? _ _ d4)).trans d4, ((hQ e w' h1).cell (p := ⟨b5, o5, none⟩) (World.block_lt_of_cell? _ _ d5)).trans d5, ((hQ e w' h1).cell (p := ⟨b6, o6, none⟩) (World.block_lt_of_cell? _ _ d6)).trans d6, ((hQ e w' h1).cell (p := ⟨b7, o7, none⟩) (World.block_lt_of_cell? _ _ d7)).trans d7, ((hQ e w' h1).cell (p := ⟨b8, o8, none⟩) (World.block_lt_of_cell? _ _ d8)).trans d8, ((hQ e w' h1).cell (p := ⟨b9, o9, none⟩) (World.block_lt_of_cell? _ _ d9)).trans d9, ((hQ e w' h1).cell (p := ⟨b10, o10, none⟩) (World.block_lt_of_cell? _ _ d10)).trans d10, hB.trans ((hQ e w' h1).mono hs)⟩
theorem holdQ11 {P : Program} {F : FuncId} {args : Array Value} {w w0 : World} {Q : Ending → World → Prop} {B b1 o1 b2 o2 b3 o3 b4 o4 b5 o5 b6 o6 b7 o7 b8 o8 b9 o9 b10 o10 b11 o11 : Nat} {x1 x2 x3 x4 x5 x6 x7 x8 x9 x10 x11 : Value} (h : Calls P F args w Q) (hQ : ∀ e w', Q e w' → Below w.heap.size w w')
    (hB : Below B w0 w) (hs : B ≤ w.heap.size) (d1 : w.cell? ⟨b1, o1, none⟩ = some x1) (d2 : w.cell? ⟨b2, o2, none⟩ = some x2) (d3 : w.cell? ⟨b3, o3, none⟩ = some x3) (d4 : w.cell? ⟨b4, o4, none⟩ = some x4) (d5 : w.cell? ⟨b5, o5, none⟩ = some x5) (d6 : w.cell? ⟨b6, o6, none⟩ = some x6) (d7 : w.cell? ⟨b7, o7, none⟩ = some x7) (d8 : w.cell? ⟨b8, o8, none⟩ = some x8) (d9 : w.cell? ⟨b9, o9, none⟩ = some x9) (d10 : w.cell? ⟨b10, o10, none⟩ = some x10) (d11 : w.cell? ⟨b11, o11, none⟩ = some x11) :
    Calls P F args w fun e w' => Q e w' ∧ w'.cell? ⟨b1, o1, none⟩ = some x1 ∧ w'.cell? ⟨b2, o2, none⟩ = some x2 ∧ w'.cell? ⟨b3, o3, none⟩ = some x3 ∧ w'.cell? ⟨b4, o4, none⟩ = some x4 ∧ w'.cell? ⟨b5, o5, none⟩ = some x5 ∧ w'.cell? ⟨b6, o6, none⟩ = some x6 ∧ w'.cell? ⟨b7, o7, none⟩ = some x7 ∧ w'.cell? ⟨b8, o8, none⟩ = some x8 ∧ w'.cell? ⟨b9, o9, none⟩ = some x9 ∧ w'.cell? ⟨b10, o10, none⟩ = some x10 ∧ w'.cell? ⟨b11, o11, none⟩ = some x11 ∧ Below B w0 w' :=
  h.mono fun e w' h1 => ⟨h1, ((hQ e w' h1).cell (p := ⟨b1, o1, none⟩) (World.block_lt_of_cell? _ _ d1)).trans d1, ((hQ e w' h1).cell (p := ⟨b2, o2, none⟩) (World.block_lt_of_cell? _ _ d2)).trans d2, ((hQ e w' h1).cell (p := ⟨b3, o3, none⟩) (World.block_lt_of_cell? _ _ d3)).trans d3, ((hQ e w' h1).cell (p := ⟨b4, o4, none⟩) (World.block_lt_of_cell? _ _ d4)).trans d4, ((hQ e w' h1).cell (p := ⟨b5, o5, none⟩) (World.block_lt_of_cell? _ _ d5)).trans d5, ((hQ e w' h1).cell (p := ⟨b6, o6, none⟩) (World.block_lt_of_cell? _ _ d6)).trans d6, ((hQ e w' h1).cell (p := ⟨b7, o7, none⟩) (World.block_lt_of_cell? _ _ d7)).trans d7, ((hQ e w' h1).cell (p := ⟨b8, o8, none⟩) (World.block_lt_of_cell? _ _ d8)).trans d8, ((hQ e w' h1).cell (p := ⟨b9, o9, none⟩) (World.block_lt_of_cell? _ _ d9)).trans d9, ((hQ e w' h1).cell (p := ⟨b10, o10, none⟩) (World.block_lt_of_cell? _ _ d10)).trans d10, ((hQ e w' h1).cell (p := ⟨b11, o11, none⟩) (World.block_lt_of_cell? _ _ d11)).trans d11, hB.trans ((hQ e w' h1).mono hs)⟩
theorem holdQ12 {P : Program} {F : FuncId} {args : Array Value} {w w0 : World} {Q : Ending → World → Prop} {B b1 o1 b2 o2 b3 o3 b4 o4 b5 o5 b6 o6 b7 o7 b8 o8 b9 o9 b10 o10 b11 o11 b12 o12 : Nat} {x1 x2 x3 x4 x5 x6 x7 x8 x9 x10 x11 x12 : Value} (h : Calls P F args w Q) (hQ : ∀ e w', Q e w' → Below w.heap.size w w')
    (hB : Below B w0 w) (hs : B ≤ w.heap.size) (d1 : w.cell? ⟨b1, o1, none⟩ = some x1) (d2 : w.cell? ⟨b2, o2, none⟩ = some x2) (d3 : w.cell? ⟨b3, o3, none⟩ = some x3) (d4 : w.cell? ⟨b4, o4, none⟩ = some x4) (d5 : w.cell? ⟨b5, o5, none⟩ = some x5) (d6 : w.cell? ⟨b6, o6, none⟩ = some x6) (d7 : w.cell? ⟨b7, o7, none⟩ = some x7) (d8 : w.cell? ⟨b8, o8, none⟩ = some x8) (d9 : w.cell? ⟨b9, o9, none⟩ = some x9) (d10 : w.cell? ⟨b10, o10, none⟩ = some x10) (d11 : w.cell? ⟨b11, o11, none⟩ = some x11) (d12 : w.cell? ⟨b12, o12, none⟩ = some x12) :
    Calls P F args w fun e w' => Q e w' ∧ w'.cell? ⟨b1, o1, none⟩ = some x1 ∧ w'.cell? ⟨b2, o2, none⟩ = some x2 ∧ w'.cell? ⟨b3, o3, none⟩ = some x3 ∧ w'.cell? ⟨b4, o4, none⟩ = some x4 ∧ w'.cell? ⟨b5, o5, none⟩ = some x5 ∧ w'.cell? ⟨b6, o6, none⟩ = some x6 ∧ w'.cell? ⟨b7, o7, none⟩ = some x7 ∧ w'.cell? ⟨b8, o8, none⟩ = some x8 ∧ w'.cell? ⟨b9, o9, none⟩ = some x9 ∧ w'.cell? ⟨b10, o10, none⟩ = some x10 ∧ w'.cell? ⟨b11, o11, none⟩ = some x11 ∧ w'.cell? ⟨b12, o12, none⟩ = some x12 ∧ Below B w0 w' :=
  h.mono fun e w' h1 => ⟨h1, ((hQ e w' h1).cell (p := ⟨b1, o1, none⟩) (World.block_lt_of_cell? _ _ d1)).trans d1, ((hQ e w' h1).cell (p := ⟨b2, o2, none⟩) (World.block_lt_of_cell? _ _ d2)).trans d2, ((hQ e w' h1).cell (p := ⟨b3, o3, none⟩) (World.block_lt_of_cell? _ _ d3)).trans d3, ((hQ e w' h1).cell (p := ⟨b4, o4, none⟩) (World.block_lt_of_cell? _ _ d4)).trans d4, ((hQ e w' h1).cell (p := ⟨b5, o5, none⟩) (World.block_lt_of_cell? _ _ d5)).trans d5, ((hQ e w' h1).cell (p := ⟨b6, o6, none⟩) (World.block_lt_of_cell? _ _ d6)).trans d6, ((hQ e w' h1).cell (p := ⟨b7, o7, none⟩) (World.block_lt_of_cell? _ _ d7)).trans d7, ((hQ e w' h1).cell (p := ⟨b8, o8, none⟩) (World.block_lt_of_cell? _ _ d8)).trans d8, ((hQ e w' h1).cell (p := ⟨b9, o9, none⟩) (World.block_lt_of_cell? _ _ d9)).trans d9, ((hQ e w' h1).cell (p := ⟨b10, o10, none⟩) (World.block_lt_of_cell? _ _ d10)).trans d10, ((hQ e w' h1).cell (p := ⟨b11, o11, none⟩) (World.block_lt_of_cell? _ _ d11)).trans d11, ((hQ e w' h1).cell (p := ⟨b12, o12, none⟩) (World.block_lt_of_cell? _ _ d12)).trans d12, hB.trans ((hQ e w' h1).mono hs)⟩
end Go.Proofs.YtjjodfdmbiebnaaDoor
/- Layer 6: the lists of neighbours, as the statements call for them. -/
namespace Go.Proofs.YtjjodfdmbiebnaaDoor
open Go.RowKit
set_option linter.unusedVariables false
/-- The reference's list of neighbours. -/
def RNearR (w : World) (xs : List Int) (e : Ending) (w' : World) : Prop := ∃ g c, e = .returned (.slice (some ⟨g, 0, none⟩) 8 c) ∧ Nq w' w'.heap.size (some ⟨g, 0, none⟩) 8 xs ∧ Below w.heap.size w w'
theorem rnear_q (W H t : Int) (s : Value) (w : World) (w1 : 1 ≤ W) (w2 : W ≤ 128) (h1 : 1 ≤ H) (h2 : H ≤ 128) (t0 : 0 ≤ t) (t1 : t ≤ 16384) :
    Calls Tryd.prog 36 #[.agg #[.int .i64 W, .int .i64 H, s], .int .i64 t] w (RNearR w (nbL W H t)) :=
  (rnear_any W H t s w w1 w2 h1 h2 t0 t1).mono fun e w' ⟨v, he, ho, hb⟩ => by
    have ho' := ho
    rcases ho.2 with ⟨rfl, h0⟩ | ⟨g, cap, cur, rfl, hg, hh, hc, hm, hs, ht⟩
    · omega
    · refine ⟨g, cap, he, ⟨rfl, fun _ => ⟨g, 0, rfl, lt_of_block hh, fun k hk => ?_⟩⟩, hb⟩
      have := ho'.cellAt k (by omega)
      rw [Nat.zero_add, this]
      have hl : (nbL W H t).length = 8 := rfl
      simp [List.getElem?_map, List.getD, List.getElem?_eq_getElem (show k < (nbL W H t).length by omega)]
theorem nq_drew {w : World} {B n : Nat} {a : Option Addr} {xs : List Int} (h : Nq w B a n xs) : Nq w.drew B a n xs := ⟨h.len, h.rd⟩
theorem rnearR_below {w w' : World} {xs : List Int} {e : Ending} (h : RNearR w xs e w') : Below w.heap.size w w' := by
  obtain ⟨_, _, _, _, h⟩ := h; exact h
theorem nearR_below {w w' : World} {xs : List Int} {e : Ending} (h : NearR w xs e w') : Below w.heap.size w w' := by
  obtain ⟨_, _, _, _, _, _, _, h⟩ := h; exact h
theorem near_a8 {w' wb : World} {xs : List Int} {g base m : Nat} (h : ∀ j, j < 8 → w'.cell? ⟨g, j, none⟩ = some (.int .i64 (xs.getD j 0))) (hf : ∀ j, w'.frozen? ⟨g, j, none⟩ = false) (hg : g < w'.heap.size) (hb : base ≤ g) (hB : Below base wb w') : A8 base g wb (w'.drewN m) (fun j => xs.getD j 0) :=
  ⟨h, hf, hg, hb, below_drewN hB m⟩
end Go.Proofs.YtjjodfdmbiebnaaDoor
/- Layer 6: whether a number is in a list (the reference's In), for GroundBack. -/
namespace Go.Proofs.YtjjodfdmbiebnaaDoor
open Go.RowKit
set_option linter.unusedVariables false
theorem dropg {xs : List Int} {k : Nat} (h : k < xs.length) : xs.drop k = xs.getD k 0 :: xs.drop (k + 1) := by
  rw [List.drop_eq_getElem_cons h]; simp [List.getD, List.getElem?_eq_getElem h]
set_option maxRecDepth 100000 in
theorem in_as (r : Bool) (N : Int) (a : Option Addr) (n c : Nat) (xs : List Int) (w : World) (h : Nq w w.heap.size a n xs) (hn : n ≤ 1099511627776) (E : Hk (decide (N ∈ xs) = r)) :
    Calls Tryd.prog 21 #[.slice a n c, .int .i64 N] w fun e w' => (∃ v : Int, e = .returned (.int .i64 v) ∧ decide (v < 0) = (!r) ∧ decide (0 ≤ v) = r) ∧ w = w' := by
  have H := Hk.mk h
  clear h
  go_enter Tryd.func21, Tryd.ntmps21
  go_wp2
  go_loop [5] (fun i => ∃ (k : Nat), i = .int .i64 k ∧ k ≤ n ∧ Hk (decide (N ∈ xs.drop k) = r)) (fun i => n - (intOf i).toNat)
  case atStart => exact ⟨0, rfl, Nat.zero_le _, ⟨by simpa using E.out⟩⟩
  case round =>
    obtain ⟨k, rfl, hk, HR⟩ := hrel
    by_cases hlt : k < n
    · obtain ⟨b, off, rfl, hbl, hc⟩ := H.out.rd (by omega)
      have hcx := hc k hlt
      clear hc
      have hr := HR.out
      rw [dropg (by rw [H.out.len]; exact hlt)] at hr
      generalize xs.getD k 0 = y at *
      have i1 : (0 : Int) ≤ (k : Int) := by omega
      have i2 : (k : Int) < (n : Int) := by omega
      by_cases q1 : y = N
      · have R : Hk (true = r) := ⟨by rw [← hr]; simp [q1]⟩
        clear hr
        subst q1
        go_wp2
        go_ret
        exact ⟨⟨_, rfl, by rw [← R.out]; simp, by rw [← R.out]; simp⟩, rfl⟩
      · have b1 : (y == N) = false := by simp [q1]
        have R : Hk (decide (N ∈ xs.drop (k + 1)) = r) := ⟨by rw [← hr]; simp [Ne.symm q1]⟩
        clear hr
        go_wp2
        go_round
        case rel => exact ⟨k + 1, by go_num, by omega, R⟩
        case measure => simp [intOf]; omega
    · have hkn : k = n := by omega
      subst hkn
      have R : Hk (false = r) := ⟨by have := HR.out; rw [List.drop_of_length_le (by rw [H.out.len]; omega)] at this; simpa using this⟩
      go_wp2
      go_ret
      exact ⟨⟨_, rfl, by rw [← R.out]; rfl, by rw [← R.out]; rfl⟩, rfl⟩
end Go.Proofs.YtjjodfdmbiebnaaDoor
