import Derived.BigGuardPart
import Derived.Deep.QuietTactic
import Derived.BigQuiet
import Derived.Deep.RegionWith
import Derived.Deep.RegionHeld3
import Derived.Deep.DeepCutAuto
import Derived.Deep.DeepFit
import Derived.Outline
import Derived.Test.YtmphmpfeeiipgaaZtm
import Derived.Test.YtmphmpfeeiipgaaZtj
import Derived.Test.YtmphmpfeeiipgaaZte
import Derived.Test.YtmphmpfeeiipgaaZtf
import Derived.Test.YtmphmpfeeiipgaaZth
/- Layer 9: what the statements call, and their argument. -/
namespace Go.Proofs.Ytmphmpfeeiipgaa
open Go.ChangeShapes Go.WideShapes Go.ChangeAt Go.RowKit Go.Deep
set_option linter.unusedVariables false
set_option linter.unusedSimpArgs false
/-- Is it more than is played? -/
def gtP (n ln : Nat) : Bool := decide (700 < n ∨ 30 < ln)
theorem byt_zeros9 : ∀ b ∈ ([0, 0, 0, 0, 0, 0, 0, 0, 0] : List Int), Fn.Byt b := by
  intro b hb
  simp at hb
  subst hb
  unfold Fn.Byt; omega
theorem sC_330 : (List.range 9).map (fun k => ((sC 3 3 (opn 3 [0, 0, 0, 0, 0, 0, 0, 0, 0] [] 0) k : Nat) : Int)) = [1, 1, 1, 1, 2, 1, 1, 1, 1] := by decide
theorem arr_w {w w' : World} {g n : Nat} {T : TypeId} {f : Nat → Value} (h : Arr w g n T f) (hb : Below w.heap.size w w') : Arr w' g n T f := h.later hb
/-- The argument: a ground, buildings, a class. -/
def Asks9 (w : World) (v : Value) : Prop := ∃ (W H : Int) (a : Option Addr) (n c : Nat) (xs : List Int) (la : Option Addr) (ln lc : Nat) (bs : List Bd) (x : Int),
  v = .agg #[.int .i64 W, .int .i64 H, .slice a n c, .slice la ln lc, .int .i64 x] ∧ I64' W ∧ I64' H ∧ I64' x ∧ n ≤ 9223372036854775807 ∧ ln ≤ lc ∧ lc ≤ 9223372036854775807 ∧ By w w.heap.size a n xs ∧ Bq w w.heap.size la ln bs ∧ (∀ k, k < ln → ∀ i, I64' ((bs.getD k default).c i))
end Go.Proofs.Ytmphmpfeeiipgaa
/- Layer 6: tiles' places by name. -/
namespace Go.Proofs.Ytmphmpfeeiipgaa
open Go.ChangeShapes Go.WideShapes Go.ChangeAt Go.RowKit Go.Deep
set_option linter.unusedVariables false
theorem hsz_le {w X : World} {o : Obj} (h : Below (w.heap.size + 1) (w.alloc o) X) : w.heap.size ≤ X.heap.size := by have := h.size; simp at this; omega
theorem keep2 {wx : World} {A : Nat} {p q : Int} (hs : A < wx.heap.size) (h : wx.cell? ⟨A, 0, none⟩ = some (.int .i64 p) ∧ wx.cell? ⟨A, 1, none⟩ = some (.int .i64 q)) :
    Hk (∀ X, Below wx.heap.size wx X → X.cell? ⟨A, 0, none⟩ = some (.int .i64 p) ∧ X.cell? ⟨A, 1, none⟩ = some (.int .i64 q) ∧ True ∧ True ∧ A < X.heap.size) :=
  ⟨fun X hX => ⟨(hX.cell (p := ⟨A, 0, none⟩) hs).trans h.1, (hX.cell (p := ⟨A, 1, none⟩) hs).trans h.2, trivial, trivial, Nat.lt_of_lt_of_le hs hX.size⟩⟩
end Go.Proofs.Ytmphmpfeeiipgaa
/- Layer 6: contracts by name for GroundBack. -/
namespace Go.Proofs.Ytmphmpfeeiipgaa
open Go.RowKit
set_option linter.unusedVariables false
/-- What In answers. -/
def inV (N : Int) (xs : List Int) : Int := if N ∈ xs then (xs.idxOf N : Nat) else -1
theorem inV_yes {N : Int} {xs : List Int} (h : N ∈ xs) : 0 ≤ inV N xs := by unfold inV; rw [if_pos h]; omega
theorem inV_no {N : Int} {xs : List Int} (h : N ∉ xs) : inV N xs = -1 := by unfold inV; rw [if_neg h]
theorem idxOf_at (N : Int) : ∀ (xs : List Int) (k : Nat) (hk : k < xs.length), xs.getD k 0 = N → N ∉ xs.take k → xs.idxOf N = k
  | [], k, hk, _, _ => absurd hk (by simp)
  | x :: xs, 0, _, e, _ => by simp at e; simp [e]
  | x :: xs, k + 1, hk, e, hn => by
    simp at e hn hk
    have hx : ¬ x = N := fun h => hn.1 h.symm
    have hb : (x == N) = false := by simp [hx]
    rw [List.idxOf_cons, hb, idxOf_at N xs k hk (by simpa using e) hn.2]; rfl
theorem of_near {W H X Y t px py : Int} (x0 : 0 ≤ X) (x1 : X < W) (y0 : 0 ≤ Y) (y1 : Y < H) (hx : X * 65536 ≤ px ∧ px < X * 65536 + 65536) (hy : Y * 65536 ≤ py ∧ py < Y * 65536 + 65536) (e : X + W * Y = t) :
    Hk ((0 ≤ px ∧ px < W * 65536 ∧ 0 ≤ py ∧ py < H * 65536) ∧ px / 65536 + W * (py / 65536) = t) :=
  ⟨⟨by omega, by omega, by omega, by omega⟩, by
    rw [show px / 65536 = X by omega, show py / 65536 = Y by omega]; exact e⟩
theorem nq_take {w : World} {B n : Nat} {a : Option Addr} {xs : List Int} (h : Nq w B a n xs) (j : Nat) (hj : j ≤ n) : Nq w B a j (xs.take j) := ⟨by simp [h.len]; omega, fun hn => by
  obtain ⟨b, off, e, hlt, hc⟩ := h.rd (by omega)
  exact ⟨b, off, e, hlt, fun k hk => by rw [hc k (by omega)]; simp [List.getD, hk]⟩⟩
end Go.Proofs.Ytmphmpfeeiipgaa
/- Layer 6, plain: how many neighbours all tiles have (for GroundCounts). -/
namespace Go.Proofs.Ytmphmpfeeiipgaa
open Go.RowKit
set_option linter.unusedVariables false
/-- Of the first j neighbours of a tile: how many there are. -/
def nbN (W H t : Int) : Nat → Nat
  | 0 => 0
  | j + 1 => nbN W H t j + if 0 ≤ nb W H t j then 1 else 0
/-- All neighbours of the first k tiles. -/
def nbT (W H : Int) : Nat → Nat
  | 0 => 0
  | k + 1 => nbT W H k + nbN W H k 8
theorem nbN_le (W H t : Int) : ∀ j, nbN W H t j ≤ j
  | 0 => Nat.le_refl _
  | j + 1 => by have := nbN_le W H t j; unfold nbN; split <;> omega
theorem nbT_le (W H : Int) : ∀ k, nbT W H k ≤ 8 * k
  | 0 => Nat.le_refl _
  | k + 1 => by have := nbT_le W H k; have := nbN_le W H k 8; unfold nbT; omega
theorem nbT_all : ∀ w h : Fin 4, (nbT (w.val + 1 : Nat) (h.val + 1 : Nat) ((w.val + 1) * (h.val + 1)) : Int) = 2 * ((w.val : Int) * (h.val + 1) + (w.val + 1) * (h.val : Int) + 2 * w.val * h.val) := by
  decide +kernel
theorem nbT_full {W H : Int} {n : Nat} (w1 : 1 ≤ W) (w2 : W ≤ 4) (h1 : 1 ≤ H) (h2 : H ≤ 4) (hn : W * H = n) : (nbT W H n : Int) = 2 * ((W - 1) * H + W * (H - 1) + 2 * (W - 1) * (H - 1)) := by
  obtain ⟨w, rfl⟩ : ∃ w : Nat, W = ((w + 1 : Nat) : Int) := ⟨(W - 1).toNat, by omega⟩
  obtain ⟨h, rfl⟩ : ∃ h : Nat, H = ((h + 1 : Nat) : Int) := ⟨(H - 1).toNat, by omega⟩
  have hn' : n = (w + 1) * (h + 1) := by
    have : ((n : Nat) : Int) = (((w + 1) * (h + 1) : Nat) : Int) := by rw [← hn]; simp
    omega
  subst hn'
  have := nbT_all ⟨w, by omega⟩ ⟨h, by omega⟩
  simp only at this
  rw [this]
  push_cast
  rw [show (w : Int) + 1 - 1 = w by omega, show (h : Int) + 1 - 1 = h by omega]
theorem ways_tab (j : Nat) (hj : j < 8) : (j < 4 ∧ ((dxL.getD j 0 = 0 ∧ dyL.getD j 0 = -1) ∨ (dxL.getD j 0 = 1 ∧ dyL.getD j 0 = 0) ∨ (dxL.getD j 0 = 0 ∧ dyL.getD j 0 = 1) ∨ (dxL.getD j 0 = -1 ∧ dyL.getD j 0 = 0))) ∨
    (4 ≤ j ∧ ((dxL.getD j 0 = 1 ∧ dyL.getD j 0 = -1) ∨ (dxL.getD j 0 = 1 ∧ dyL.getD j 0 = 1) ∨ (dxL.getD j 0 = -1 ∧ dyL.getD j 0 = 1) ∨ (dxL.getD j 0 = -1 ∧ dyL.getD j 0 = -1))) := by
  match j, hj with
  | 0, _ | 1, _ | 2, _ | 3, _ | 4, _ | 5, _ | 6, _ | 7, _ => decide
theorem zeros_ok (W H : Int) (n : Nat) (w1 : 1 ≤ W) (w2 : W ≤ 128) (h1 : 1 ≤ H) (h2 : H ≤ 128) (hn : W * H = n) : GOk W H n (List.replicate n 0) :=
  ⟨w1, w2, h1, h2, hn.symm, fun x hx => by rw [List.eq_of_mem_replicate hx]; omega⟩
theorem zeros_by {X : World} {g n B : Nat} {T : TypeId} (h : Arr X g n T (fun _ => .int .u8 0)) (hg : g < B) : By X B (some ⟨g, 0, none⟩) n (List.replicate n 0) :=
  ⟨by simp, fun b hb => by rw [List.eq_of_mem_replicate hb]; unfold Fn.Byt; omega, fun hn => ⟨g, 0, rfl, hg, fun k hk => by
    rw [Nat.zero_add, h.cell hk]
    show some (Value.int .u8 0) = some (Value.int .u8 ((List.replicate n (0 : Int)).getD k 0))
    rw [List.getD, List.getElem?_replicate, if_pos hk]; rfl⟩⟩
end Go.Proofs.Ytmphmpfeeiipgaa
/- Layer 8: what the statements call, and their argument. -/
namespace Go.Proofs.Ytmphmpfeeiipgaa
open Go.ChangeShapes Go.WideShapes Go.ChangeAt Go.RowKit Go.Deep
set_option linter.unusedVariables false
set_option linter.unusedSimpArgs false
/-- Is it more than is played? -/
def gtA (n ln mn im : Nat) : Bool := decide (700 < n ∨ 30 < ln ∨ 60 < mn ∨ 60 < im)
open Classical in
noncomputable def ckE (W H : Int) (n : Nat) (xs : List Int) (bs : List Bd) : Int := if MOk W H n xs bs then 0 else 1
theorem mok_nil {W H : Int} {n : Nat} {xs : List Int} (g : GOk W H n xs) : MOk W H n xs [] := ⟨g, by simp, fun k hk => by simp at hk, by simp, by simp, by simp, fun i j h1 h2 => by simp at h2⟩
def bd1 : Bd := ⟨1, 1, 0, 0, 2, 1⟩
def bd2 : Bd := ⟨2, 1, 1, 0, 2, 1⟩
theorem fmA : fmB bd1 = true := by decide
theorem fmA2 : fmB bd2 = true := by decide
theorem inA : inB 3 1 bd1 = true := by decide
theorem inA2 : inB 3 1 bd2 = true := by decide
theorem frA : frB 3 [0, 0, 0] bd1 = true := by decide
theorem mok_a : MOk 3 1 3 [0, 0, 0] [] := mok_nil ⟨by omega, by omega, by omega, by omega, by decide, by decide⟩
theorem mok_b : MOk 3 1 3 [0, 0, 0] [bd1] := ⟨mok_a.g, by simp, fun k hk => by simp at hk, by intro b hb; simp at hb; subst hb; exact fmB_iff.1 fmA, by intro b hb; simp at hb; subst hb; exact inB_iff.1 inA, by intro b hb; simp at hb; subst hb; exact frA, fun i j h1 h2 => by simp at h2; omega⟩
theorem addA : addE 3 1 3 [0, 0, 0] [] bd1 = 0 := by
  unfold addE
  rw [if_pos mok_a, if_neg (by rw [fmA]; decide), if_neg (by rw [inA]; decide), if_neg (by rintro (⟨k, hk, _⟩ | h); exact absurd hk (by simp); exact absurd h (by decide)), if_neg (by rw [frA]; decide), if_neg (by simp)]
theorem addA2 : addE 3 1 3 [0, 0, 0] [bd1] bd2 = 12 := by
  unfold addE
  rw [if_pos mok_b, if_neg (by rw [fmA2]; decide), if_neg (by rw [inA2]; decide), if_pos (Or.inr (by decide))]
theorem byt_zeros3 : ∀ b ∈ ([0, 0, 0] : List Int), Fn.Byt b := by
  intro b hb
  simp at hb
  subst hb
  unfold Fn.Byt; omega
/-- The argument: a ground, buildings, more of them, IDs. -/
def Asks8 (w : World) (v : Value) : Prop := ∃ (W H : Int) (a : Option Addr) (n c : Nat) (xs : List Int) (la : Option Addr) (ln lc : Nat) (bs : List Bd) (ma : Option Addr) (mn mc : Nat) (ms : List Bd) (ia : Option Addr) (im ic : Nat) (js : List Int),
  v = .agg #[.int .i64 W, .int .i64 H, .slice a n c, .slice la ln lc, .slice ma mn mc, .slice ia im ic] ∧ I64' W ∧ I64' H ∧ n ≤ 9223372036854775807 ∧ ln ≤ lc ∧ lc ≤ 9223372036854775807 ∧ By w w.heap.size a n xs ∧ Bq w w.heap.size la ln bs ∧ (∀ k, k < ln → ∀ i, I64' ((bs.getD k default).c i)) ∧
  mn ≤ mc ∧ mc ≤ 9223372036854775807 ∧ Bq w w.heap.size ma mn ms ∧ (∀ k, k < mn → ∀ i, I64' ((ms.getD k default).c i)) ∧ im ≤ 9223372036854775807 ∧ Nq w w.heap.size ia im js
end Go.Proofs.Ytmphmpfeeiipgaa
/- Commands, inputs copied and compared: the reference's. -/
namespace Go.Proofs.Ytmphmpfeeiipgaa
open Go.ChangeShapes Go.WideShapes Go.ChangeAt Go.RowKit Go.Deep
set_option linter.unusedVariables false
set_option linter.unusedSimpArgs false
theorem info_cm : (Try.prog.info? 58).map (fun i => (i.zero, i.size, i.bytes)) = some (some (.agg #[.int .i64 0, .int .i64 0, .int .i64 0, .int .i64 0, .slice none 0 0, .int .i64 0, .int .i64 0, .int .i64 0, .int .i64 0, .int .i64 0]), 10, 96) := by kernel_rfl
theorem info_in : (Try.prog.info? 29).map (fun i => (i.zero, i.size, i.bytes)) = some (some (.agg #[.int .i64 0, .int .i64 0, .slice none 0 0]), 3, 40) := by kernel_rfl
theorem lit_at (X : World) (cs : List Value) (T : TypeId) : ∀ (j : Nat) (u : Value), cs[j]? = some u → (X.alloc (.cells cs.toArray T)).cell? ((⟨X.heap.size, 0, none⟩ : Addr).add j) = some u := by
  intro j u hj
  simp only [Addr.add, Nat.zero_add]
  rw [show (if j = 0 then (⟨X.heap.size, 0, none⟩ : Addr) else ⟨X.heap.size, j, none⟩) = ⟨X.heap.size, j, none⟩ by split <;> simp_all, (Bk.new X cs.toArray T).c j]
  simpa using hj
theorem cs_one (q : Cv) : ∀ u ∈ q.cs, u.oneCell' = true := shC.one q
theorem is_one (i : Iv) : ∀ u ∈ i.cs, u.oneCell' = true := shI.one i
/-- Commands with other memory beneath. -/
def abC (l : List Cv) : List Cm := l.map Cv.ab
theorem abC_snoc {l : List Cv} {k : Nat} (h : k < l.length) : abC (l.take (k + 1)) = abC (l.take k) ++ [(l.getD k default).ab] := by
  unfold abC; rw [take_snocC h, List.map_append]; rfl
theorem abC_app (l m : List Cv) : abC (l ++ m) = abC l ++ abC m := List.map_append
theorem abC_len (l : List Cv) : (abC l).length = l.length := List.length_map ..
def abI (l : List Iv) : List In := l.map Iv.ab
theorem abI_snoc {l : List Iv} {k : Nat} (h : k < l.length) : abI (l.take (k + 1)) = abI (l.take k) ++ [(l.getD k default).ab] := by
  unfold abI; rw [take_snocI h, List.map_append]; rfl
theorem abI_app (l m : List Iv) : abI (l ++ m) = abI l ++ abI m := List.map_append
theorem abI_len (l : List Iv) : (abI l).length = l.length := List.length_map ..
/-- Lists of commands that are played. -/
structure SmC (l : List Cv) : Prop where
  n : l.length ≤ 1048576
  m : ∀ x, x ∈ l → x.m ≤ 1048576
theorem OwC.snoc {w w' : World} {base n : Nat} {v v' : Value} {l : List Cv} {q : Cv} (h : OwC w base v n l) (ho : w'.ownsRow base 58 10 v' (n + 1) (flt shC l ++ q.cs)) (hl : ∀ x, x ∈ l → OwE w' base x.a x.m x.c x.u) (hq : OwE w' base q.a q.m q.c q.u) : OwC w' base v' (n + 1) (l ++ [q]) :=
  ⟨⟨by rw [List.length_append, h.o.len]; rfl, by rw [flt_app, flt_one1]; exact ho⟩, fun x hx => by
    rcases List.mem_append.1 hx with hx | hx
    · exact hl x hx
    · have := List.mem_singleton.1 hx
      subst this
      exact hq⟩
set_option maxRecDepth 100000 in
set_option maxHeartbeats 1600000 in
theorem copycs_any (a : Option Addr) (n c : Nat) (l : List Cv) (w : World) (h : CmD w w.heap.size a n l) (hs : SmC l) :
    Calls Try.prog 35 #[.slice a n c] w fun e w' => ∃ v L, e = .returned v ∧ OwC w' w.heap.size v n L ∧ abC L = abC l ∧ Below w.heap.size w w' := by
  obtain ⟨i0, hi, hz0, hz1, hz2⟩ := info_parts info_cm
  have HH := Hk.mk h
  have hlen := h.q.len
  have HL := Hk.mk hlen
  have hn : n ≤ 1048576 := by have := hs.n; omega
  have HS := Hk.mk hs
  clear h hlen hs
  go_enter Try.func35, Try.ntmps35
  go_wp2
  go_loopw [3, 4] (fun v i wr => ∃ (k : Nat) (L : List Cv) (sa : Option Addr) (sc : Nat), v = .slice sa k sc ∧ i = .int .i64 k ∧ k ≤ n ∧ Hk (OwC wr w.heap.size (.slice sa k sc) k L ∧ abC L = abC (l.take k)) ∧ Hk (Below w.heap.size w wr)) (fun _ i _ => n - (intOf i).toNat)
  case atStart => exact ⟨0, [], none, 0, rfl, rfl, Nat.zero_le _, ⟨OwC.nil w w.heap.size, rfl⟩, ⟨Below.refl _ _⟩⟩
  case round =>
    obtain ⟨k, L, sa, sc, rfl, rfl, hk, HO, HB⟩ := hrel
    obtain ⟨hc, hf, hl', hn', hm'⟩ := kw_rules HB.out (Nat.le_refl _)
    by_cases hlt : k < n
    · obtain ⟨b, off, rfl, hbl, ⟨p0, p1, p2, p3, p4, p5, p6, p7, p8, p9⟩, hnq⟩ := HH.out.ten hlt
      have hm := HS.out.m _ (getD_memC (show k < l.length by rw [HL.out]; exact hlt))
      have HSN : Hk (abC (l.take (k + 1)) = abC (l.take k) ++ [(l.getD k default).ab]) := ⟨abC_snoc (by rw [HL.out]; exact hlt)⟩
      generalize l.getD k default = q at *
      have HN := Hk.mk ((hnq.below HB.out (Nat.le_refl _)).mono HB.out.size)
      have t0 : (0 : Int) ≤ (k : Int) := by omega
      have t1 : (k : Int) < (n : Int) := by omega
      have HM : Hk (q.m ≤ 1099511627776) := ⟨by omega⟩
      have hk20 : k < 1048576 := by omega
      have HLT := Hk.mk hlt
      clear hnq hm
      go_wp2_with (first
        | (go_at_call 57; (with_reducible refine (copyc_any q.p q.s q.k q.n q.a q.m q.c q.u q.t q.w q.h q.x q.y _ HN.out HM.out).mono ?_); rintro e z ⟨a2, c2, rfl, hc2, ho2, hb⟩; have HOC := Hk.mk ho2; have HOL := Hk.mk (HO.out.1.below hb); have hB2 := Hk.mk (kw_step HB.out (Nat.le_refl _) hb); have HB0 := Hk.mk HB.out.size; clear ho2 hb hc2; replace HB := hB2; clear hB2; have HOA := Hk.mk (HOL.out.o.alloc (.cells #[.int .i64 q.p, .int .i64 q.s, .int .i64 q.k, .int .i64 q.n, .slice a2 q.m c2, .int .i64 q.t, .int .i64 q.w, .int .i64 q.h, .int .i64 q.x, .int .i64 q.y] 58)))
        | (at_builtin; go_must (refine wpList_append_own _ rfl _ _ 27 rfl w.heap.size 58 i0 (.agg #[.int .i64 0, .int .i64 0, .int .i64 0, .int .i64 0, .slice none 0 0, .int .i64 0, .int .i64 0, .int .i64 0, .int .i64 0, .int .i64 0]) 10 96 Try.underlying27 hi hz0 hz1 hz2 rfl (by decide) _ k (flt shC L) rfl HOA.out.row ⟨z.heap.size, 0, none⟩ 1 1 (({ q with a := a2, c := c2 } : Cv).cs) rfl rfl (lit_at z _ _) (cs_one _) (by unfold maxLen; omega) (by omega) ?c5 ?_)))
      case c5 => have := HB.out.size; simp; omega
      intro v2 z2 hown2 hgrow hnil
      clear hnil
      have hBA : Below w.heap.size w (z.alloc (.cells #[.int .i64 q.p, .int .i64 q.s, .int .i64 q.k, .int .i64 q.n, .slice a2 q.m c2, .int .i64 q.t, .int .i64 q.w, .int .i64 q.h, .int .i64 q.x, .int .i64 q.y] 58)) := HB.out.alloc HB.out.size _
      have hFr : Fr (fun j => (Value.slice sa k sc).ownBlock = some j) z z2 := ((Fr.refl _ z).alloc _).grown hgrow (fun j _ h => h)
      have HB3 : Hk (Below w.heap.size w z2) := ⟨hBA.grown hgrow (by have := HB.out.size; simp; omega) (fun g hg => (HOL.out.o.lt g hg).1)⟩
      have hty : ∀ j, (Value.slice sa k sc).ownBlock = some j → ∃ cur fr, z.heap[j]? = some (.cells cur 58 fr) := fun j hj => HOL.out.o.typ hj
      have hI : ∀ j cur fr, z.heap[j]? = some (.cells cur 3 fr) → ¬ (Value.slice sa k sc).ownBlock = some j := fun j cur fr e hj => by
        obtain ⟨cur', fr', e'⟩ := hty j hj
        rw [e] at e'
        injection e' with e'
        injection e' with _ e'
        exact absurd e' (by decide)
      have HO3 : Hk (OwC z2 w.heap.size v2 (k + 1) (L ++ [{ q with a := a2, c := c2 }]) ∧ abC (L ++ [{ q with a := a2, c := c2 }]) = abC (l.take (k + 1))) := ⟨OwC.snoc HOL.out hown2 (fun x hx => (HOL.out.u x hx).keep hFr hI) (.inl (Fr.owni (HOC.out.weak HB0.out) hFr fun j hj => by obtain ⟨cur, fr, e⟩ := HOC.out.typ hj; exact hI j cur fr e)), by rw [abC_app, HO.out.2, HSN.out]; rfl⟩
      obtain ⟨sa2, sc2, rfl, -⟩ := HO3.out.1.o.form
      have hnx : k + 1 ≤ n := HLT.out
      clear hown2 hgrow hFr hty hI hBA HO HOL HOA HB HB0
      go_wp2
      exact ⟨⟨k + 1, _, sa2, sc2, by first | rfl | (push_cast; rfl), by go_num, hnx, HO3, HB3⟩, by first | exact nx_ms HLT.out | exact nx_ms' HLT.out⟩
    · obtain rfl : k = n := by omega
      go_wp2
      go_ret
      exact ⟨_, L, rfl, HO.out.1, by have := HO.out.2; rwa [List.take_of_length_le (by rw [HL.out]; exact Nat.le_refl _)] at this, HB.out⟩
end Go.Proofs.Ytmphmpfeeiipgaa
