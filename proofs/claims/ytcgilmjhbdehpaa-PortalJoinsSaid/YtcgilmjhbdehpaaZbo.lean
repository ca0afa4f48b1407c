import Derived.Test.YtcgilmjhbdehpaaZbn
import Derived.Laws.AppendOwnNone
import Derived.Deep.QuietTactic
import Derived.BigQuiet
import Derived.Deep.RegionWith
import Derived.Deep.RegionHeld3
import Derived.Deep.DeepCutAuto
import Derived.Deep.DeepFit
import Derived.Outline
import Derived.Test.YtcgilmjhbdehpaaZbm
import Derived.Shelf.SlSortCmp.NoneTotal
import Derived.Test.YtcgilmjhbdehpaaZbd
import Derived.Test.YtcgilmjhbdehpaaZbj
import Derived.Test.YtcgilmjhbdehpaaZbb
/- Layer 10: what SectorNumbers calls. -/
namespace Go.Proofs.Ytcgilmjhbdehpaa
open Go.RowKit
set_option linter.unusedVariables false
def heavyS (n tn pn : Nat) : Bool := decide (900 < n ∨ 60 < tn ∨ 2000 < pn)
theorem rof10_as (W t z : Int) (w : World) (w1 : 1 ≤ W) (w2 : W ≤ 128) (t0 : 0 ≤ t) (t1 : t ≤ 16384) (EZ : Hk (Fx.ofS W t = z)) : Calls Try.prog 26 #[.int .i64 W, .int .i64 t] w fun e w' => e = .returned (.int .i64 z) ∧ Below w.heap.size w w' := by
  obtain ⟨rfl⟩ := EZ; exact rsof_any W t w w1 w2 t0 t1
theorem racross_as (n z : Int) (w : World) (a : 1 ≤ n) (b : n ≤ 128) (EZ : Hk (Fx.acS n = z)) : Calls Try.prog 43 #[.int .i64 n] w fun e w' => e = .returned (.int .i64 z) ∧ Below w.heap.size w w' := by
  obtain ⟨rfl⟩ := EZ; exact racross_any n w a b
end Go.Proofs.Ytcgilmjhbdehpaa
/- Layer 10: Count and Of with a letter for the answer. -/
namespace Go.Proofs.Ytcgilmjhbdehpaa
open Go.RowKit
set_option linter.unusedVariables false
theorem cnt_as (W H z : Int) (w : World) (E : Hk (Fx.szB W H = true)) (EZ : Hk (Fx.acS W * Fx.acS H = z)) : Calls Try.prog 28 #[.int .i64 W, .int .i64 H] w fun e w' => e = .returned (.tuple #[.int .i64 z, .int .i64 0]) ∧ Below w.heap.size w w' := by
  obtain ⟨rfl⟩ := EZ; exact count_yes W H w E
theorem sofl_as (W H t z : Int) (w : World) (E : Hk (Fx.szB W H = true)) (t0 : 0 ≤ t) (t1 : t < W * H) (EZ : Hk (Fx.ofS W t = z)) : Calls Try.prog 34 #[.int .i64 W, .int .i64 H, .int .i64 t] w fun e w' => e = .returned (.tuple #[.int .i64 z, .int .i64 0]) ∧ Below w.heap.size w w' := by
  obtain ⟨rfl⟩ := EZ; exact of_yes10 W H t w E t0 t1
theorem sofn_as (W H t : Int) (w : World) (E : Hk (Fx.szB W H = true)) (q : ¬ (0 ≤ t ∧ t < W * H)) : Calls Try.prog 34 #[.int .i64 W, .int .i64 H, .int .i64 t] w fun e w' => e = .returned (.tuple #[.int .i64 0, .int .i64 3]) ∧ Below w.heap.size w w' := by
  by_cases h : t < 0
  · exact of_neg10 W H t w E h
  · exact of_far10 W H t w E (by omega) (by omega)
end Go.Proofs.Ytcgilmjhbdehpaa
/- Package portal: all portals of a map. -/
namespace Go.Proofs.Ytcgilmjhbdehpaa
open Go.ChangeShapes Go.WideShapes Go.ChangeAt Go.RowKit Go.Deep
set_option linter.unusedVariables false
set_option linter.unusedSimpArgs false

theorem addr_addP (b o j : Nat) : (⟨b, o, none⟩ : Addr).add j = ⟨b, o + j, none⟩ := by
  simp only [Addr.add]
  by_cases e : j = 0
  · subst e; simp
  · simp [e]
theorem wpList_append_row {P : Program} {w : World} {ops : Array Oper} {rest : List Oper} {o : Oper} {a : Act} {Q : Exit → Act → World → Prop} (hgd : o.guard = none) (s x : Operand) (t : TypeId)
    (ho : o.op = .call { callee := .builtin .append, args := #[s, x], argTypes := #[t, t] })
    (base : Nat) (e : TypeId) (i : TypeInfo) (z : Value) (size bytes : Nat) (ht : P.underlying t = some (.slice e)) (hi : P.info? e = some i) (hz : i.zero = some z)
    (hsize : i.size = size) (hby : i.bytes = bytes) (hzs : z.cells.size = size) (hsz : 0 < size)
    (v : Value) (n : Nat) (xs : List Value) (hs : a.eval s = v) (hown : w.ownsRow base e size v n xs)
    (vx : Value) (m : Nat) (news : List Value) (hx : a.eval x = vx) (base' : Nat) (hrow : w.ownsRow base' e size vx m news) (h1 : ∀ u ∈ news, u.oneCell' = true)
    (h63 : n + m ≤ maxLen) (hbytes : (n + m) * bytes ≤ 140737488355328) (hbase : base ≤ w.heap.size)
    (h : ∀ v' w', w'.ownsRow base e size v' (n + m) (xs ++ news) → w.grownBy w' v.ownBlock → wpList P ops Q rest (a.put o.dst v') w') :
    wpList P ops Q (o :: rest) a w := by
  rcases hrow.2 with ⟨e1, e2⟩ | ⟨g, cap, cur, e1, hg, hh, hc, hm, hs2, ht2⟩
  · subst e1 e2
    have hnil : news = [] := by have := hrow.1; simpa using this
    subst hnil
    exact wpList_append_own_none hgd s x t ho base e i size ht hi v n xs hs hown hx (h v w (by simpa using hown) ⟨rfl, rfl, rfl, Nat.le_refl _, fun _ _ _ => rfl⟩)
  · subst e1
    refine wpList_append_own_at w hgd s x t ho base e i z size bytes ht hi hz hsize hby hzs hsz v n xs hs hown ⟨g, 0, none⟩ m cap news hx hrow.1 (fun j u hu => ?_) h1 h63 hbytes hbase (fun v' w' h2 h3 _ _ => h v' w' h2 h3)
    have hj : j < m * size := by rw [← hrow.1]; exact (List.getElem?_eq_some_iff.1 hu).1
    have := hrow.cellAt j hj
    rw [addr_addP, Nat.zero_add, this, hu]
/-- Pairs along the borders of columns, of rows. -/
def prV (fr : Nat → Bool) (W H k i : Nat) : Bool := decide (i < H) && (fr (((8 * k + 7 : Nat) : Int) + (i : Int) * (W : Int)).toNat && fr (((8 * k + 7 : Nat) : Int) + (i : Int) * (W : Int) + 1).toNat)
def prH (fr : Nat → Bool) (W k i : Nat) : Bool := decide (i < W) && (fr (((8 * k + 7 : Nat) : Int) * (W : Int) + (i : Int) * 1).toNat && fr (((8 * k + 7 : Nat) : Int) * (W : Int) + (i : Int) * 1 + (W : Int)).toNat)
def bV (fr : Nat → Bool) (W H k : Nat) : List (Int × Int × Int) := (rnS (prV fr W H k) (H + 1)).1.map (ptOf (fun i : Nat => ((8 * k + 7 : Nat) : Int) + (i : Int) * (W : Int)) 1)
def bH (fr : Nat → Bool) (W k : Nat) : List (Int × Int × Int) := (rnS (prH fr W k) (W + 1)).1.map (ptOf (fun i : Nat => ((8 * k + 7 : Nat) : Int) * (W : Int) + (i : Int) * 1) (W : Int))
def vL (fr : Nat → Bool) (W H : Nat) : Nat → List (Int × Int × Int)
  | 0 => []
  | k + 1 => vL fr W H k ++ bV fr W H k
def hL (fr : Nat → Bool) (W H : Nat) : Nat → List (Int × Int × Int)
  | 0 => vL fr W H ((W - 1) / 8)
  | k + 1 => hL fr W H k ++ bH fr W k
/-- All portals, border by border. -/
def allP (fr : Nat → Bool) (W H : Nat) : List (Int × Int × Int) := hL fr W H ((H - 1) / 8)
theorem bV_len (fr : Nat → Bool) (W H k : Nat) : (bV fr W H k).length ≤ H + 1 := by unfold bV; rw [List.length_map]; exact rnS_len _ _
theorem bH_len (fr : Nat → Bool) (W k : Nat) : (bH fr W k).length ≤ W + 1 := by unfold bH; rw [List.length_map]; exact rnS_len _ _
theorem vL_len (fr : Nat → Bool) (W H : Nat) : ∀ k, (vL fr W H k).length ≤ k * (H + 1)
  | 0 => Nat.zero_le _
  | k + 1 => by
    have := vL_len fr W H k
    have := bV_len fr W H k
    show (vL fr W H k ++ bV fr W H k).length ≤ _
    rw [List.length_append, Nat.add_mul]; omega
theorem hL_len (fr : Nat → Bool) (W H : Nat) : ∀ k, (hL fr W H k).length ≤ (W - 1) / 8 * (H + 1) + k * (W + 1)
  | 0 => by show (vL fr W H ((W - 1) / 8)).length ≤ _; have := vL_len fr W H ((W - 1) / 8); omega
  | k + 1 => by
    have := hL_len fr W H k
    have := bH_len fr W k
    show (hL fr W H k ++ bH fr W k).length ≤ _
    rw [List.length_append, Nat.add_mul]; omega
end Go.Proofs.Ytcgilmjhbdehpaa
/- Package portal: Find. -/
namespace Go.Proofs.Ytcgilmjhbdehpaa
open Go.ChangeShapes Go.WideShapes Go.ChangeAt Go.RowKit Go.Deep
set_option linter.unusedVariables false
set_option linter.unusedSimpArgs false
theorem prV_off {fr : Nat → Bool} {W H k : Nat} : ∀ i, H ≤ i → prV fr W H k i = false := fun i h => by
  unfold prV; rw [decide_eq_false (by omega)]; rfl
theorem prV_on {fr : Nat → Bool} {W H k : Nat} : ∀ i : Nat, i < H → prV fr W H k i = (fr (((8 * k + 7 : Nat) : Int) + (i : Int) * (W : Int)).toNat && fr (((8 * k + 7 : Nat) : Int) + (i : Int) * (W : Int) + 1).toNat) := fun i h => by
  unfold prV; rw [decide_eq_true h]; rfl
theorem prH_off {fr : Nat → Bool} {W k : Nat} : ∀ i, W ≤ i → prH fr W k i = false := fun i h => by
  unfold prH; rw [decide_eq_false (by omega)]; rfl
theorem prH_on {fr : Nat → Bool} {W k : Nat} : ∀ i : Nat, i < W → prH fr W k i = (fr (((8 * k + 7 : Nat) : Int) * (W : Int) + (i : Int) * 1).toNat && fr (((8 * k + 7 : Nat) : Int) * (W : Int) + (i : Int) * 1 + (W : Int)).toNat) := fun i h => by
  unfold prH; rw [decide_eq_true h]; rfl
theorem bdV {W H k i : Nat} (hk : 8 * k + 8 < W) (hi : i < H) : ((8 * k + 7 : Nat) : Int) + (i : Int) * (W : Int) + 1 < ((W * H : Nat) : Int) := by
  have := Nat.mul_le_mul_left W (show i + 1 ≤ H by omega)
  rw [Nat.mul_add, Nat.mul_one, Nat.mul_comm W i] at this
  have e : (i : Int) * (W : Int) = ((i * W : Nat) : Int) := by push_cast; rfl
  rw [e]
  omega
theorem bdH {W H k i : Nat} (hk : 8 * k + 8 < H) (hi : i < W) : ((8 * k + 7 : Nat) : Int) * (W : Int) + (i : Int) * 1 + (W : Int) < ((W * H : Nat) : Int) := by
  have := Nat.mul_le_mul_left W (show 8 * k + 7 + 1 + 1 ≤ H by omega)
  rw [Nat.mul_add, Nat.mul_one, Nat.mul_add, Nat.mul_one, Nat.mul_comm W (8 * k + 7)] at this
  have e : ((8 * k + 7 : Nat) : Int) * (W : Int) = (((8 * k + 7) * W : Nat) : Int) := by push_cast; rfl
  rw [e]
  omega
theorem own_openP {w : World} {S n : Nat} {v : Value} {xs : List Value} (h : w.ownsRow S 41 3 v n xs) (hn : 0 < n) : ∃ g c, v = .slice (some ⟨g, 0, none⟩) n c ∧ S ≤ g := by
  rcases h.2 with ⟨e, h0⟩ | ⟨g', cap, cur, e, hg, _⟩
  · omega
  · exact ⟨g', cap, e, hg⟩
theorem sortP_none (p : Option Addr) (cap : Nat) (fv : Value) (w : World) : Calls Try.prog 30 #[.slice p 0 cap, fv] w fun e w' => e = .returned (.tuple #[]) ∧ w' = w := Go.Proofs.AnyF.slices_SortFunc_none sortP p cap fv w
set_option maxRecDepth 1000000 in
set_option maxHeartbeats 6400000 in
theorem find_yes (W H fb fo fc n : Nat) (fr : Nat → Bool) (w : World) (w1 : 1 ≤ W) (w2 : W ≤ 128) (h1 : 1 ≤ H) (h2 : H ≤ 128) (hn : n = W * H) (hfl : fb < w.heap.size) (hF : ∀ k, k < n → w.cell? ⟨fb, fo + k, none⟩ = some (.bool (fr k))) :
    Calls Try.prog 12 #[.int .i64 (W : Nat), .int .i64 (H : Nat), .slice (some ⟨fb, fo, none⟩) n fc] w fun e w' => ∃ (a : Option Addr) (c : Nat) (L : List (Int × Int × Int)), e = .returned (.tuple #[.slice a L.length c, .int .i64 0]) ∧ L.Perm (allP fr W H) ∧ L.Pairwise (fun x y => ¬ ltP y x) ∧ World.ownsRow w' w.heap.size 41 3 (.slice a L.length c) L.length (fl3 L) ∧ Below w.heap.size w w' := by
  obtain ⟨ii, hii, hiz0, hiz1, hiz2⟩ := info_parts info_pt
  have hnI : (n : Int) = (W : Int) * (H : Int) := by rw [hn]; push_cast; rfl
  have n16 : n ≤ 16384 := by have := mul_bd (show (1 : Int) ≤ W by omega) (show (W : Int) ≤ 128 by omega) (show (1 : Int) ≤ H by omega) (show (H : Int) ≤ 128 by omega); omega
  have ES : Hk (Fx.szB W H = true) := ⟨by unfold Fx.szB; exact decide_eq_true (by omega)⟩
  have e1 : IntKind.i64.wrap ((W : Int) * (H : Int)) = (n : Int) := by rw [← hnI]; exact wr_in' (by omega)
  have HFF := Hk.mk hF
  have HN := Hk.mk hn
  clear hF hnI hn
  go_enter Try.func12, Try.ntmps12
  go_wp2_with (go_at_call 28; (with_reducible refine (count_yes W H _ ES).mono ?_); rintro e z ⟨rfl, hb⟩; have HB := Hk.mk hb; clear hb)
  have HO : Hk (World.ownsRow z w.heap.size 41 3 (.slice none (vL fr W H 0).length 0) (vL fr W H 0).length (fl3 (vL fr W H 0))) := ⟨World.ownsRow_nil _ _ _ _⟩
  clear e1
  obtain ⟨wo, rfl⟩ : ∃ wo : World, wo = z := ⟨z, rfl⟩
  go_loopw [10, 11] (fun l xx wr => ∃ (k : Nat) (sa : Option Addr) (sc : Nat), l = .slice sa (vL fr W H k).length sc ∧ xx = .int .i64 (8 * k + 7 : Nat) ∧ k ≤ (W - 1) / 8 ∧ Hk (World.ownsRow wr w.heap.size 41 3 (.slice sa ((vL fr W H k)).length sc) ((vL fr W H k)).length (fl3 ((vL fr W H k)))) ∧ Hk (Below w.heap.size w wr)) (fun _ xx _ => 200 - (intOf xx).toNat)
  case atStart => exact ⟨0, none, 0, rfl, rfl, by omega, HO, HB⟩
  case round =>
    clear HO HB
    obtain ⟨k, sa, sc, rfl, rfl, hk, HO, HB⟩ := hrel
    have g1 : IntKind.i64.wrap (((8 * k + 7 : Nat) : Int) + 1) = ((8 * k + 8 : Nat) : Int) := by rw [show ((8 * k + 7 : Nat) : Int) + 1 = ((8 * k + 8 : Nat) : Int) by omega]; exact wr_nat (by omega)
    have g8 : IntKind.i64.wrap (((8 * k + 7 : Nat) : Int) + 8) = ((8 * (k + 1) + 7 : Nat) : Int) := by rw [show ((8 * k + 7 : Nat) : Int) + 8 = ((8 * (k + 1) + 7 : Nat) : Int) by omega]; exact wr_nat (by omega)
    obtain ⟨X, hX⟩ : ∃ X : Nat, X = 8 * k + 7 := ⟨_, rfl⟩
    obtain ⟨X1, hX1⟩ : ∃ X : Nat, X = 8 * k + 8 := ⟨_, rfl⟩
    obtain ⟨X8, hX8⟩ : ∃ X : Nat, X = 8 * (k + 1) + 7 := ⟨_, rfl⟩
    obtain ⟨L, hL⟩ : ∃ L, vL fr W H k = L := ⟨_, rfl⟩
    have hLl : L.length ≤ 2100 := by
      have a := vL_len fr W H k
      have b := Nat.mul_le_mul (show k ≤ 16 by omega) (show H + 1 ≤ 129 by omega)
      rw [← hL]; omega
    rw [← hX, ← hX1] at g1
    rw [← hX, ← hX8] at g8
    rw [hL] at HO ⊢
    rw [← hX]
    have HX := Hk.mk (And.intro hX (And.intro hX1 hX8))
    have HL := Hk.mk hL
    by_cases hc : 8 * k + 8 < W
    · have d0 : decide ((X1 : Int) < (W : Int)) = true := by simp; omega
      have d0n : decide (X1 < W) = true := by simp; omega
      have hbl := bV_len fr W H k
      have hbd : ∀ i : Nat, i < H → (X : Int) + (i : Int) * (W : Int) + 1 < (n : Int) := fun i hi => by rw [hX, HN.out]; exact bdV hc hi
      have hon : ∀ i : Nat, i < H → prV fr W H k i = (fr ((X : Int) + (i : Int) * (W : Int)).toNat && fr ((X : Int) + (i : Int) * (W : Int) + 1).toNat) := fun i hi => by rw [hX]; exact prV_on i hi
      have hRL : (rnS (prV fr W H k) (H + 1)).1.map (ptOf (fun i : Nat => (X : Int) + (i : Int) * (W : Int)) 1) = bV fr W H k := by rw [hX]; rfl
      have x0 : (0 : Int) ≤ (X : Int) := by omega
      have x1 : (X : Int) ≤ 16384 := by omega
      clear hX hX1 hX8 hL
      obtain ⟨RL, hRL2⟩ : ∃ RL, bV fr W H k = RL := ⟨_, rfl⟩
      rw [hRL2] at hRL hbl
      have HRL := Hk.mk hRL2
      have HRM := Hk.mk hRL
      have HBD := Hk.mk hbd
      have HON := Hk.mk hon
      clear hRL hRL2 hbd hon
      as_aux_lemma =>
        go_wp2_with (first
          | (go_at_call 29; (refine (portals_any (X : Int) (W : Int) 1 H fb fo n fc fr (prV fr W H k) _ h2 x0 x1 (by omega) (by omega) (by omega) (by omega) HBD.out n16 (Nat.lt_of_lt_of_le hfl HB.out.size) (fun k hk => (HB.out.cell (p := ⟨fb, fo + k, none⟩) hfl).trans (HFF.out k hk)) prV_off HON.out).mono ?_); rintro e z ⟨vp, rfl, hro, hb⟩; rw [HRM.out] at hro; have HRP := Hk.mk hro; have HO2 : Hk (World.ownsRow z w.heap.size 41 3 (.slice sa L.length sc) L.length (fl3 L)) := ⟨ownp_later HO.out hb⟩; have HB2 := Hk.mk (HB.out.trans (hb.mono HB.out.size)); clear hro hb)
          | (at_builtin; go_must (refine wpList_append_row rfl _ _ 27 rfl w.heap.size 41 ii (.agg #[.int .i64 0, .int .i64 0, .int .i64 0]) 3 24 Try.underlying27 hii hiz0 hiz1 hiz2 rfl (by decide) _ _ _ rfl HO2.out vp _ (fl3 (RL)) rfl _ HRP.out (fl3_one _) (by unfold maxLen; omega) (by omega) HB2.out.size ?_); intro v8 z8 hown hgrow; have HO8 := Hk.mk hown; have HB8 := Hk.mk (HB2.out.grown hgrow HB2.out.size (fun j hj => (HO2.out.lt j hj).1)); clear hown hgrow))
        obtain ⟨sa2, sc2, rfl⟩ := own_formP HO8.out
        have hLL : vL fr W H (k + 1) = L ++ RL := by show vL fr W H k ++ bV fr W H k = _; rw [HL.out, HRL.out]
        exact ⟨⟨k + 1, sa2, sc2, by rw [hLL]; simp, by rw [← HX.out.2.2], by omega, ⟨by have := HO8.out; rw [hLL, fl3_app]; simpa using this⟩, HB8⟩, by have := HX.out; simp [intOf]; omega⟩
    · have d0 : decide ((X1 : Int) < (W : Int)) = false := by simp; omega
      have d0n : decide (X1 < W) = false := by simp; omega
      obtain rfl : k = (W - 1) / 8 := by omega
      clear hX hX1 hX8 hL g8
      have hLv : hL fr W H 0 = L := HL.out
      clear HX HL
      as_aux_lemma =>
        go_wp2_with fail
        subst hLv
        obtain ⟨wq, rfl⟩ : ∃ wq : World, wq = wr := ⟨wr, rfl⟩
        go_loopw [10, 12] (fun l xx wr => ∃ (k : Nat) (sa : Option Addr) (sc : Nat), l = .slice sa (hL fr W H k).length sc ∧ xx = .int .i64 (8 * k + 7 : Nat) ∧ k ≤ (H - 1) / 8 ∧ Hk (World.ownsRow wr w.heap.size 41 3 (.slice sa ((hL fr W H k)).length sc) ((hL fr W H k)).length (fl3 ((hL fr W H k)))) ∧ Hk (Below w.heap.size w wr)) (fun _ xx _ => 200 - (intOf xx).toNat)
        case atStart => exact ⟨0, sa, sc, rfl, rfl, by omega, HO, HB⟩
        case round =>
          clear HO HB
          obtain ⟨k, sa, sc, rfl, rfl, hk, HO, HB⟩ := hrel
          have g1 : IntKind.i64.wrap (((8 * k + 7 : Nat) : Int) + 1) = ((8 * k + 8 : Nat) : Int) := by rw [show ((8 * k + 7 : Nat) : Int) + 1 = ((8 * k + 8 : Nat) : Int) by omega]; exact wr_nat (by omega)
          have g8 : IntKind.i64.wrap (((8 * k + 7 : Nat) : Int) + 8) = ((8 * (k + 1) + 7 : Nat) : Int) := by rw [show ((8 * k + 7 : Nat) : Int) + 8 = ((8 * (k + 1) + 7 : Nat) : Int) by omega]; exact wr_nat (by omega)
          obtain ⟨X, hX⟩ : ∃ X : Nat, X = 8 * k + 7 := ⟨_, rfl⟩
          obtain ⟨X1, hX1⟩ : ∃ X : Nat, X = 8 * k + 8 := ⟨_, rfl⟩
          obtain ⟨X8, hX8⟩ : ∃ X : Nat, X = 8 * (k + 1) + 7 := ⟨_, rfl⟩
          obtain ⟨L, hLe⟩ : ∃ L, hL fr W H k = L := ⟨_, rfl⟩
          have hLl : L.length ≤ 4200 := by
            have a := hL_len fr W H k
            have b := Nat.mul_le_mul (show (W - 1) / 8 ≤ 16 by omega) (show H + 1 ≤ 129 by omega)
            have c := Nat.mul_le_mul (show k ≤ 16 by omega) (show W + 1 ≤ 129 by omega)
            rw [← hLe]; omega
          rw [← hX, ← hX1] at g1
          rw [← hX, ← hX8] at g8
          rw [hLe] at HO ⊢
          rw [← hX]
          have HX := Hk.mk (And.intro hX (And.intro hX1 hX8))
          have HL := Hk.mk hLe
          by_cases hc : 8 * k + 8 < H
          · have d0 : decide ((X1 : Int) < (H : Int)) = true := by simp; omega
            have d0n : decide (X1 < H) = true := by simp; omega
            have hbl := bH_len fr W k
            obtain ⟨XW, hXW⟩ : ∃ XW : Nat, (XW : Int) = (X : Int) * (W : Int) := ⟨X * W, by push_cast; rfl⟩
            have hxw : XW ≤ 16384 := by
              have := Nat.mul_le_mul (show X ≤ 128 by omega) w2
              have e : XW = X * W := by have : ((XW : Nat) : Int) = ((X * W : Nat) : Int) := by rw [hXW]; push_cast; rfl
                                        omega
              omega
            have g3 : IntKind.i64.wrap ((X : Int) * (W : Int)) = (XW : Int) := by rw [← hXW]; exact wr_nat (by omega)
            have hbd : ∀ i : Nat, i < W → (XW : Int) + (i : Int) * 1 + (W : Int) < (n : Int) := fun i hi => by rw [hXW, hX, HN.out]; exact bdH hc hi
            have hon : ∀ i : Nat, i < W → prH fr W k i = (fr ((XW : Int) + (i : Int) * 1).toNat && fr ((XW : Int) + (i : Int) * 1 + (W : Int)).toNat) := fun i hi => by rw [hXW, hX]; exact prH_on i hi
            have hRL : (rnS (prH fr W k) (W + 1)).1.map (ptOf (fun i : Nat => (XW : Int) + (i : Int) * 1) (W : Int)) = bH fr W k := by rw [hXW, hX]; rfl
            have x0 : (0 : Int) ≤ (XW : Int) := by omega
            have x1 : (XW : Int) ≤ 16384 := by omega
            clear hX hX1 hX8 hLe hXW
            obtain ⟨RL, hRL2⟩ : ∃ RL, bH fr W k = RL := ⟨_, rfl⟩
            rw [hRL2] at hRL hbl
            have HRL := Hk.mk hRL2
            have HRM := Hk.mk hRL
            have HBD := Hk.mk hbd
            have HON := Hk.mk hon
            clear hRL hRL2 hbd hon
            as_aux_lemma =>
              go_wp2_with (first
                | (go_at_call 29; (refine (portals_any (XW : Int) 1 (W : Int) W fb fo n fc fr (prH fr W k) _ w2 x0 x1 (by omega) (by omega) (by omega) (by omega) HBD.out n16 (Nat.lt_of_lt_of_le hfl HB.out.size) (fun k hk => (HB.out.cell (p := ⟨fb, fo + k, none⟩) hfl).trans (HFF.out k hk)) prH_off HON.out).mono ?_); rintro e z ⟨vp, rfl, hro, hb⟩; rw [HRM.out] at hro; have HRP := Hk.mk hro; have HO2 : Hk (World.ownsRow z w.heap.size 41 3 (.slice sa L.length sc) L.length (fl3 L)) := ⟨ownp_later HO.out hb⟩; have HB2 := Hk.mk (HB.out.trans (hb.mono HB.out.size)); clear hro hb)
                | (at_builtin; go_must (refine wpList_append_row rfl _ _ 27 rfl w.heap.size 41 ii (.agg #[.int .i64 0, .int .i64 0, .int .i64 0]) 3 24 Try.underlying27 hii hiz0 hiz1 hiz2 rfl (by decide) _ _ _ rfl HO2.out vp _ (fl3 (RL)) rfl _ HRP.out (fl3_one _) (by unfold maxLen; omega) (by omega) HB2.out.size ?_); intro v8 z8 hown hgrow; have HO8 := Hk.mk hown; have HB8 := Hk.mk (HB2.out.grown hgrow HB2.out.size (fun j hj => (HO2.out.lt j hj).1)); clear hown hgrow))
              obtain ⟨sa2, sc2, rfl⟩ := own_formP HO8.out
              have hLL : hL fr W H (k + 1) = L ++ RL := by show hL fr W H k ++ bH fr W k = _; rw [HL.out, HRL.out]
              exact ⟨⟨k + 1, sa2, sc2, by rw [hLL]; simp, by rw [← HX.out.2.2], by omega, ⟨by have := HO8.out; rw [hLL, fl3_app]; simpa using this⟩, HB8⟩, by have := HX.out; simp [intOf]; omega⟩
          · have d0 : decide ((X1 : Int) < (H : Int)) = false := by simp; omega
            have d0n : decide (X1 < H) = false := by simp; omega
            obtain rfl : k = (H - 1) / 8 := by omega
            clear hX hX1 hX8 hLe g8
            have HLE : Hk (allP fr W H = L) := ⟨HL.out⟩
            by_cases hl0 : L.length = 0
            · have hnil : L = [] := List.eq_nil_of_length_eq_zero hl0
              subst hnil
              as_aux_lemma =>
                go_wp2_with (go_at_call 30; (refine (sortP_none sa sc _ _).mono ?_); rintro e z ⟨rfl, hz⟩; rw [hz]; clear hz z)
                go_ret2
                exact ⟨sa, sc, [], rfl, by rw [HLE.out], List.Pairwise.nil, HO.out, HB.out⟩
            · obtain ⟨g, cap, hv, hg0⟩ := own_openP HO.out (by omega)
              injection hv with hv1 hv2 hv3
              subst hv1 hv3
              have HSP := Hk.mk (sortP_any w.heap.size g sc L wr HO.out (by omega))
              as_aux_lemma =>
                go_wp2_with (go_at_call 30; (refine HSP.out.mono ?_); rintro e z ⟨rfl, L', hp, hs, ho, hgr⟩; have HPE := Hk.mk hp; have HSO := Hk.mk hs; have HO9 := Hk.mk ho; have HB9 := Hk.mk (HB.out.grown hgr HB.out.size (fun j hj => by simp [Value.ownBlock] at hj; omega)); clear hp hs ho hgr)
                go_ret2
                have hl := HPE.out.length_eq
                exact ⟨some ⟨g, 0, none⟩, sc, L', by rw [hl]; rfl, by rw [HLE.out]; exact HPE.out, HSO.out, by rw [hl]; exact HO9.out, HB9.out⟩
end Go.Proofs.Ytcgilmjhbdehpaa
/- Package sector: the tiles beside one, in its sector. -/
namespace Go.Proofs.Ytcgilmjhbdehpaa
open Go.ChangeShapes Go.WideShapes Go.ChangeAt Go.RowKit Go.Deep
set_option linter.unusedVariables false
set_option linter.unusedSimpArgs false
def intsV (l : List Int) : List Value := l.map (Value.int .i64)
def bes1 (W t y : Int) : List Int := if (0 < y % 8) then [t - W] else []
def bes2 (W t x y : Int) : List Int := bes1 W t y ++ (if (x + 1 < W ∧ 0 < (x + 1) % 8) then [t + 1] else [])
def bes3 (W H t x y : Int) : List Int := bes2 W t x y ++ (if (y + 1 < H ∧ 0 < (y + 1) % 8) then [t + W] else [])
def bes4 (W H t x y : Int) : List Int := bes3 W H t x y ++ (if (0 < x % 8) then [t - 1] else [])
theorem bes1_len (W t y : Int) : (bes1 W t y).length ≤ 1 := by unfold bes1; split <;> simp
theorem bes2_len (W t x y : Int) : (bes2 W t x y).length ≤ 2 := by
  have := bes1_len W t y
  unfold bes2; rw [List.length_append]; split <;> simp <;> omega
theorem bes3_len (W H t x y : Int) : (bes3 W H t x y).length ≤ 3 := by
  have := bes2_len W t x y
  unfold bes3; rw [List.length_append]; split <;> simp <;> omega
set_option maxRecDepth 100000 in
set_option maxHeartbeats 3200000 in
theorem sbeside_any (W H t : Int) (w : World) (w1 : 1 ≤ W) (w2 : W ≤ 128) (h1 : 1 ≤ H) (h2 : H ≤ 128) (t0 : 0 ≤ t) (t1 : t < W * H) :
    Calls Try.prog 51 #[.int .i64 W, .int .i64 H, .int .i64 t] w fun e w' => ∃ v, e = .returned v ∧ w'.ownsRow w.heap.size 3 1 v (bes4 W H t (t % W) (t / W)).length (intsV (bes4 W H t (t % W) (t / W))) ∧ Below w.heap.size w w' := by
  obtain ⟨ii, hii, hiz0, hiz1, hiz2⟩ := info_parts info_int
  have hW0 : ¬ W = 0 := by omega
  have tm : t.tmod W = t % W := Int.tmod_eq_emod_of_nonneg (by omega)
  have td : t.tdiv W = t / W := Int.tdiv_eq_ediv_of_nonneg (by omega)
  have hmb := mul_bd w1 w2 h1 h2
  have x0 := Int.emod_nonneg t (show W ≠ 0 by omega)
  have x1 := Int.emod_lt_of_pos t (show 0 < W by omega)
  have y0 : 0 ≤ t / W := Int.ediv_nonneg t0 (by omega)
  have y1 : t / W < H := Int.ediv_lt_of_lt_mul (by omega) (by rw [Int.mul_comm]; exact t1)
  have tb : t ≤ 16384 := by omega
  have hem := Int.emod_add_mul_ediv t W
  have hyw : t / W = 0 ∨ W ≤ t := by
    by_cases c : t / W = 0
    · exact Or.inl c
    · right
      have := Int.mul_le_mul_of_nonneg_left (show 1 ≤ t / W by omega) (show 0 ≤ W by omega)
      omega
  clear hem hmb
  generalize t % W = x at *
  generalize t / W = y at *
  have ry : y.tmod 8 = y % 8 := Int.tmod_eq_emod_of_nonneg y0
  have rx : x.tmod 8 = x % 8 := Int.tmod_eq_emod_of_nonneg x0
  have ry1 : (y + 1).tmod 8 = (y + 1) % 8 := Int.tmod_eq_emod_of_nonneg (by omega)
  have rx1 : (x + 1).tmod 8 = (x + 1) % 8 := Int.tmod_eq_emod_of_nonneg (by omega)
  have HB : Hk (Below w.heap.size w w) := ⟨Below.refl _ _⟩
  go_enter Try.func51, Try.ntmps51
  go_upto_region 1 with fail
  go_quiet (fail)
  replace HB := Hk.mk (below_drewN HB.out nq)
  generalize World.drewN w nq = VR at *
  have wy : wrap64 y = y := by unfold wrap64; omega
  have wy1 : IntKind.i64.wrap (y + 1) = y + 1 := by rw [IntKind.wrap_i64]; omega
  have wx1 : IntKind.i64.wrap (x + 1) = x + 1 := by rw [IntKind.wrap_i64]; omega
  obtain ⟨bI, hbI⟩ : ∃ b : Bool, decide (0 < y % 8) = b := ⟨_, rfl⟩
  have HBI := Hk.mk hbI
  go_upto_if 19 with (at_make; go_must (refine wpList_make_own _ rfl _ _ 23 rfl w.heap.size 3 ii (.int .i64 0) 1 Try.underlying23 hii hiz0 hiz1 .i64 .i64 _ 4 rfl rfl rfl (by rw [hiz2]; omega) (by unfold maxLen; omega) HB.out.size ?_); intro z1 hown hgrow; have HO := Hk.mk hown; have HB1 := Hk.mk (HB.out.trans ((below_grown hgrow).mono HB.out.size)); clear hown hgrow)
  clear HB
  have HB := HB1
  clear HB1
  obtain ⟨WX, hWX⟩ : ∃ WX : World, WX = z1 := ⟨z1, rfl⟩
  subst hWX
  obtain ⟨LP, hLP⟩ : ∃ LP : List Int, [] = LP := ⟨_, rfl⟩
  have hLl : LP.length ≤ 4 := by rw [← hLP]; simp
  have HLP := Hk.mk hLP
  have HO2 : Hk (World.ownsRow WX w.heap.size 3 1 (.slice (some ⟨VR.heap.size, 0, none⟩) 0 4) LP.length (intsV LP)) := ⟨by rw [← hLP]; exact HO.out⟩
  clear HO hLP
  have HO := HO2
  clear HO2
  go_cut [9] (fun v wx => Hk (World.ownsRow wx w.heap.size 3 1 v ((bes1 W t y)).length (intsV ((bes1 W t y)))) ∧ Hk (Below w.heap.size w wx))
  case first =>
    cases bI
    · have hno := of_decide_eq_false HBI.out
      have hL : (bes1 W t y) = LP := by rw [← HLP.out]; simp only [bes1, bes2, bes3, bes4, if_neg hno, List.append_nil]
      go_wp2_with fail
      go_meet
      case rel => exact ⟨by rw [hL]; exact HO, HB⟩
    · have hyes := of_decide_eq_true HBI.out
      have hL : (bes1 W t y) = LP ++ [t - W] := by rw [← HLP.out]; simp only [bes1, bes2, bes3, bes4, if_pos hyes, List.nil_append]
      have we : IntKind.i64.wrap (t - W) = t - W := by rw [IntKind.wrap_i64]; omega
      go_wp2_with (at_builtin; go_must (refine wpList_append_own_at _ rfl _ _ 23 rfl w.heap.size 3 ii (.int .i64 0) 1 8 Try.underlying23 hii hiz0 hiz1 hiz2 rfl (by decide) _ _ _ rfl (HO.out.alloc _) ⟨(WX).heap.size, 0, none⟩ 1 1 [.int .i64 (t - W)] rfl rfl (one_new WX _ _) (one_it _) (by unfold maxLen; omega) (by omega) (by have := HB.out.size; simp; omega) ?_); intro v8 z8 hown hgrow hnil hat; have HO8 := Hk.mk hown; have HB8 := Hk.mk ((HB.out.alloc HB.out.size _).grown hgrow (by have := HB.out.size; simp; omega) (fun j hj => (HO.out.lt j hj).1)); clear hown hgrow hnil hat)
      go_meet
      case rel => exact ⟨⟨by rw [hL]; have := HO8.out; simpa [intsV] using this⟩, HB8⟩
  case rest =>
  obtain ⟨HO, HB⟩ := hcut
  clear hbI HBI HLP hLl
  obtain ⟨WX, hWX⟩ : ∃ WX : World, WX = wc := ⟨wc, rfl⟩
  subst hWX
  obtain ⟨bI, hbI⟩ : ∃ b : Bool, decide (x + 1 < W ∧ 0 < (x + 1) % 8) = b := ⟨_, rfl⟩
  have HBI := Hk.mk hbI
  go_upto_region 5 with fail
  go_cut [35] (fun v wx => v = .bool bI ∧ WX = wx)
  case first =>
    by_cases e2 : x + 1 < W
    · have d1 : decide (x + 1 < W) = true := decide_eq_true e2
      by_cases e3 : 0 < (x + 1) % 8
      · have d2 : decide (0 < (x + 1) % 8) = true := decide_eq_true e3
        have e4 : bI = true := by rw [← hbI]; exact decide_eq_true ⟨e2, e3⟩
        subst e4
        clear hbI HBI
        go_wp2_with fail
        go_meet
        case rel => exact ⟨rfl, rfl⟩
      · have d2 : decide (0 < (x + 1) % 8) = false := decide_eq_false e3
        have e4 : bI = false := by rw [← hbI]; exact decide_eq_false (fun h => e3 h.2)
        subst e4
        clear hbI HBI
        go_wp2_with fail
        go_meet
        case rel => exact ⟨rfl, rfl⟩
    · have d1 : decide (x + 1 < W) = false := decide_eq_false e2
      have e4 : bI = false := by rw [← hbI]; exact decide_eq_false (fun h => e2 h.1)
      subst e4
      clear hbI HBI
      go_wp2_with fail
      go_meet
      case rel => exact ⟨rfl, rfl⟩
  case rest =>
  obtain ⟨rfl, hwx⟩ := hcut
  subst hwx
  go_upto_if 35 with fail
  obtain ⟨LP, hLP⟩ : ∃ LP : List Int, bes1 W t y = LP := ⟨_, rfl⟩
  have hLl : LP.length ≤ 4 := by rw [← hLP]; exact Nat.le_trans (bes1_len _ _ _) (by omega)
  have HLP := Hk.mk hLP
  rw [hLP] at HO
  clear hLP
  go_cut [9] (fun v wx => Hk (World.ownsRow wx w.heap.size 3 1 v ((bes2 W t x y)).length (intsV ((bes2 W t x y)))) ∧ Hk (Below w.heap.size w wx))
  case first =>
    cases bI
    · have hno := of_decide_eq_false HBI.out
      have hL : (bes2 W t x y) = LP := by rw [← HLP.out]; simp only [bes1, bes2, bes3, bes4, if_neg hno, List.append_nil]
      go_wp2_with fail
      go_meet
      case rel => exact ⟨by rw [hL]; exact HO, HB⟩
    · have hyes := of_decide_eq_true HBI.out
      have hL : (bes2 W t x y) = LP ++ [t + 1] := by rw [← HLP.out]; simp only [bes1, bes2, bes3, bes4, if_pos hyes, List.nil_append]
      have we : IntKind.i64.wrap (t + 1) = t + 1 := by rw [IntKind.wrap_i64]; omega
      go_wp2_with (at_builtin; go_must (refine wpList_append_own_at _ rfl _ _ 23 rfl w.heap.size 3 ii (.int .i64 0) 1 8 Try.underlying23 hii hiz0 hiz1 hiz2 rfl (by decide) _ _ _ rfl (HO.out.alloc _) ⟨(WX).heap.size, 0, none⟩ 1 1 [.int .i64 (t + 1)] rfl rfl (one_new WX _ _) (one_it _) (by unfold maxLen; omega) (by omega) (by have := HB.out.size; simp; omega) ?_); intro v8 z8 hown hgrow hnil hat; have HO8 := Hk.mk hown; have HB8 := Hk.mk ((HB.out.alloc HB.out.size _).grown hgrow (by have := HB.out.size; simp; omega) (fun j hj => (HO.out.lt j hj).1)); clear hown hgrow hnil hat)
      go_meet
      case rel => exact ⟨⟨by rw [hL]; have := HO8.out; simpa [intsV] using this⟩, HB8⟩
  case rest =>
  obtain ⟨HO, HB⟩ := hcut
  clear hbI HBI HLP hLl
  obtain ⟨WX, hWX⟩ : ∃ WX : World, WX = wc := ⟨wc, rfl⟩
  subst hWX
  obtain ⟨bI, hbI⟩ : ∃ b : Bool, decide (y + 1 < H ∧ 0 < (y + 1) % 8) = b := ⟨_, rfl⟩
  have HBI := Hk.mk hbI
  go_upto_region 7 with fail
  go_cut [50] (fun v wx => v = .bool bI ∧ WX = wx)
  case first =>
    by_cases e2 : y + 1 < H
    · have d1 : decide (y + 1 < H) = true := decide_eq_true e2
      by_cases e3 : 0 < (y + 1) % 8
      · have d2 : decide (0 < (y + 1) % 8) = true := decide_eq_true e3
        have e4 : bI = true := by rw [← hbI]; exact decide_eq_true ⟨e2, e3⟩
        subst e4
        clear hbI HBI
        go_wp2_with fail
        go_meet
        case rel => exact ⟨rfl, rfl⟩
      · have d2 : decide (0 < (y + 1) % 8) = false := decide_eq_false e3
        have e4 : bI = false := by rw [← hbI]; exact decide_eq_false (fun h => e3 h.2)
        subst e4
        clear hbI HBI
        go_wp2_with fail
        go_meet
        case rel => exact ⟨rfl, rfl⟩
    · have d1 : decide (y + 1 < H) = false := decide_eq_false e2
      have e4 : bI = false := by rw [← hbI]; exact decide_eq_false (fun h => e2 h.1)
      subst e4
      clear hbI HBI
      go_wp2_with fail
      go_meet
      case rel => exact ⟨rfl, rfl⟩
  case rest =>
  obtain ⟨rfl, hwx⟩ := hcut
  subst hwx
  go_upto_if 50 with fail
  obtain ⟨LP, hLP⟩ : ∃ LP : List Int, bes2 W t x y = LP := ⟨_, rfl⟩
  have hLl : LP.length ≤ 4 := by rw [← hLP]; exact Nat.le_trans (bes2_len _ _ _ _) (by omega)
  have HLP := Hk.mk hLP
  rw [hLP] at HO
  clear hLP
  go_cut [9] (fun v wx => Hk (World.ownsRow wx w.heap.size 3 1 v ((bes3 W H t x y)).length (intsV ((bes3 W H t x y)))) ∧ Hk (Below w.heap.size w wx))
  case first =>
    cases bI
    · have hno := of_decide_eq_false HBI.out
      have hL : (bes3 W H t x y) = LP := by rw [← HLP.out]; simp only [bes1, bes2, bes3, bes4, if_neg hno, List.append_nil]
      go_wp2_with fail
      go_meet
      case rel => exact ⟨by rw [hL]; exact HO, HB⟩
    · have hyes := of_decide_eq_true HBI.out
      have hL : (bes3 W H t x y) = LP ++ [t + W] := by rw [← HLP.out]; simp only [bes1, bes2, bes3, bes4, if_pos hyes, List.nil_append]
      have we : IntKind.i64.wrap (t + W) = t + W := by rw [IntKind.wrap_i64]; omega
      go_wp2_with (at_builtin; go_must (refine wpList_append_own_at _ rfl _ _ 23 rfl w.heap.size 3 ii (.int .i64 0) 1 8 Try.underlying23 hii hiz0 hiz1 hiz2 rfl (by decide) _ _ _ rfl (HO.out.alloc _) ⟨(WX).heap.size, 0, none⟩ 1 1 [.int .i64 (t + W)] rfl rfl (one_new WX _ _) (one_it _) (by unfold maxLen; omega) (by omega) (by have := HB.out.size; simp; omega) ?_); intro v8 z8 hown hgrow hnil hat; have HO8 := Hk.mk hown; have HB8 := Hk.mk ((HB.out.alloc HB.out.size _).grown hgrow (by have := HB.out.size; simp; omega) (fun j hj => (HO.out.lt j hj).1)); clear hown hgrow hnil hat)
      go_meet
      case rel => exact ⟨⟨by rw [hL]; have := HO8.out; simpa [intsV] using this⟩, HB8⟩
  case rest =>
  obtain ⟨HO, HB⟩ := hcut
  clear hbI HBI HLP hLl
  obtain ⟨WX, hWX⟩ : ∃ WX : World, WX = wc := ⟨wc, rfl⟩
  subst hWX
  obtain ⟨bI, hbI⟩ : ∃ b : Bool, decide (0 < x % 8) = b := ⟨_, rfl⟩
  have HBI := Hk.mk hbI
  go_upto_if 59 with fail
  obtain ⟨LP, hLP⟩ : ∃ LP : List Int, bes3 W H t x y = LP := ⟨_, rfl⟩
  have hLl : LP.length ≤ 4 := by rw [← hLP]; exact Nat.le_trans (bes3_len _ _ _ _ _) (by omega)
  have HLP := Hk.mk hLP
  rw [hLP] at HO
  clear hLP
  go_cut [9] (fun v wx => Hk (World.ownsRow wx w.heap.size 3 1 v ((bes4 W H t x y)).length (intsV ((bes4 W H t x y)))) ∧ Hk (Below w.heap.size w wx))
  case first =>
    cases bI
    · have hno := of_decide_eq_false HBI.out
      have hL : (bes4 W H t x y) = LP := by rw [← HLP.out]; simp only [bes1, bes2, bes3, bes4, if_neg hno, List.append_nil]
      go_wp2_with fail
      go_meet
      case rel => exact ⟨by rw [hL]; exact HO, HB⟩
    · have hyes := of_decide_eq_true HBI.out
      have hL : (bes4 W H t x y) = LP ++ [t - 1] := by rw [← HLP.out]; simp only [bes1, bes2, bes3, bes4, if_pos hyes, List.nil_append]
      have we : IntKind.i64.wrap (t - 1) = t - 1 := by rw [IntKind.wrap_i64]; omega
      go_wp2_with (at_builtin; go_must (refine wpList_append_own_at _ rfl _ _ 23 rfl w.heap.size 3 ii (.int .i64 0) 1 8 Try.underlying23 hii hiz0 hiz1 hiz2 rfl (by decide) _ _ _ rfl (HO.out.alloc _) ⟨(WX).heap.size, 0, none⟩ 1 1 [.int .i64 (t - 1)] rfl rfl (one_new WX _ _) (one_it _) (by unfold maxLen; omega) (by omega) (by have := HB.out.size; simp; omega) ?_); intro v8 z8 hown hgrow hnil hat; have HO8 := Hk.mk hown; have HB8 := Hk.mk ((HB.out.alloc HB.out.size _).grown hgrow (by have := HB.out.size; simp; omega) (fun j hj => (HO.out.lt j hj).1)); clear hown hgrow hnil hat)
      go_meet
      case rel => exact ⟨⟨by rw [hL]; have := HO8.out; simpa [intsV] using this⟩, HB8⟩
  case rest =>
  obtain ⟨HO, HB⟩ := hcut
  clear hbI HBI HLP hLl
  go_wp2_with fail
  go_ret
  exact ⟨_, rfl, HO.out, HB.out⟩
end Go.Proofs.Ytcgilmjhbdehpaa
/- Plain words of layer 10: neighbours within a sector. -/
namespace Go.Proofs.Ytcgilmjhbdehpaa
open Go.RowKit
set_option linter.unusedVariables false
set_option linter.unusedSimpArgs false
/-- Side by side. -/
def adjS (W : Int) (a b : Nat) : Prop := ((a : Int) % W = (b : Int) % W ∧ ((a : Int) / W = (b : Int) / W + 1 ∨ (b : Int) / W = (a : Int) / W + 1)) ∨ ((a : Int) / W = (b : Int) / W ∧ ((a : Int) % W = (b : Int) % W + 1 ∨ (b : Int) % W = (a : Int) % W + 1))
/-- Of one sector. -/
def secS (W : Int) (a b : Nat) : Prop := (a : Int) % W / 8 = (b : Int) % W / 8 ∧ (a : Int) / W / 8 = (b : Int) / W / 8
/-- Free, side by side, of one sector. -/
def nbN (W : Int) (n : Nat) (fr : Nat → Bool) (a b : Nat) : Prop := (a < n ∧ b < n) ∧ (fr a = true ∧ fr b = true) ∧ secS W a b ∧ adjS W a b
theorem nbN_symm {W : Int} {n : Nat} {fr : Nat → Bool} : ∀ a b, nbN W n fr a b → nbN W n fr b a := fun a b h => by
  obtain ⟨⟨h1, h2⟩, ⟨h3, h4⟩, ⟨h5, h6⟩, h7⟩ := h
  refine ⟨⟨h2, h1⟩, ⟨h4, h3⟩, ⟨h5.symm, h6.symm⟩, ?_⟩
  unfold adjS at *
  omega
theorem nbN_lt {W : Int} {n : Nat} {fr : Nat → Bool} : ∀ a b, nbN W n fr a b → b < n := fun a b h => h.1.2
theorem nbN_free {W : Int} {n : Nat} {fr : Nat → Bool} : ∀ a b, nbN W n fr a b → fr a = true ∧ fr b = true := fun a b h => h.2.1
theorem mem_if {α : Type} {x y : α} {p : Prop} [Decidable p] : x ∈ (if p then [y] else []) ↔ p ∧ x = y := by
  by_cases h : p
  · simp [h]
  · simp [h]
theorem bes4_iff {W H t x y u : Int} : u ∈ bes4 W H t x y ↔ (0 < y % 8 ∧ u = t - W) ∨ ((x + 1 < W ∧ 0 < (x + 1) % 8) ∧ u = t + 1) ∨ ((y + 1 < H ∧ 0 < (y + 1) % 8) ∧ u = t + W) ∨ (0 < x % 8 ∧ u = t - 1) := by
  unfold bes4 bes3 bes2 bes1
  simp only [List.mem_append, mem_if]
  constructor
  · rintro (((h | h) | h) | h)
    · exact Or.inl h
    · exact Or.inr (Or.inl h)
    · exact Or.inr (Or.inr (Or.inl h))
    · exact Or.inr (Or.inr (Or.inr h))
  · rintro (h | h | h | h)
    · exact Or.inl (Or.inl (Or.inl h))
    · exact Or.inl (Or.inl (Or.inr h))
    · exact Or.inl (Or.inr h)
    · exact Or.inr h
theorem at_uniq {W x y x' y' : Int} (hW : 1 ≤ W) (x0 : 0 ≤ x) (x1 : x < W) (x2 : 0 ≤ x') (x3 : x' < W) (h : x + W * y = x' + W * y') : x = x' ∧ y = y' := by
  have a : (x + W * y) % W = x := by rw [Int.add_mul_emod_self_left, Int.emod_eq_of_lt x0 x1]
  have b : (x' + W * y') % W = x' := by rw [Int.add_mul_emod_self_left, Int.emod_eq_of_lt x2 x3]
  have c : (x + W * y) / W = y := by rw [Int.add_mul_ediv_left _ _ (by omega), Int.ediv_eq_zero_of_lt x0 x1]; omega
  have d : (x' + W * y') / W = y' := by rw [Int.add_mul_ediv_left _ _ (by omega), Int.ediv_eq_zero_of_lt x2 x3]; omega
  rw [h] at a c
  exact ⟨by omega, by omega⟩
theorem xy_of20 {W x y : Int} {j : Nat} (h : (j : Int) = x + W * y) (x0 : 0 ≤ x) (x1 : x < W) : (j : Int) % W = x ∧ (j : Int) / W = y := by
  rw [h, Int.add_mul_emod_self_left, Int.add_mul_ediv_left _ _ (by omega), Int.emod_eq_of_lt x0 x1, Int.ediv_eq_zero_of_lt x0 x1]
  exact ⟨rfl, by omega⟩
/-- The list of a tile's neighbours holds just those of its sector. -/
theorem bes_mem {W H : Int} {n t : Nat} (hW : 1 ≤ W) (hn : (n : Int) = W * H) (ht : t < n) {u : Int} : u ∈ bes4 W H t ((t : Int) % W) ((t : Int) / W) ↔ ∃ b : Nat, u = (b : Int) ∧ b < n ∧ secS W t b ∧ adjS W t b := by
  have x0 := Int.emod_nonneg (t : Int) (show W ≠ 0 by omega)
  have x1 := Int.emod_lt_of_pos (t : Int) (show 0 < W by omega)
  have y0 : 0 ≤ (t : Int) / W := Int.ediv_nonneg (by omega) (by omega)
  have y1 : (t : Int) / W < H := Int.ediv_lt_of_lt_mul (by omega) (by rw [Int.mul_comm]; omega)
  have em := Int.emod_add_mul_ediv (t : Int) W
  rw [bes4_iff]
  constructor
  · have key : ∀ x y : Int, u = x + W * y → 0 ≤ x → x < W → 0 ≤ y → y < H → ((t : Int) % W / 8 = x / 8 ∧ (t : Int) / W / 8 = y / 8) → (((t : Int) % W = x ∧ ((t : Int) / W = y + 1 ∨ y = (t : Int) / W + 1)) ∨ ((t : Int) / W = y ∧ ((t : Int) % W = x + 1 ∨ x = (t : Int) % W + 1))) → ∃ b : Nat, u = (b : Int) ∧ b < n ∧ secS W t b ∧ adjS W t b := by
      intro x y hu a b c d e f
      have q : W * (y + 1) ≤ W * H := Int.mul_le_mul_of_nonneg_left (by omega) (by omega)
      have q2 : 0 ≤ W * y := Int.mul_nonneg (by omega) c
      rw [Int.mul_add] at q
      obtain ⟨b', hb⟩ : ∃ b' : Nat, u = (b' : Int) := ⟨u.toNat, by omega⟩
      have hb2 : (b' : Int) = x + W * y := by omega
      obtain ⟨bx, by'⟩ := xy_of20 hb2 a b
      refine ⟨b', hb, by omega, ?_, ?_⟩
      · unfold secS; rw [bx, by']; exact e
      · unfold adjS; rw [bx, by']; exact f
    generalize (t : Int) % W = x at *
    generalize (t : Int) / W = y at *
    rintro (⟨h, e⟩ | ⟨⟨h, h2⟩, e⟩ | ⟨⟨h, h2⟩, e⟩ | ⟨h, e⟩)
    · exact key x (y - 1) (by rw [e, Int.mul_sub]; omega) x0 x1 (by omega) (by omega) (by omega) (by omega)
    · exact key (x + 1) y (by omega) (by omega) (by omega) y0 y1 (by omega) (by omega)
    · exact key x (y + 1) (by rw [e, Int.mul_add]; omega) x0 x1 (by omega) (by omega) (by omega) (by omega)
    · exact key (x - 1) y (by omega) (by omega) (by omega) y0 y1 (by omega) (by omega)
  · rintro ⟨b, rfl, hb, ⟨s1, s2⟩, ha⟩
    have bx0 := Int.emod_nonneg (b : Int) (show W ≠ 0 by omega)
    have bx1 := Int.emod_lt_of_pos (b : Int) (show 0 < W by omega)
    have by0 : 0 ≤ (b : Int) / W := Int.ediv_nonneg (by omega) (by omega)
    have by1 : (b : Int) / W < H := Int.ediv_lt_of_lt_mul (by omega) (by rw [Int.mul_comm]; omega)
    have eb := Int.emod_add_mul_ediv (b : Int) W
    unfold adjS at ha
    generalize (t : Int) % W = x at *
    generalize (t : Int) / W = y at *
    generalize (b : Int) % W = bx at *
    generalize (b : Int) / W = by' at *
    rcases ha with ⟨e, e2 | e2⟩ | ⟨e, e2 | e2⟩
    · left
      subst e e2
      rw [Int.mul_add] at em
      exact ⟨by omega, by omega⟩
    · right; right; left
      subst e e2
      rw [Int.mul_add] at eb
      exact ⟨⟨by omega, by omega⟩, by omega⟩
    · right; right; right
      subst e e2
      exact ⟨by omega, by omega⟩
    · right; left
      subst e e2
      exact ⟨⟨by omega, by omega⟩, by omega⟩
/-- Two numbers of sectors are one where the sectors are. -/
theorem ofS_iff {W : Int} {a b : Nat} (hW : 1 ≤ W) : Fx.ofS W a = Fx.ofS W b ↔ secS W a b := by
  have a0 := Int.emod_nonneg (a : Int) (show W ≠ 0 by omega)
  have a1 := Int.emod_lt_of_pos (a : Int) (show 0 < W by omega)
  have b0 := Int.emod_nonneg (b : Int) (show W ≠ 0 by omega)
  have b1 := Int.emod_lt_of_pos (b : Int) (show 0 < W by omega)
  unfold Fx.ofS secS
  constructor
  · intro h
    exact at_uniq (by unfold Fx.acS; omega) (by omega) (by unfold Fx.acS; omega) (by omega) (by unfold Fx.acS; omega) h
  · rintro ⟨e1, e2⟩
    rw [e1, e2]
end Go.Proofs.Ytcgilmjhbdehpaa
