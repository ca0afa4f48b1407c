import Derived.Deep.QuietTactic
import Derived.BigQuiet
import Derived.Deep.RegionWith
import Derived.Deep.RegionHeld3
import Derived.Deep.DeepCutAuto
import Derived.Deep.DeepFit
import Derived.Outline
import Derived.Test.YtcgilmjhbdehpaaZbj
import Derived.Test.YtcgilmjhbdehpaaZba
import Derived.Test.YtcgilmjhbdehpaaZbe
/- Plain words of layer 20: the first N of them; two rows of one's own. -/
namespace Go.Proofs.Ytcgilmjhbdehpaa
open Go.ChangeShapes Go.WideShapes Go.ChangeAt Go.RowKit Go.Deep
set_option linter.unusedVariables false
set_option linter.unusedSimpArgs false
theorem take_more {α : Type} {l : List α} {N : Nat} {x : α} (h : (l.take N).length < N) : (l ++ [x]).take N = l.take N ++ [x] := by
  have hl : l.length < N := by rw [List.length_take] at h; omega
  rw [List.take_of_length_le (by simp; omega), List.take_of_length_le (by omega)]
theorem take_full {α : Type} {l : List α} {N : Nat} (r : List α) (h : ¬ (l.take N).length < N) : (l ++ r).take N = l.take N := by
  have hl : N ≤ l.length := by rw [List.length_take] at h; omega
  rw [List.take_append_of_le_length hl]
theorem filter_take_succ {α : Type} {l : List α} {p : α → Bool} {j : Nat} (h : j < l.length) : (l.take (j + 1)).filter p = (l.take j).filter p ++ (if p l[j] = true then [l[j]] else []) := by
  rw [List.take_succ_eq_append_getElem h, List.filter_append]
  congr 1
  by_cases e : p l[j] = true
  · rw [if_pos e, List.filter_cons_of_pos e]; rfl
  · rw [if_neg e, List.filter_cons_of_neg e]; rfl
theorem slL_pre (W : Int) (g n : Nat) (gd : Nat → Bool) (gap : Int) (f : Nat) : ∀ k, ∃ r, slL W g n gd gap (f + k) = slL W g n gd gap f ++ r
  | 0 => ⟨[], by simp⟩
  | k + 1 => by
    obtain ⟨r, hr⟩ := slL_pre W g n gd gap f k
    refine ⟨r ++ slF W g n gd gap ((f + k : Nat) : Int), ?_⟩
    show slL W g n gd gap (f + k) ++ _ = _
    rw [hr, List.append_assoc]
    rfl
theorem ring_far {W H : Int} {n g : Nat} {gap d : Int} (hW : 1 ≤ W) (hn : (n : Int) = W * H) (hg : g < n) (hd : W + H ≤ d) : ringL W g n gap d = [] := by
  unfold ringL
  rw [List.filter_eq_nil_iff]
  intro t ht hh
  have ht := List.mem_range.1 ht
  have h1 := (slX_iff _ _ _ _).1 hh
  have a0 := Int.emod_nonneg (t : Int) (show W ≠ 0 by omega)
  have a1 := Int.emod_lt_of_pos (t : Int) (show 0 < W by omega)
  have a2 : 0 ≤ (t : Int) / W := Int.ediv_nonneg (by omega) (by omega)
  have a3 : (t : Int) / W < H := Int.ediv_lt_of_lt_mul (by omega) (by rw [Int.mul_comm]; omega)
  have b0 := Int.emod_nonneg (g : Int) (show W ≠ 0 by omega)
  have b1 := Int.emod_lt_of_pos (g : Int) (show 0 < W by omega)
  have b2 : 0 ≤ (g : Int) / W := Int.ediv_nonneg (by omega) (by omega)
  have b3 : (g : Int) / W < H := Int.ediv_lt_of_lt_mul (by omega) (by rw [Int.mul_comm]; omega)
  omega
theorem slL_far {W H : Int} {n g : Nat} {gd : Nat → Bool} {gap : Int} (hW : 1 ≤ W) (hn : (n : Int) = W * H) (hg : g < n) {f : Nat} (hf : W + H ≤ (f : Int)) : ∀ k, slL W g n gd gap (f + k) = slL W g n gd gap f
  | 0 => rfl
  | k + 1 => by
    show slL W g n gd gap (f + k) ++ slF W g n gd gap ((f + k : Nat) : Int) = _
    rw [slL_far hW hn hg hf k]
    unfold slF
    rw [ring_far hW hn hg (by omega)]
    simp
/-- All places that are asked for. -/
def slA (W H : Int) (g n : Nat) (gd : Nat → Bool) (gap : Int) (N : Nat) : List Nat := (slL W g n gd gap (W + H + 1).toNat).take N
theorem slA_end {W H : Int} {n g : Nat} {gd : Nat → Bool} {gap : Int} {N f : Nat} (hW : 1 ≤ W) (hH : 1 ≤ H) (hn : (n : Int) = W * H) (hg : g < n) (h : ¬ ((f : Int) ≤ W + H ∧ ((slL W g n gd gap f).take N).length < N)) : (slL W g n gd gap f).take N = slA W H g n gd gap N := by
  unfold slA
  by_cases c : (f : Int) ≤ W + H
  · obtain ⟨r, hr⟩ := slL_pre W g n gd gap f ((W + H + 1).toNat - f)
    rw [show f + ((W + H + 1).toNat - f) = (W + H + 1).toNat by omega] at hr
    rw [hr, take_full r (fun q => h ⟨c, q⟩)]
  · have := slL_far (gd := gd) (gap := gap) (f := (W + H + 1).toNat) hW hn hg (by omega) (f - (W + H + 1).toNat)
    rw [show (W + H + 1).toNat + (f - (W + H + 1).toNat) = f by omega] at this
    rw [this]
theorem slA_len (W H : Int) (g n : Nat) (gd : Nat → Bool) (gap : Int) (N : Nat) : (slA W H g n gd gap N).length ≤ N := by
  unfold slA; rw [List.length_take]; omega
/-- Two rows of numbers of one's own, apart. -/
structure Sq (w : World) (S : Nat) (v v' : Value) (A R : List Nat) : Prop where
  rf : w.ownsRow S 3 1 v A.length (natsL A)
  rr : w.ownsRow S 3 1 v' R.length (natsL R)
  ap : v.ownBlock = none ∨ v'.ownBlock = none ∨ v.ownBlock ≠ v'.ownBlock
theorem Sq.later {w w' : World} {S : Nat} {v v' : Value} {A R : List Nat} (h : Sq w S v v' A R) (hb : Below w.heap.size w w') : Sq w' S v v' A R :=
  ⟨(Fr.of_below hb).row h.rf (fun j hj hm => by have := (h.rf.lt j hj).2; omega), (Fr.of_below hb).row h.rr (fun j hj hm => by have := (h.rr.lt j hj).2; omega), h.ap⟩
theorem Sq.of {w w' : World} {S : Nat} {v v' : Value} {A R : List Nat} (h : w.ownsRow S 3 1 v A.length (natsL A)) (hb : Below w.heap.size w w') (hS : S ≤ w.heap.size) (h' : w'.ownsRow w.heap.size 3 1 v' R.length (natsL R)) : Sq w' S v v' A R := by
  refine ⟨(Fr.of_below hb).row h (fun j hj hm => by have := (h.lt j hj).2; omega), own_le20 h' hS, ?_⟩
  by_cases c : v.ownBlock = none
  · exact Or.inl c
  · obtain ⟨j, hj⟩ := Option.ne_none_iff_exists'.1 c
    right
    right
    rw [hj]
    intro e
    have a := (h.lt j hj).2
    have b := (h'.lt j e.symm).1
    omega
theorem Sq.put {w z : World} {S t : Nat} {v v' u : Value} {A R : List Nat} (h : Sq w S v v' A R) (hown : z.ownsRow S 3 1 u (A.length + 1) (natsL A ++ [.int .i64 (t : Nat)])) (hg : w.grownBy z v.ownBlock) (hat : u.ownBlock = v.ownBlock ∨ u.ownBlock = some w.heap.size) : Sq z S u v' (A ++ [t]) R := by
  refine ⟨by simpa [natsL] using hown, h.rr.kept hg ?_, ?_⟩
  · rcases h.ap with e | e | e
    · by_cases c : v'.ownBlock = none
      · exact Or.inl c
      · right; rw [e]; exact c
    · exact Or.inl e
    · exact Or.inr fun e' => e e'.symm
  · rcases hat with e | e
    · rw [e]; exact h.ap
    · by_cases c : v'.ownBlock = none
      · exact Or.inr (Or.inl c)
      right
      right
      rw [e]
      intro e'
      have := (h.rr.lt _ e'.symm).2
      omega
theorem own_form20 {w : World} {S : Nat} {v : Value} {R : List Nat} (h : w.ownsRow S 3 1 v R.length (natsL R)) : ∃ a c, v = .slice a R.length c ∧ (0 < R.length → ∃ g, a = some ⟨g, 0, none⟩) := by
  rcases h.2 with ⟨e, h0⟩ | ⟨g, cap, cur, e, _⟩
  · exact ⟨none, 0, by rw [h0]; exact e, fun q => by omega⟩
  · exact ⟨_, _, e, fun _ => ⟨g, rfl⟩⟩
theorem own_at20 {w : World} {S g c j : Nat} {R : List Nat} (h : w.ownsRow S 3 1 (.slice (some ⟨g, 0, none⟩) R.length c) R.length (natsL R)) (hj : j < R.length) : w.cell? ⟨g, j, none⟩ = some (.int .i64 (R[j] : Nat)) := by
  rw [h.cellAt j (by omega)]
  simp [natsL, hj]
end Go.Proofs.Ytcgilmjhbdehpaa
/- Package portal: the portals along a border. -/
namespace Go.Proofs.Ytcgilmjhbdehpaa
open Go.ChangeShapes Go.WideShapes Go.ChangeAt Go.RowKit Go.Deep
set_option linter.unusedVariables false
set_option linter.unusedSimpArgs false
def c3 (p : Int × Int × Int) : List Value := [.int .i64 p.1, .int .i64 p.2.1, .int .i64 p.2.2]
def fl3 (l : List (Int × Int × Int)) : List Value := l.flatMap c3
theorem fl3_len (l : List (Int × Int × Int)) : (fl3 l).length = l.length * 3 := by
  induction l with
  | nil => rfl
  | cons a l ih => show (c3 a ++ fl3 l).length = _; rw [List.length_append, ih]; simp [c3]; omega
theorem fl3_app (l m : List (Int × Int × Int)) : fl3 (l ++ m) = fl3 l ++ fl3 m := List.flatMap_append
theorem fl3_one (l : List (Int × Int × Int)) : ∀ u ∈ fl3 l, u.oneCell' = true := fun u hu => by
  obtain ⟨p, _, h⟩ := List.mem_flatMap.1 hu
  simp [c3] at h
  rcases h with rfl | rfl | rfl <;> rfl
theorem fl3_at (l : List (Int × Int × Int)) (k : Nat) (h : k < l.length) : (fl3 l)[k * 3]? = some (.int .i64 l[k].1) ∧ (fl3 l)[k * 3 + 1]? = some (.int .i64 l[k].2.1) ∧ (fl3 l)[k * 3 + 2]? = some (.int .i64 l[k].2.2) := by
  induction l generalizing k with
  | nil => exact absurd h (by simp)
  | cons a l ih =>
    show (c3 a ++ fl3 l)[k * 3]? = _ ∧ (c3 a ++ fl3 l)[k * 3 + 1]? = _ ∧ (c3 a ++ fl3 l)[k * 3 + 2]? = _
    cases k with
    | zero => exact ⟨rfl, rfl, rfl⟩
    | succ k =>
      have := ih k (by simpa using h)
      rw [List.getElem?_append_right (by simp [c3]; omega), List.getElem?_append_right (by simp [c3]; omega), List.getElem?_append_right (by simp [c3]; omega)]
      rw [show (k + 1) * 3 - (c3 a).length = k * 3 by simp [c3]; omega, show (k + 1) * 3 + 1 - (c3 a).length = k * 3 + 1 by simp [c3]; omega, show (k + 1) * 3 + 2 - (c3 a).length = k * 3 + 2 by simp [c3]; omega]
      simpa using this
theorem ownp_later {w w' : World} {base n : Nat} {v : Value} {xs : List Value} (h : w.ownsRow base 41 3 v n xs) (hb : Below w.heap.size w w') : w'.ownsRow base 41 3 v n xs :=
  (Fr.of_below hb).row h (fun j hj hm => by have := (h.lt j hj).2; omega)
theorem ownp_drew {w : World} {base n : Nat} {v : Value} {xs : List Value} (h : w.ownsRow base 41 3 v n xs) : w.drew.ownsRow base 41 3 v n xs := h
theorem info_pt : (Try.prog.info? 41).map (fun i => (i.zero, i.size, i.bytes)) = some (some (.agg #[.int .i64 0, .int .i64 0, .int .i64 0]), 3, 24) := by kernel_rfl
theorem three_at (w : World) (p : Int × Int × Int) (t : TypeId) : ∀ (j : Nat) (u : Value), (c3 p)[j]? = some u → (w.alloc (.cells #[.int .i64 p.1, .int .i64 p.2.1, .int .i64 p.2.2] t)).cell? ((⟨w.heap.size, 0, none⟩ : Addr).add j) = some u := by
  intro j u hj
  match j, hj with
  | 0, hj => simp [c3] at hj; subst hj; simp [Addr.add]
  | 1, hj => simp [c3] at hj; subst hj; simp [Addr.add]
  | 2, hj => simp [c3] at hj; subst hj; simp [Addr.add]
theorem tile11_as (f al ac n i r : Int) (w : World) (R : Hk (f + i * al = r)) (hb : Hk (-1000000 ≤ i * al ∧ i * al ≤ 1000000 ∧ -1000000 ≤ r ∧ r ≤ 1000000)) :
    Calls Try.prog 46 #[.agg #[.int .i64 f, .int .i64 al, .int .i64 ac, .int .i64 n], .int .i64 i] w fun e w' => e = .returned (.int .i64 r) ∧ Below w.heap.size w w' := by
  obtain ⟨P, hP⟩ : ∃ P, i * al = P := ⟨_, rfl⟩
  have e1 : IntKind.i64.wrap (i * al) = P := by rw [hP]; rw [IntKind.wrap_i64]; have := hb.out; rw [hP] at this; omega
  have e2 : IntKind.i64.wrap (f + P) = r := by have h1 := hb.out; have h2 := R.out; rw [hP] at h1 h2; rw [IntKind.wrap_i64]; omega
  clear R hb hP
  go_enter Try.func46, Try.ntmps46
  go_wp2
  go_ret
  exact ⟨rfl, (Below.refl _ _).alloc (Nat.le_refl _) _⟩
end Go.Proofs.Ytcgilmjhbdehpaa
