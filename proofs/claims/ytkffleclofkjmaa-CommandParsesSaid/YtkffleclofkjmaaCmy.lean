/- Parse and the reference's Parse by one word; numbers that the caller has made are written over. -/
import Derived.Test.YtkffleclofkjmaaCmo
import Derived.Test.YtkffleclofkjmaaCmt
import Derived.Test.YtkffleclofkjmaaCmu
import Derived.Test.YtkffleclofkjmaaCmv
import Derived.Test.YtkffleclofkjmaaCms
namespace Go.Proofs.Ytkffleclofkjmaa
open Go.RowKit
set_option linter.unusedVariables false
theorem rparse_any (a0 : Option Addr) (n0 c0 : Nat) (xs : List Int) (w : World) (hby : By w w.heap.size a0 n0 xs) (hnc : n0 ≤ c0) (hcm : c0 ≤ 9223372036854775807) (hnm : n0 ≤ 1099511627776) (han : a0 = none → c0 = 0) :
    Calls Try.prog 25 #[.slice a0 n0 c0] w (ParseR (parC xs) w) := by
  have hk := rdV_bd (sg := false) (xs := xs) (lo := 1) (hi := 7) (at_ := 0) (e := 0) (z := (rdV false xs 1 7 0 0).1) (at' := (rdV false xs 1 7 0 0).2.1) (e' := (rdV false xs 1 7 0 0).2.2) rfl
  have hc : (rdV false xs 1 7 0 0).1 = 0 ∨ (rdV false xs 1 7 0 0).1 = 1 ∨ (rdV false xs 1 7 0 0).1 = 2 ∨ (rdV false xs 1 7 0 0).1 = 3 ∨ (rdV false xs 1 7 0 0).1 = 4 ∨ (rdV false xs 1 7 0 0).1 = 5 ∨ (rdV false xs 1 7 0 0).1 = 6 ∨ (rdV false xs 1 7 0 0).1 = 7 := by omega
  rcases hc with h | h | h | h | h | h | h | h
  · exact rparse0 a0 n0 c0 xs w ⟨h⟩ hby hnc hcm hnm han
  · exact rparse1 a0 n0 c0 xs w ⟨h⟩ hby hnc hcm hnm han
  · exact rparse2 a0 n0 c0 xs w ⟨h⟩ hby hnc hcm hnm han
  · exact rparse3 a0 n0 c0 xs w ⟨h⟩ hby hnc hcm hnm han
  · exact rparse4 a0 n0 c0 xs w ⟨h⟩ hby hnc hcm hnm han
  · exact rparse5 a0 n0 c0 xs w ⟨h⟩ hby hnc hcm hnm han
  · exact rparse6 a0 n0 c0 xs w ⟨h⟩ hby hnc hcm hnm han
  · exact rparse7 a0 n0 c0 xs w ⟨h⟩ hby hnc hcm hnm han
/-- What is told: all of it, or the error alone. -/
def normC (r : Int × Int × Int × CF × Nat × Int) : Int × Int × Int × CF × Nat × Int := if r.2.2.2.2.2 = 0 then r else (0, 0, 0, zeroF, 0, r.2.2.2.2.2)
def ParseN (P S K N : Int) (U : List Int) (T W H X Y : Int) (at' : Nat) (E : Int) (w : World) (o : Ending) (w' : World) : Prop :=
  ∃ a m c, o = .returned (.tuple #[.agg #[.int .i64 P, .int .i64 S, .int .i64 K, .int .i64 N, .slice a m c, .int .i64 T, .int .i64 W, .int .i64 H, .int .i64 X, .int .i64 Y], .int .i64 (at' : Nat), .int .i64 E]) ∧ OwnI w' w.heap.size (.slice a m c) m U ∧ m ≤ c ∧ Below w.heap.size w w'
theorem parseN_of {xs : List Int} {P S K N : Int} {U : List Int} {T W H X Y : Int} {at' : Nat} {E : Int} {w : World} {o : Ending} {w' : World} (h : ParseR (parC xs) w o w') (hE : Hk (normC (parC xs) = (K, P, S, ⟨N, U, T, W, H, X, Y⟩, at', E))) : ParseN P S K N U T W H X Y at' E w o w' := by
  have hn := hE.out
  unfold normC at hn
  rcases h with ⟨hb, ⟨e, he, h1, h2⟩ | ⟨p, s, k, n, a, m, c, u, t, wd, h, x, y, at1, h1, h2, h3, h4⟩⟩
  · rw [h1, if_neg he] at hn
    simp [zeroF] at hn
    obtain ⟨rfl, rfl, rfl, ⟨rfl, rfl, rfl, rfl, rfl, rfl, rfl⟩, rfl, rfl⟩ := hn
    exact ⟨none, 0, 0, h2, OwnI.nil _ _, Nat.le_refl _, hb⟩
  · rw [h1] at hn
    simp at hn
    obtain ⟨rfl, rfl, rfl, ⟨rfl, rfl, rfl, rfl, rfl, rfl, rfl⟩, rfl, rfl⟩ := hn
    exact ⟨a, m, c, h4, h2, h3, hb⟩
theorem okC_ulen {p s k : Int} {f : CF} (hk : okC p s k f = true) : f.u.length ≤ 64 := by
  rw [refC_eq] at hk
  unfold refC at hk
  simp only [Bool.and_eq_true] at hk
  have h2 := hk.2
  (repeat' split at h2) <;> simp [vB, idsB] at h2 <;> first | omega | simp_all
theorem parC_len {xs : List Int} (hx : ∀ b ∈ xs, Fn.Byt b) {K P S : Int} {F : CF} {at' : Nat} {E : Int} (h : normC (parC xs) = (K, P, S, F, at', E)) : F.u.length ≤ 64 := by
  unfold normC at h
  by_cases h0 : (parC xs).2.2.2.2.2 = 0
  · rw [if_pos h0] at h
    have e0 : E = 0 := by rw [h] at h0; exact h0
    subst e0
    exact okC_ulen (par_ok hx h).1
  · rw [if_neg h0] at h
    simp at h
    obtain ⟨_, _, _, rfl, _⟩ := h
    simp [zeroF]
theorem OwnI.set_ {w : World} {base n c g : Nat} {xs : List Int} (h : OwnI w base (.slice (some ⟨g, 0, none⟩) n c) n xs) (j : Nat) (y : Int) : OwnI (w.setCell ⟨g, j, none⟩ (.int .i64 y)) base (.slice (some ⟨g, 0, none⟩) n c) n (xs.set j y) := by
  refine ⟨by rw [List.length_set]; exact h.1, ?_⟩
  have := (h.2.stored j (.int .i64 y)).1
  rwa [List.map_set]
theorem OwnI.fst {w : World} {base n : Nat} {v : Value} {xs : List Int} (h : OwnI w base v n xs) : ∃ a c, v = .slice a n c ∧ (0 < n → ∃ g, a = some ⟨g, 0, none⟩ ∧ base ≤ g) := by
  rcases h.2.2 with ⟨e, e2⟩ | ⟨g, cap, cur, e, hg, _⟩
  · subst e2; exact ⟨none, 0, e, fun h => absurd h (by omega)⟩
  · exact ⟨_, _, e, fun _ => ⟨g, rfl, hg⟩⟩
/-- Numbers that the caller has made are written over. -/
theorem lawnums_any (B0 : Nat) (w : World) (v : Value) (n : Nat) (xs : List Int) (h : OwnI w B0 v n xs) (hb : B0 ≤ w.heap.size) (hn : n ≤ 1048576) :
    Calls Try.prog 26 #[v] w fun e w' => e = .returned (.tuple #[]) ∧ Below B0 w w' := by
  obtain ⟨i0, hi, hz0, hz1, hz2⟩ := info_parts info_i
  obtain ⟨a, c, rfl, hfs⟩ := h.fst
  have HO := Hk.mk h
  have HF := Hk.mk hfs
  clear h hfs
  go_enter Try.func26, Try.ntmps26
  go_wp2
  go_loopw [2] (fun i wr => ∃ (k : Nat), i = .int .i64 k ∧ k ≤ n ∧ Hk (∃ ys, OwnI wr B0 (.slice a n c) n ys) ∧ Hk (Below B0 w wr)) (fun i _ => n - (intOf i).toNat)
  case atStart => exact ⟨0, rfl, by omega, ⟨_, HO.out⟩, ⟨Below.refl _ _⟩⟩
  case round =>
    obtain ⟨k, rfl, hk, HP, HB⟩ := hrel
    obtain ⟨ys, hys⟩ := HP.out
    have hsz := HB.out.size
    by_cases hlt : k < n
    · obtain ⟨g, rfl, hgb⟩ := HF.out (by omega)
      obtain ⟨a2, c2, e2, -, hy2⟩ := hys.nq
      injection e2 with e3 e4 e5
      subst e3
      obtain ⟨g2, o2, e6, -, hc2⟩ := hy2.at_ (by omega)
      simp only [Option.some.injEq, Addr.mk.injEq] at e6
      obtain ⟨rfl, rfl, -⟩ := e6
      have hcx := hc2 k hlt
      rw [Nat.zero_add] at hcx
      have hfz : wr.frozen? ⟨g, k, none⟩ = false := hys.2.frozenAt k
      have HO3 := Hk.mk (hys.set_ k (-99))
      clear hc2 hy2 hys HP
      have i1 : (0 : Int) ≤ (k : Int) := by omega
      have i2 : (k : Int) < (n : Int) := by omega
      go_wp2
      go_roundw
      case rel => exact ⟨k + 1, by go_num, by omega, ⟨_, HO3.out⟩, ⟨HB.out.setCell hgb _⟩⟩
      case measure => simp [intOf]; omega
    · obtain rfl : k = n := by omega
      have hown := hys.2
      have HYS := Hk.mk hys
      clear hys HP
      go_wp2_with (at_builtin; refine wpList_append_own _ rfl _ _ 24 rfl B0 3 i0 (.int .i64 0) 1 8 Try.underlying24 hi hz0 hz1 hz2 rfl (by decide) _ _ _ rfl (hown.alloc _) ⟨wr.heap.size, 0, none⟩ 1 1 [.int .i64 5] rfl rfl ?_ ?_ ?_ ?_ ?_ ?_; (exact one_new _ _ _); (intro u hu; simp at hu; subst hu; rfl); (unfold maxLen; omega); (omega); (simp; omega); intro v' w1 hown' hgrow _)
      go_end0
      exact ⟨rfl, (HB.out.alloc (by omega) _).grown hgrow (by simp; omega) (fun g hg => (HYS.out.lt g hg).1)⟩
end Go.Proofs.Ytkffleclofkjmaa
