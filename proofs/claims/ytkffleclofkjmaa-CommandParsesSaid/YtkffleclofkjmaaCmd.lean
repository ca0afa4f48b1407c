/- Commands compared, copied; whether one may be, by the reference. -/
import Derived.Test.YtkffleclofkjmaaCmc
namespace Go.Proofs.Ytkffleclofkjmaa
open Go.RowKit
set_option linter.unusedVariables false
/-- Are all parts of two commands the same? -/
def eqcB (p s k n : Int) (u : List Int) (t wd h x y p' s' k' n' : Int) (u' : List Int) (t' wd' h' x' y' : Int) : Bool := decide (p = p' ∧ s = s' ∧ k = k' ∧ n = n' ∧ u = u' ∧ t = t' ∧ wd = wd' ∧ h = h' ∧ x = x' ∧ y = y')
set_option maxHeartbeats 1600000 in
theorem eqc_as (r : Bool) (p s k n : Int) (a : Option Addr) (m c : Nat) (u : List Int) (t wd h x y : Int) (p' s' k' n' : Int) (a' : Option Addr) (m' c' : Nat) (u' : List Int) (t' wd' h' x' y' : Int) (w : World) (hN : Nq w w.heap.size a m u) (hm : m ≤ 1099511627776) (hN' : Nq w w.heap.size a' m' u') (hm' : m' ≤ 1099511627776)
    (E : Hk (eqcB p s k n u t wd h x y p' s' k' n' u' t' wd' h' x' y' = r)) :
    Calls Try.prog 21 #[.agg #[.int .i64 p, .int .i64 s, .int .i64 k, .int .i64 n, .slice a m c, .int .i64 t, .int .i64 wd, .int .i64 h, .int .i64 x, .int .i64 y], .agg #[.int .i64 p', .int .i64 s', .int .i64 k', .int .i64 n', .slice a' m' c', .int .i64 t', .int .i64 wd', .int .i64 h', .int .i64 x', .int .i64 y']] w fun e w' => e = .returned (.bool r) ∧ Below w.heap.size w w' := by
  have E : Hk (decide (p = p' ∧ s = s' ∧ k = k' ∧ n = n' ∧ u = u' ∧ t = t' ∧ wd = wd' ∧ h = h' ∧ x = x' ∧ y = y') = r) := E
  have HBW : Hk (Below w.heap.size w ((w.alloc (.cells #[.int .i64 p, .int .i64 s, .int .i64 k, .int .i64 n, .slice a m c, .int .i64 t, .int .i64 wd, .int .i64 h, .int .i64 x, .int .i64 y] 28)).alloc (.cells #[.int .i64 p', .int .i64 s', .int .i64 k', .int .i64 n', .slice a' m' c', .int .i64 t', .int .i64 wd', .int .i64 h', .int .i64 x', .int .i64 y'] 28))) := ⟨((Below.refl _ _).alloc (Nat.le_refl _) _).alloc (by simp) _⟩
  have HS : w.heap.size ≤ ((w.alloc (.cells #[.int .i64 p, .int .i64 s, .int .i64 k, .int .i64 n, .slice a m c, .int .i64 t, .int .i64 wd, .int .i64 h, .int .i64 x, .int .i64 y] 28)).alloc (.cells #[.int .i64 p', .int .i64 s', .int .i64 k', .int .i64 n', .slice a' m' c', .int .i64 t', .int .i64 wd', .int .i64 h', .int .i64 x', .int .i64 y'] 28)).heap.size := by simp; omega
  have HN := Hk.mk ((hN.below HBW.out (Nat.le_refl _)).mono HS)
  have HN' := Hk.mk ((hN'.below HBW.out (Nat.le_refl _)).mono HS)
  clear hN hN' HS
  by_cases ep : p = p'
  case neg =>
    have R : Hk (false = r) := ⟨by rw [← E.out]; simp; intros; omega⟩
    have f0 : (p == p') = false := by simp; omega
    clear E
    go_enter Try.func21, Try.ntmps21
    go_wp2
    go_ret
    exact ⟨rb R.out, HBW.out⟩
  subst ep
  by_cases es : s = s'
  case neg =>
    have R : Hk (false = r) := ⟨by rw [← E.out]; simp; intros; omega⟩
    have f0 : (s == s') = false := by simp; omega
    clear E
    go_enter Try.func21, Try.ntmps21
    go_wp2
    go_ret
    exact ⟨rb R.out, HBW.out⟩
  subst es
  by_cases ek : k = k'
  case neg =>
    have R : Hk (false = r) := ⟨by rw [← E.out]; simp; intros; omega⟩
    have f0 : (k == k') = false := by simp; omega
    clear E
    go_enter Try.func21, Try.ntmps21
    go_wp2
    go_ret
    exact ⟨rb R.out, HBW.out⟩
  subst ek
  by_cases en : n = n'
  case neg =>
    have R : Hk (false = r) := ⟨by rw [← E.out]; simp; intros; omega⟩
    have f0 : (n == n') = false := by simp; omega
    clear E
    go_enter Try.func21, Try.ntmps21
    go_wp2
    go_ret
    exact ⟨rb R.out, HBW.out⟩
  subst en
  by_cases eu : u = u'
  case neg =>
    have R : Hk (false = r) := ⟨by rw [← E.out]; simp; intro h; exact absurd h eu⟩
    have EU : Hk (decide (u = u') = false) := ⟨by simp [eu]⟩
    clear E eu
    go_enter Try.func21, Try.ntmps21
    go_wp2_with (go_at_call 43; (with_reducible refine (eqi_as false a a' m m' c c' u u' _ HN.out HN'.out hm hm' EU).mono ?_); rintro e w' ⟨rfl, mm, rfl⟩)
    go_ret
    exact ⟨rb R.out, below_drewN HBW.out _⟩
  subst eu
  have EU : Hk (decide (u = u) = true) := ⟨by simp⟩
  by_cases et : t = t'
  case neg =>
    have R : Hk (false = r) := ⟨by rw [← E.out]; simp; intros; omega⟩
    have f0 : (t == t') = false := by simp; omega
    clear E
    go_enter Try.func21, Try.ntmps21
    go_wp2_with (go_at_call 43; (with_reducible refine (eqi_as true a a' m m' c c' u u _ HN.out HN'.out hm hm' EU).mono ?_); rintro e w' ⟨rfl, mm, rfl⟩)
    go_ret
    exact ⟨rb R.out, below_drewN HBW.out _⟩
  subst et
  by_cases ewd : wd = wd'
  case neg =>
    have R : Hk (false = r) := ⟨by rw [← E.out]; simp; intros; omega⟩
    have f0 : (wd == wd') = false := by simp; omega
    clear E
    go_enter Try.func21, Try.ntmps21
    go_wp2_with (go_at_call 43; (with_reducible refine (eqi_as true a a' m m' c c' u u _ HN.out HN'.out hm hm' EU).mono ?_); rintro e w' ⟨rfl, mm, rfl⟩)
    go_ret
    exact ⟨rb R.out, below_drewN HBW.out _⟩
  subst ewd
  by_cases eh : h = h'
  case neg =>
    have R : Hk (false = r) := ⟨by rw [← E.out]; simp; intros; omega⟩
    have f0 : (h == h') = false := by simp; omega
    clear E
    go_enter Try.func21, Try.ntmps21
    go_wp2_with (go_at_call 43; (with_reducible refine (eqi_as true a a' m m' c c' u u _ HN.out HN'.out hm hm' EU).mono ?_); rintro e w' ⟨rfl, mm, rfl⟩)
    go_ret
    exact ⟨rb R.out, below_drewN HBW.out _⟩
  subst eh
  by_cases ex : x = x'
  case neg =>
    have R : Hk (false = r) := ⟨by rw [← E.out]; simp; intros; omega⟩
    have f0 : (x == x') = false := by simp; omega
    clear E
    go_enter Try.func21, Try.ntmps21
    go_wp2_with (go_at_call 43; (with_reducible refine (eqi_as true a a' m m' c c' u u _ HN.out HN'.out hm hm' EU).mono ?_); rintro e w' ⟨rfl, mm, rfl⟩)
    go_ret
    exact ⟨rb R.out, below_drewN HBW.out _⟩
  subst ex
  by_cases ey : y = y'
  case neg =>
    have R : Hk (false = r) := ⟨by rw [← E.out]; simp; intros; omega⟩
    have f0 : (y == y') = false := by simp; omega
    clear E
    go_enter Try.func21, Try.ntmps21
    go_wp2_with (go_at_call 43; (with_reducible refine (eqi_as true a a' m m' c c' u u _ HN.out HN'.out hm hm' EU).mono ?_); rintro e w' ⟨rfl, mm, rfl⟩)
    go_ret
    exact ⟨rb R.out, below_drewN HBW.out _⟩
  subst ey
  have R : Hk (true = r) := ⟨by rw [← E.out]; simp⟩
  clear E
  go_enter Try.func21, Try.ntmps21
  go_wp2_with (go_at_call 43; (with_reducible refine (eqi_as true a a' m m' c c' u u _ HN.out HN'.out hm hm' EU).mono ?_); rintro e w' ⟨rfl, mm, rfl⟩)
  go_ret
  exact ⟨rb R.out, below_drewN HBW.out _⟩
theorem rnum22_as (r : Bool) (i j : Int) (w : World) (E : Hk (decide (0 ≤ i ∧ i ≤ j) = r)) : Calls Try.prog 33 #[.int .i64 i, .int .i64 j] w fun e w' => e = .returned (.bool r) ∧ w = w' := by
  by_cases q0 : ¬ (0 ≤ i)
  · have b0 : decide (0 ≤ i) = false := by simp; omega
    have R : Hk (false = r) := ⟨by rw [← E.out]; simp; omega⟩
    clear E
    go_enter Try.func33, Try.ntmps33
    go_wp2
    go_ret
    exact ⟨rb R.out, rfl⟩
  have b0 : decide (0 ≤ i) = true := by simp; omega
  by_cases q1 : ¬ (i ≤ j)
  · have b1 : decide (i ≤ j) = false := by simp; omega
    have R : Hk (false = r) := ⟨by rw [← E.out]; simp; omega⟩
    clear E
    go_enter Try.func33, Try.ntmps33
    go_wp2
    go_ret
    exact ⟨rb R.out, rfl⟩
  have b1 : decide (i ≤ j) = true := by simp; omega
  have R : Hk (true = r) := ⟨by rw [← E.out]; simp; omega⟩
  clear E
  go_enter Try.func33, Try.ntmps33
  go_wp2
  go_ret
  exact ⟨rb R.out, rfl⟩
theorem rtile22_as (r : Bool) (i : Int) (w : World) (E : Hk (decide (0 ≤ i ∧ i ≤ 16383) = r)) : Calls Try.prog 36 #[.int .i64 i] w fun e w' => e = .returned (.bool r) ∧ w = w' := by
  by_cases q0 : ¬ (0 ≤ i)
  · have b0 : decide (0 ≤ i) = false := by simp; omega
    have R : Hk (false = r) := ⟨by rw [← E.out]; simp; omega⟩
    clear E
    go_enter Try.func36, Try.ntmps36
    go_wp2
    go_ret
    exact ⟨rb R.out, rfl⟩
  have b0 : decide (0 ≤ i) = true := by simp; omega
  by_cases q1 : ¬ (i < 16384)
  · have b1 : decide (i < 16384) = false := by simp; omega
    have R : Hk (false = r) := ⟨by rw [← E.out]; simp; omega⟩
    clear E
    go_enter Try.func36, Try.ntmps36
    go_wp2
    go_ret
    exact ⟨rb R.out, rfl⟩
  have b1 : decide (i < 16384) = true := by simp; omega
  have R : Hk (true = r) := ⟨by rw [← E.out]; simp; omega⟩
  clear E
  go_enter Try.func36, Try.ntmps36
  go_wp2
  go_ret
  exact ⟨rb R.out, rfl⟩
theorem rid22_as (r : Bool) (i : Int) (w : World) (E : Hk (decide (1 ≤ i ∧ i ≤ 1099511627776) = r)) : Calls Try.prog 37 #[.int .i64 i] w fun e w' => e = .returned (.bool r) ∧ w = w' := by
  by_cases q0 : ¬ (1 ≤ i)
  · have b0 : decide (1 ≤ i) = false := by simp; omega
    have R : Hk (false = r) := ⟨by rw [← E.out]; simp; omega⟩
    clear E
    go_enter Try.func37, Try.ntmps37
    go_wp2
    go_ret
    exact ⟨rb R.out, rfl⟩
  have b0 : decide (1 ≤ i) = true := by simp; omega
  by_cases q1 : ¬ (i ≤ 1099511627776)
  · have b1 : decide (i ≤ 1099511627776) = false := by simp; omega
    have R : Hk (false = r) := ⟨by rw [← E.out]; simp; omega⟩
    clear E
    go_enter Try.func37, Try.ntmps37
    go_wp2
    go_ret
    exact ⟨rb R.out, rfl⟩
  have b1 : decide (i ≤ 1099511627776) = true := by simp; omega
  have R : Hk (true = r) := ⟨by rw [← E.out]; simp; omega⟩
  clear E
  go_enter Try.func37, Try.ntmps37
  go_wp2
  go_ret
  exact ⟨rb R.out, rfl⟩
theorem rmay22_as (r : Bool) (x y : Int) (w : World) (E : Hk (decide (-1099511627776 ≤ x ∧ x ≤ 1099511627776 ∧ -1099511627776 ≤ y ∧ y ≤ 1099511627776) = r)) : Calls Try.prog 34 #[.agg #[.int .i64 x, .int .i64 y], .int .i64 0] w fun e w' => e = .returned (.bool r) ∧ Below w.heap.size w w' := by
  by_cases q0 : ¬ (-1099511627776 ≤ x)
  · have b0 : decide (-1099511627776 ≤ x) = false := by simp; omega
    have R : Hk (false = r) := ⟨by rw [← E.out]; simp; omega⟩
    clear E
    go_enter Try.func34, Try.ntmps34
    go_wp2
    go_ret
    exact ⟨rb R.out, (Below.refl _ _).alloc (Nat.le_refl _) _⟩
  have b0 : decide (-1099511627776 ≤ x) = true := by simp; omega
  by_cases q1 : ¬ (x ≤ 1099511627776)
  · have b1 : decide (x ≤ 1099511627776) = false := by simp; omega
    have R : Hk (false = r) := ⟨by rw [← E.out]; simp; omega⟩
    clear E
    go_enter Try.func34, Try.ntmps34
    go_wp2
    go_ret
    exact ⟨rb R.out, (Below.refl _ _).alloc (Nat.le_refl _) _⟩
  have b1 : decide (x ≤ 1099511627776) = true := by simp; omega
  by_cases q2 : ¬ (-1099511627776 ≤ y)
  · have b2 : decide (-1099511627776 ≤ y) = false := by simp; omega
    have R : Hk (false = r) := ⟨by rw [← E.out]; simp; omega⟩
    clear E
    go_enter Try.func34, Try.ntmps34
    go_wp2
    go_ret
    exact ⟨rb R.out, (Below.refl _ _).alloc (Nat.le_refl _) _⟩
  have b2 : decide (-1099511627776 ≤ y) = true := by simp; omega
  by_cases q3 : ¬ (y ≤ 1099511627776)
  · have b3 : decide (y ≤ 1099511627776) = false := by simp; omega
    have R : Hk (false = r) := ⟨by rw [← E.out]; simp; omega⟩
    clear E
    go_enter Try.func34, Try.ntmps34
    go_wp2
    go_ret
    exact ⟨rb R.out, (Below.refl _ _).alloc (Nat.le_refl _) _⟩
  have b3 : decide (y ≤ 1099511627776) = true := by simp; omega
  have R : Hk (true = r) := ⟨by rw [← E.out]; simp; omega⟩
  clear E
  go_enter Try.func34, Try.ntmps34
  go_wp2
  go_ret
  exact ⟨rb R.out, (Below.refl _ _).alloc (Nat.le_refl _) _⟩
theorem Fr.owni {M : Nat → Prop} {w w' : World} {base n : Nat} {v : Value} {xs : List Int} (h : OwnI w base v n xs) (k : Fr M w w') (hm : ∀ j, v.ownBlock = some j → ¬ M j) : OwnI w' base v n xs := ⟨h.1, k.row h.2 hm⟩
theorem OwnI.weak {w : World} {base base' n : Nat} {v : Value} {xs : List Int} (h : OwnI w base v n xs) (hb : base' ≤ base) : OwnI w base' v n xs := by
  refine ⟨h.1, h.2.1, ?_⟩
  rcases h.2.2 with e | ⟨g, cap, cur, e1, hg, e2⟩
  · exact .inl e
  · exact .inr ⟨g, cap, cur, e1, by omega, e2⟩
/-- What CopyCommand answers. -/
def CopyC (p s k n : Int) (a : Option Addr) (m c : Nat) (u : List Int) (t wd h x y : Int) (w : World) (e : Ending) (w' : World) : Prop := ∃ a2 c2, e = .returned (.agg #[.int .i64 p, .int .i64 s, .int .i64 k, .int .i64 n, .slice a2 m c2, .int .i64 t, .int .i64 wd, .int .i64 h, .int .i64 x, .int .i64 y]) ∧ m ≤ c2 ∧ OwnI w' w.heap.size (.slice a2 m c2) m u ∧ Below w.heap.size w w'
theorem copyc_any (p s k n : Int) (a : Option Addr) (m c : Nat) (u : List Int) (t wd h x y : Int) (w : World) (hN : Nq w w.heap.size a m u) (hm : m ≤ 1099511627776) : Calls Try.prog 14 #[.agg #[.int .i64 p, .int .i64 s, .int .i64 k, .int .i64 n, .slice a m c, .int .i64 t, .int .i64 wd, .int .i64 h, .int .i64 x, .int .i64 y]] w (CopyC p s k n a m c u t wd h x y w) := by
  have HBW : Hk (Below w.heap.size w (((w.alloc (.cells #[.int .i64 p, .int .i64 s, .int .i64 k, .int .i64 n, .slice a m c, .int .i64 t, .int .i64 wd, .int .i64 h, .int .i64 x, .int .i64 y] 28)).alloc (.cells #[.int .i64 0, .int .i64 0, .int .i64 0, .int .i64 0, .slice none 0 0, .int .i64 0, .int .i64 0, .int .i64 0, .int .i64 0, .int .i64 0] 28)).alloc (.cells #[.int .i64 p, .int .i64 s, .int .i64 k, .int .i64 n, .slice a m c, .int .i64 t, .int .i64 wd, .int .i64 h, .int .i64 x, .int .i64 y] 28))) := ⟨(((Below.refl _ _).alloc (Nat.le_refl _) _).alloc (by simp) _).alloc (by simp <;> omega) _⟩
  have HN3 := Hk.mk ((hN.below HBW.out (Nat.le_refl _)).mono (show w.heap.size ≤ (((w.alloc (.cells #[.int .i64 p, .int .i64 s, .int .i64 k, .int .i64 n, .slice a m c, .int .i64 t, .int .i64 wd, .int .i64 h, .int .i64 x, .int .i64 y] 28)).alloc (.cells #[.int .i64 0, .int .i64 0, .int .i64 0, .int .i64 0, .slice none 0 0, .int .i64 0, .int .i64 0, .int .i64 0, .int .i64 0, .int .i64 0] 28)).alloc (.cells #[.int .i64 p, .int .i64 s, .int .i64 k, .int .i64 n, .slice a m c, .int .i64 t, .int .i64 wd, .int .i64 h, .int .i64 x, .int .i64 y] 28)).heap.size by simp; omega))
  have HX : Hk (CmB (((w.alloc (.cells #[.int .i64 p, .int .i64 s, .int .i64 k, .int .i64 n, .slice a m c, .int .i64 t, .int .i64 wd, .int .i64 h, .int .i64 x, .int .i64 y] 28)).alloc (.cells #[.int .i64 0, .int .i64 0, .int .i64 0, .int .i64 0, .slice none 0 0, .int .i64 0, .int .i64 0, .int .i64 0, .int .i64 0, .int .i64 0] 28)).alloc (.cells #[.int .i64 p, .int .i64 s, .int .i64 k, .int .i64 n, .slice a m c, .int .i64 t, .int .i64 wd, .int .i64 h, .int .i64 x, .int .i64 y] 28)) (w.heap.size + 1 + 1) p s k n a m c t wd h x y) := ⟨⟨by go_simp, by go_simp, by go_simp, by go_simp, by go_simp, by go_simp, by go_simp, by go_simp, by go_simp, by go_simp, fun j => by go_simp⟩⟩
  have HZ : Hk (CmB (((w.alloc (.cells #[.int .i64 p, .int .i64 s, .int .i64 k, .int .i64 n, .slice a m c, .int .i64 t, .int .i64 wd, .int .i64 h, .int .i64 x, .int .i64 y] 28)).alloc (.cells #[.int .i64 0, .int .i64 0, .int .i64 0, .int .i64 0, .slice none 0 0, .int .i64 0, .int .i64 0, .int .i64 0, .int .i64 0, .int .i64 0] 28)).alloc (.cells #[.int .i64 p, .int .i64 s, .int .i64 k, .int .i64 n, .slice a m c, .int .i64 t, .int .i64 wd, .int .i64 h, .int .i64 x, .int .i64 y] 28)) (w.heap.size + 1) 0 0 0 0 none 0 0 0 0 0 0 0) := ⟨⟨by go_simp, by go_simp, by go_simp, by go_simp, by go_simp, by go_simp, by go_simp, by go_simp, by go_simp, by go_simp, fun j => by go_simp⟩⟩
  clear hN
  go_enter Try.func14, Try.ntmps14
  go_wp2_with (go_at_call 28; (with_reducible refine (copyi_any a m c u _ HN3.out hm).mono ?_); rintro e w1 ⟨v, rfl, ho1, hb1⟩; obtain ⟨a2, c2, rfl, hc2, -⟩ := ho1.nq; have HO := Hk.mk ho1; have HB1 := Hk.mk hb1; obtain ⟨c0, c1, cc2, c3, c4, c5, c6, c7, c8, c9, cf⟩ := HX.out.below hb1 (by simp); obtain ⟨z0, z1, z2, z3, z4, z5, z6, z7, z8, z9, zf⟩ := HZ.out.below hb1 (by simp <;> omega); have fx4 := cf 4; have hz := hb1.size; simp at hz; have hz1 : w.heap.size + 1 < w1.heap.size := (by omega); have hz2 : w.heap.size + 1 + 1 < w1.heap.size := (by omega); have g0 := zf 0; have g1 := zf 1; have g2 := zf 2; have g3 := zf 3; have g4 := zf 4; have g5 := zf 5; have g6 := zf 6; have g7 := zf 7; have g8 := zf 8; have g9 := zf 9; clear cf zf ho1 hb1 hz)
  refine bodyPost_ret (v := .agg #[.int .i64 p, .int .i64 s, .int .i64 k, .int .i64 n, .slice a2 m c2, .int .i64 t, .int .i64 wd, .int .i64 h, .int .i64 x, .int .i64 y]) (by simp [results, Try.results14, go_sem, z0, z1, z2, z3, z4, z5, z6, z7, z8, z9]) rfl ⟨a2, c2, rfl, hc2, ?_, ?_⟩
  · refine OwnI.weak (Fr.owni (M := fun j => j = w.heap.size + 1 ∨ j = w.heap.size + 1 + 1) HO.out ?_ ?_) (by simp <;> omega)
    · refine Fr.setCell ?_ (fun _ => .inl rfl) _; refine Fr.setCell ?_ (fun _ => .inl rfl) _; refine Fr.setCell ?_ (fun _ => .inl rfl) _; refine Fr.setCell ?_ (fun _ => .inl rfl) _; refine Fr.setCell ?_ (fun _ => .inl rfl) _; refine Fr.setCell ?_ (fun _ => .inl rfl) _; refine Fr.setCell ?_ (fun _ => .inl rfl) _; refine Fr.setCell ?_ (fun _ => .inl rfl) _; refine Fr.setCell ?_ (fun _ => .inl rfl) _; refine Fr.setCell ?_ (fun _ => .inl rfl) _; exact Fr.setCell (Fr.refl _ _) (fun _ => .inr rfl) _
    · intro j hj h
      have := (HO.out.lt j hj).1
      simp at this; omega
  · refine Fr.below (M := fun j => j = w.heap.size + 1 ∨ j = w.heap.size + 1 + 1 ∨ w.heap.size + 3 ≤ j) ?_ (Nat.le_refl _) (fun j hj h => by omega)
    refine Fr.setCell ?_ (fun h => .inl rfl) _; refine Fr.setCell ?_ (fun h => .inl rfl) _; refine Fr.setCell ?_ (fun h => .inl rfl) _; refine Fr.setCell ?_ (fun h => .inl rfl) _; refine Fr.setCell ?_ (fun h => .inl rfl) _; refine Fr.setCell ?_ (fun h => .inl rfl) _; refine Fr.setCell ?_ (fun h => .inl rfl) _; refine Fr.setCell ?_ (fun h => .inl rfl) _; refine Fr.setCell ?_ (fun h => .inl rfl) _; refine Fr.setCell ?_ (fun h => .inl rfl) _; refine Fr.setCell ?_ (fun h => .inr (.inl rfl)) _
    exact ((Fr.of_below HBW.out).mono (fun j hj h => by omega)).andThen (Fr.of_below HB1.out) (fun j hj h => by simp at h; omega)
end Go.Proofs.Ytkffleclofkjmaa
