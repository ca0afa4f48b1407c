/- Package command: parts, valid, empty. -/
import Derived.Test.YtkffleclofkjmaaCma
import Derived.Test.YtkffleclofkjmaaFr
namespace Go.Proofs.Ytkffleclofkjmaa
open Go.RowKit
set_option linter.unusedVariables false
/-- What parts answers. -/
def PartsR (k : Int) (w : World) (e : Ending) (w' : World) : Prop := ∃ b n L, e = .returned (.slice (some ⟨b, 0, none⟩) n n) ∧ partsL k = L ∧ L.length = n ∧ Nq w' w'.heap.size (some ⟨b, 0, none⟩) n L ∧ Below w.heap.size w w' ∧ b = w.heap.size ∧ b < w'.heap.size ∧ ¬ U8 w' b
theorem lit1 (w : World) (y : Int) (t : TypeId) : Nq (w.alloc (.cells #[.int .i64 y] t)) (w.alloc (.cells #[.int .i64 y] t)).heap.size (some ⟨w.heap.size, 0, none⟩) 1 [y] :=
  ⟨rfl, fun _ => ⟨_, _, rfl, by simp, fun k hk => by
    obtain rfl : k = 0 := by omega
    simp⟩⟩
theorem lit2 (w : World) (y z : Int) (t : TypeId) : Nq (w.alloc (.cells #[.int .i64 y, .int .i64 z] t)) (w.alloc (.cells #[.int .i64 y, .int .i64 z] t)).heap.size (some ⟨w.heap.size, 0, none⟩) 2 [y, z] :=
  ⟨rfl, fun _ => ⟨_, _, rfl, by simp, fun k hk => by
    have : k = 0 ∨ k = 1 := by omega
    rcases this with rfl | rfl <;> simp⟩⟩
theorem parts_no (k : Int) (w : World) (h : k < 1 ∨ 7 < k) : Calls Try.prog 30 #[.int .i64 k] w fun e w' => e = .returned (.slice none 0 0) ∧ w = w' := by
  have b1 : (k == 1) = false := by simp; omega
  have b2 : (k == 2) = false := by simp; omega
  have b3 : (k == 3) = false := by simp; omega
  have b4 : (k == 4) = false := by simp; omega
  have b5 : (k == 5) = false := by simp; omega
  have b6 : (k == 6) = false := by simp; omega
  have b7 : (k == 7) = false := by simp; omega
  clear h
  go_enter Try.func30, Try.ntmps30
  go_wp2
  go_ret
  exact ⟨rfl, rfl⟩
theorem parts_any (k : Int) (w : World) (h1 : 1 ≤ k) (h2 : k ≤ 7) : Calls Try.prog 30 #[.int .i64 k] w (PartsR k w) := by
  have hc : k = 1 ∨ k = 2 ∨ k = 3 ∨ k = 4 ∨ k = 5 ∨ k = 6 ∨ k = 7 := by omega
  rcases hc with rfl | rfl | rfl | rfl | rfl | rfl | rfl
  · go_enter Try.func30, Try.ntmps30
    go_wp2
    go_ret
    exact ⟨w.heap.size, 2, [0, 5], rfl, rfl, rfl, lit2 w 0 5 _, (Below.refl _ _).alloc (Nat.le_refl _) _, rfl, by simp, not_u8 _ _ _ (by decide)⟩
  · go_enter Try.func30, Try.ntmps30
    go_wp2
    go_ret
    exact ⟨w.heap.size, 2, [2, 3], rfl, rfl, rfl, lit2 w 2 3 _, (Below.refl _ _).alloc (Nat.le_refl _) _, rfl, by simp, not_u8 _ _ _ (by decide)⟩
  · go_enter Try.func30, Try.ntmps30
    go_wp2
    go_ret
    exact ⟨w.heap.size, 1, [2], rfl, rfl, rfl, lit1 w 2 _, (Below.refl _ _).alloc (Nat.le_refl _) _, rfl, by simp, not_u8 _ _ _ (by decide)⟩
  · go_enter Try.func30, Try.ntmps30
    go_wp2
    go_ret
    exact ⟨w.heap.size, 2, [3, 4], rfl, rfl, rfl, lit2 w 3 4 _, (Below.refl _ _).alloc (Nat.le_refl _) _, rfl, by simp, not_u8 _ _ _ (by decide)⟩
  · go_enter Try.func30, Try.ntmps30
    go_wp2
    go_ret
    exact ⟨w.heap.size, 1, [1], rfl, rfl, rfl, lit1 w 1 _, (Below.refl _ _).alloc (Nat.le_refl _) _, rfl, by simp, not_u8 _ _ _ (by decide)⟩
  · go_enter Try.func30, Try.ntmps30
    go_wp2
    go_ret
    exact ⟨w.heap.size, 2, [2, 1], rfl, rfl, rfl, lit2 w 2 1 _, (Below.refl _ _).alloc (Nat.le_refl _) _, rfl, by simp, not_u8 _ _ _ (by decide)⟩
  · go_enter Try.func30, Try.ntmps30
    go_wp2
    go_ret
    exact ⟨w.heap.size, 2, [1, 3], rfl, rfl, rfl, lit2 w 1 3 _, (Below.refl _ _).alloc (Nat.le_refl _) _, rfl, by simp, not_u8 _ _ _ (by decide)⟩
set_option maxRecDepth 100000 in
set_option maxHeartbeats 1600000 in
theorem valid_as (r : Bool) (q : Int) (p s k n : Int) (a : Option Addr) (m c : Nat) (u : List Int) (t wd h x y : Int) (w : World) (hq0 : 0 ≤ q) (hq5 : q ≤ 5) (hN : Nq w w.heap.size a m u) (hm : m ≤ 1099511627776) (E : Hk (vB q ⟨n, u, t, wd, h, x, y⟩ = r)) :
    Calls Try.prog 38 #[.int .i64 q, .agg #[.int .i64 p, .int .i64 s, .int .i64 k, .int .i64 n, .slice a m c, .int .i64 t, .int .i64 wd, .int .i64 h, .int .i64 x, .int .i64 y]] w fun e w' => e = .returned (.bool r) ∧ Below w.heap.size w w' := by
  have HN := Hk.mk (Nq.mono (hN.below ((Below.refl _ _).alloc (Nat.le_refl _) (.cells #[.int .i64 p, .int .i64 s, .int .i64 k, .int .i64 n, .slice a m c, .int .i64 t, .int .i64 wd, .int .i64 h, .int .i64 x, .int .i64 y] 28)) (Nat.le_refl _)) (show w.heap.size ≤ (w.alloc (.cells #[.int .i64 p, .int .i64 s, .int .i64 k, .int .i64 n, .slice a m c, .int .i64 t, .int .i64 wd, .int .i64 h, .int .i64 x, .int .i64 y] 28)).heap.size by simp))
  have hl := hN.len
  clear hN
  have hc : q = 0 ∨ q = 1 ∨ q = 2 ∨ q = 3 ∨ q = 4 ∨ q = 5 := by omega
  clear hq0 hq5
  rcases hc with rfl | rfl | rfl | rfl | rfl | rfl
  · by_cases q0 : ¬ (0 ≤ n)
    · have b0 : decide (0 ≤ n) = false := by simp; omega
      have R : Hk (false = r) := ⟨by rw [← E.out]; unfold vB; simp; omega⟩
      clear E
      go_enter Try.func38, Try.ntmps38
      go_wp2
      go_ret
      exact ⟨rb R.out, (Below.refl _ _).alloc (Nat.le_refl _) _⟩
    have b0 : decide (0 ≤ n) = true := by simp; omega
    by_cases q1 : ¬ (n < 4)
    · have b1 : decide (n < 4) = false := by simp; omega
      have R : Hk (false = r) := ⟨by rw [← E.out]; unfold vB; simp; omega⟩
      clear E
      go_enter Try.func38, Try.ntmps38
      go_wp2
      go_ret
      exact ⟨rb R.out, (Below.refl _ _).alloc (Nat.le_refl _) _⟩
    have b1 : decide (n < 4) = true := by simp; omega
    have R : Hk (true = r) := ⟨by rw [← E.out]; unfold vB; simp; omega⟩
    clear E
    go_enter Try.func38, Try.ntmps38
    go_wp2
    go_ret
    exact ⟨rb R.out, (Below.refl _ _).alloc (Nat.le_refl _) _⟩
  · by_cases q0 : ¬ (1 ≤ n)
    · have b0 : decide (1 ≤ n) = false := by simp; omega
      have R : Hk (false = r) := ⟨by rw [← E.out]; unfold vB; simp; omega⟩
      clear E
      go_enter Try.func38, Try.ntmps38
      go_wp2
      go_ret
      exact ⟨rb R.out, (Below.refl _ _).alloc (Nat.le_refl _) _⟩
    have b0 : decide (1 ≤ n) = true := by simp; omega
    by_cases q1 : ¬ (n ≤ 1099511627776)
    · have b1 : decide (n ≤ 1099511627776) = false := by simp; omega
      have R : Hk (false = r) := ⟨by rw [← E.out]; unfold vB; simp; omega⟩
      clear E
      go_enter Try.func38, Try.ntmps38
      go_wp2
      go_ret
      exact ⟨rb R.out, (Below.refl _ _).alloc (Nat.le_refl _) _⟩
    have b1 : decide (n ≤ 1099511627776) = true := by simp; omega
    have R : Hk (true = r) := ⟨by rw [← E.out]; unfold vB; simp; omega⟩
    clear E
    go_enter Try.func38, Try.ntmps38
    go_wp2
    go_ret
    exact ⟨rb R.out, (Below.refl _ _).alloc (Nat.le_refl _) _⟩
  · by_cases q0 : ¬ ((1 : Int) ≤ (m : Int))
    · have b0 : decide ((1 : Int) ≤ (m : Int)) = false := by simp; omega
      have R : Hk (false = r) := ⟨by rw [← E.out]; unfold vB idsB; simp; omega⟩
      clear E
      go_enter Try.func38, Try.ntmps38
      go_wp2
      go_ret
      exact ⟨rb R.out, (Below.refl _ _).alloc (Nat.le_refl _) _⟩
    have b0 : decide ((1 : Int) ≤ (m : Int)) = true := by simp; omega
    by_cases q1 : ¬ ((m : Int) ≤ 64)
    · have b1 : decide ((m : Int) ≤ 64) = false := by simp; omega
      have R : Hk (false = r) := ⟨by rw [← E.out]; unfold vB idsB; simp; omega⟩
      clear E
      go_enter Try.func38, Try.ntmps38
      go_wp2
      go_ret
      exact ⟨rb R.out, (Below.refl _ _).alloc (Nat.le_refl _) _⟩
    have b1 : decide ((m : Int) ≤ 64) = true := by simp; omega
    have R : Hk (ascL 0 u = r) := ⟨by rw [← E.out]; unfold vB idsB; simp; omega⟩
    clear E hl
    go_enter Try.func38, Try.ntmps38
    go_wp2_with (go_at_call 57; (with_reducible refine (asc_as r a m c u _ HN.out hm R).mono ?_); rintro e w' ⟨rfl, rfl⟩)
    go_ret
    exact ⟨rfl, (Below.refl _ _).alloc (Nat.le_refl _) _⟩
  · by_cases q0 : ¬ (0 ≤ t)
    · have b0 : decide (0 ≤ t) = false := by simp; omega
      have R : Hk (false = r) := ⟨by rw [← E.out]; unfold vB; simp; omega⟩
      clear E
      go_enter Try.func38, Try.ntmps38
      go_wp2
      go_ret
      exact ⟨rb R.out, (Below.refl _ _).alloc (Nat.le_refl _) _⟩
    have b0 : decide (0 ≤ t) = true := by simp; omega
    by_cases q1 : ¬ (t ≤ 16383)
    · have b1 : decide (t ≤ 16383) = false := by simp; omega
      have R : Hk (false = r) := ⟨by rw [← E.out]; unfold vB; simp; omega⟩
      clear E
      go_enter Try.func38, Try.ntmps38
      go_wp2
      go_ret
      exact ⟨rb R.out, (Below.refl _ _).alloc (Nat.le_refl _) _⟩
    have b1 : decide (t ≤ 16383) = true := by simp; omega
    have R : Hk (true = r) := ⟨by rw [← E.out]; unfold vB; simp; omega⟩
    clear E
    go_enter Try.func38, Try.ntmps38
    go_wp2
    go_ret
    exact ⟨rb R.out, (Below.refl _ _).alloc (Nat.le_refl _) _⟩
  · by_cases q0 : ¬ (1 ≤ wd)
    · have b0 : decide (1 ≤ wd) = false := by simp; omega
      have R : Hk (false = r) := ⟨by rw [← E.out]; unfold vB; simp; omega⟩
      clear E
      go_enter Try.func38, Try.ntmps38
      go_wp2
      go_ret
      exact ⟨rb R.out, (Below.refl _ _).alloc (Nat.le_refl _) _⟩
    have b0 : decide (1 ≤ wd) = true := by simp; omega
    by_cases q1 : ¬ (wd ≤ 4)
    · have b1 : decide (wd ≤ 4) = false := by simp; omega
      have R : Hk (false = r) := ⟨by rw [← E.out]; unfold vB; simp; omega⟩
      clear E
      go_enter Try.func38, Try.ntmps38
      go_wp2
      go_ret
      exact ⟨rb R.out, (Below.refl _ _).alloc (Nat.le_refl _) _⟩
    have b1 : decide (wd ≤ 4) = true := by simp; omega
    by_cases q2 : ¬ (1 ≤ h)
    · have b2 : decide (1 ≤ h) = false := by simp; omega
      have R : Hk (false = r) := ⟨by rw [← E.out]; unfold vB; simp; omega⟩
      clear E
      go_enter Try.func38, Try.ntmps38
      go_wp2
      go_ret
      exact ⟨rb R.out, (Below.refl _ _).alloc (Nat.le_refl _) _⟩
    have b2 : decide (1 ≤ h) = true := by simp; omega
    by_cases q3 : ¬ (h ≤ 4)
    · have b3 : decide (h ≤ 4) = false := by simp; omega
      have R : Hk (false = r) := ⟨by rw [← E.out]; unfold vB; simp; omega⟩
      clear E
      go_enter Try.func38, Try.ntmps38
      go_wp2
      go_ret
      exact ⟨rb R.out, (Below.refl _ _).alloc (Nat.le_refl _) _⟩
    have b3 : decide (h ≤ 4) = true := by simp; omega
    have R : Hk (true = r) := ⟨by rw [← E.out]; unfold vB; simp; omega⟩
    clear E
    go_enter Try.func38, Try.ntmps38
    go_wp2
    go_ret
    exact ⟨rb R.out, (Below.refl _ _).alloc (Nat.le_refl _) _⟩
  · by_cases q0 : ¬ (-1099511627776 ≤ x)
    · have b0 : decide (-1099511627776 ≤ x) = false := by simp; omega
      have R : Hk (false = r) := ⟨by rw [← E.out]; unfold vB; simp; omega⟩
      clear E
      go_enter Try.func38, Try.ntmps38
      go_wp2
      go_ret
      exact ⟨rb R.out, (Below.refl _ _).alloc (Nat.le_refl _) _⟩
    have b0 : decide (-1099511627776 ≤ x) = true := by simp; omega
    by_cases q1 : ¬ (x ≤ 1099511627776)
    · have b1 : decide (x ≤ 1099511627776) = false := by simp; omega
      have R : Hk (false = r) := ⟨by rw [← E.out]; unfold vB; simp; omega⟩
      clear E
      go_enter Try.func38, Try.ntmps38
      go_wp2
      go_ret
      exact ⟨rb R.out, (Below.refl _ _).alloc (Nat.le_refl _) _⟩
    have b1 : decide (x ≤ 1099511627776) = true := by simp; omega
    by_cases q2 : ¬ (-1099511627776 ≤ y)
    · have b2 : decide (-1099511627776 ≤ y) = false := by simp; omega
      have R : Hk (false = r) := ⟨by rw [← E.out]; unfold vB; simp; omega⟩
      clear E
      go_enter Try.func38, Try.ntmps38
      go_wp2
      go_ret
      exact ⟨rb R.out, (Below.refl _ _).alloc (Nat.le_refl _) _⟩
    have b2 : decide (-1099511627776 ≤ y) = true := by simp; omega
    by_cases q3 : ¬ (y ≤ 1099511627776)
    · have b3 : decide (y ≤ 1099511627776) = false := by simp; omega
      have R : Hk (false = r) := ⟨by rw [← E.out]; unfold vB; simp; omega⟩
      clear E
      go_enter Try.func38, Try.ntmps38
      go_wp2
      go_ret
      exact ⟨rb R.out, (Below.refl _ _).alloc (Nat.le_refl _) _⟩
    have b3 : decide (y ≤ 1099511627776) = true := by simp; omega
    have R : Hk (true = r) := ⟨by rw [← E.out]; unfold vB; simp; omega⟩
    clear E
    go_enter Try.func38, Try.ntmps38
    go_wp2
    go_ret
    exact ⟨rb R.out, (Below.refl _ _).alloc (Nat.le_refl _) _⟩
/-- The cells of a command that lies in memory. -/
structure CmB (w : World) (b : Nat) (p s k n : Int) (a : Option Addr) (m c : Nat) (t wd h x y : Int) : Prop where
  c0 : w.cell? ⟨b, 0, none⟩ = some (.int .i64 p)
  c1 : w.cell? ⟨b, 1, none⟩ = some (.int .i64 s)
  c2 : w.cell? ⟨b, 2, none⟩ = some (.int .i64 k)
  c3 : w.cell? ⟨b, 3, none⟩ = some (.int .i64 n)
  c4 : w.cell? ⟨b, 4, none⟩ = some (.slice a m c)
  c5 : w.cell? ⟨b, 5, none⟩ = some (.int .i64 t)
  c6 : w.cell? ⟨b, 6, none⟩ = some (.int .i64 wd)
  c7 : w.cell? ⟨b, 7, none⟩ = some (.int .i64 h)
  c8 : w.cell? ⟨b, 8, none⟩ = some (.int .i64 x)
  c9 : w.cell? ⟨b, 9, none⟩ = some (.int .i64 y)
  fz : ∀ j, w.frozen? ⟨b, j, none⟩ = false
theorem CmB.below {w w' : World} {B b : Nat} {p s k n : Int} {a : Option Addr} {m c : Nat} {t wd h x y : Int} (H : CmB w b p s k n a m c t wd h x y) (hb : Below B w w') (hB : b < B) : CmB w' b p s k n a m c t wd h x y :=
  ⟨(hb.cell (p := ⟨b, 0, none⟩) hB).trans H.c0, (hb.cell (p := ⟨b, 1, none⟩) hB).trans H.c1, (hb.cell (p := ⟨b, 2, none⟩) hB).trans H.c2, (hb.cell (p := ⟨b, 3, none⟩) hB).trans H.c3, (hb.cell (p := ⟨b, 4, none⟩) hB).trans H.c4, (hb.cell (p := ⟨b, 5, none⟩) hB).trans H.c5, (hb.cell (p := ⟨b, 6, none⟩) hB).trans H.c6, (hb.cell (p := ⟨b, 7, none⟩) hB).trans H.c7, (hb.cell (p := ⟨b, 8, none⟩) hB).trans H.c8, (hb.cell (p := ⟨b, 9, none⟩) hB).trans H.c9, fun j => (hb.frozen (p := ⟨b, j, none⟩) hB).trans (H.fz j)⟩
theorem CmB.box (w : World) (p s k n : Int) (a : Option Addr) (m c : Nat) (t wd h x y : Int) : CmB (w.alloc (.cells #[.int .i64 p, .int .i64 s, .int .i64 k, .int .i64 n, .slice a m c, .int .i64 t, .int .i64 wd, .int .i64 h, .int .i64 x, .int .i64 y] 28)) w.heap.size p s k n a m c t wd h x y :=
  ⟨by go_simp, by go_simp, by go_simp, by go_simp, by go_simp, by go_simp, by go_simp, by go_simp, by go_simp, by go_simp, fun j => by go_simp⟩
/-- What empty leaves. -/
def EmptyR (q : Int) (b : Nat) (p s k n : Int) (a : Option Addr) (m c : Nat) (u : List Int) (t wd h x y : Int) (w : World) (e : Ending) (w' : World) : Prop := ∃ n' a' m' c' u' t' wd' h' x' y', e = .returned (.tuple #[]) ∧ CmB w' b p s k n' a' m' c' t' wd' h' x' y' ∧ eC q ⟨n, u, t, wd, h, x, y⟩ = ⟨n', u', t', wd', h', x', y'⟩ ∧ Nq w' b a' m' u' ∧ m' ≤ m ∧ Fr (fun j => j = b) w w' ∧ w.heap.size = w'.heap.size
set_option maxHeartbeats 1600000 in
theorem empty_any (q : Int) (b : Nat) (p s k n : Int) (a : Option Addr) (m c : Nat) (u : List Int) (t wd h x y : Int) (w : World) (hq0 : 0 ≤ q) (hq5 : q ≤ 5) (H : CmB w b p s k n a m c t wd h x y) (hN : Nq w b a m u) :
    Calls Try.prog 39 #[.int .i64 q, .pointer (some ⟨b, 0, none⟩)] w (EmptyR q b p s k n a m c u t wd h x y w) := by
  have hc : q = 0 ∨ q = 1 ∨ q = 2 ∨ q = 3 ∨ q = 4 ∨ q = 5 := by omega
  clear hq0 hq5
  have HN := Hk.mk hN
  clear hN
  have fz := Hk.mk H.fz
  obtain ⟨c0, c1, c2, c3, c4, c5, c6, c7, c8, c9, -⟩ := H
  rcases hc with rfl | rfl | rfl | rfl | rfl | rfl
  · have f3 := fz.out 3
    go_enter Try.func39, Try.ntmps39
    go_wp2
    go_end0
    have HF : Fr (fun j => j = b) w _ := (Fr.refl (fun j => j = b) w).setCell (p := ⟨b, 3, none⟩) (fun _ => rfl) (.int .i64 0)
    have HB : Below b w _ := HF.below (Nat.le_of_lt (World.block_lt_of_cell? _ _ c0)) (fun j _ e => Nat.le_of_eq e.symm)
    refine ⟨0, a, m, c, u, t, wd, h, x, y, rfl, ⟨by go_simp, by go_simp, by go_simp, by go_simp, by go_simp, by go_simp, by go_simp, by go_simp, by go_simp, by go_simp, fun j => ?_⟩, rfl, HN.out.below HB (Nat.le_refl _), by omega, HF, by simp⟩
    have := fz.out j
    go_simp
  · have f3 := fz.out 3
    go_enter Try.func39, Try.ntmps39
    go_wp2
    go_end0
    have HF : Fr (fun j => j = b) w _ := (Fr.refl (fun j => j = b) w).setCell (p := ⟨b, 3, none⟩) (fun _ => rfl) (.int .i64 0)
    have HB : Below b w _ := HF.below (Nat.le_of_lt (World.block_lt_of_cell? _ _ c0)) (fun j _ e => Nat.le_of_eq e.symm)
    refine ⟨0, a, m, c, u, t, wd, h, x, y, rfl, ⟨by go_simp, by go_simp, by go_simp, by go_simp, by go_simp, by go_simp, by go_simp, by go_simp, by go_simp, by go_simp, fun j => ?_⟩, rfl, HN.out.below HB (Nat.le_refl _), by omega, HF, by simp⟩
    have := fz.out j
    go_simp
  · have f4 := fz.out 4
    go_enter Try.func39, Try.ntmps39
    go_wp2
    go_end0
    have HF : Fr (fun j => j = b) w _ := (Fr.refl (fun j => j = b) w).setCell (p := ⟨b, 4, none⟩) (fun _ => rfl) (.slice none 0 0)
    have HB : Below b w _ := HF.below (Nat.le_of_lt (World.block_lt_of_cell? _ _ c0)) (fun j _ e => Nat.le_of_eq e.symm)
    refine ⟨n, none, 0, 0, [], t, wd, h, x, y, rfl, ⟨by go_simp, by go_simp, by go_simp, by go_simp, by go_simp, by go_simp, by go_simp, by go_simp, by go_simp, by go_simp, fun j => ?_⟩, rfl, Nq.nil _ _ _, by omega, HF, by simp⟩
    have := fz.out j
    go_simp
  · have f5 := fz.out 5
    go_enter Try.func39, Try.ntmps39
    go_wp2
    go_end0
    have HF : Fr (fun j => j = b) w _ := (Fr.refl (fun j => j = b) w).setCell (p := ⟨b, 5, none⟩) (fun _ => rfl) (.int .i64 0)
    have HB : Below b w _ := HF.below (Nat.le_of_lt (World.block_lt_of_cell? _ _ c0)) (fun j _ e => Nat.le_of_eq e.symm)
    refine ⟨n, a, m, c, u, 0, wd, h, x, y, rfl, ⟨by go_simp, by go_simp, by go_simp, by go_simp, by go_simp, by go_simp, by go_simp, by go_simp, by go_simp, by go_simp, fun j => ?_⟩, rfl, HN.out.below HB (Nat.le_refl _), by omega, HF, by simp⟩
    have := fz.out j
    go_simp
  · have f6 := fz.out 6
    have f7 := fz.out 7
    go_enter Try.func39, Try.ntmps39
    go_wp2
    go_end0
    have HF : Fr (fun j => j = b) w _ := ((Fr.refl (fun j => j = b) w).setCell (p := ⟨b, 6, none⟩) (fun _ => rfl) (.int .i64 0)).setCell (p := ⟨b, 7, none⟩) (fun _ => rfl) (.int .i64 0)
    have HB : Below b w _ := HF.below (Nat.le_of_lt (World.block_lt_of_cell? _ _ c0)) (fun j _ e => Nat.le_of_eq e.symm)
    refine ⟨n, a, m, c, u, t, 0, 0, x, y, rfl, ⟨by go_simp, by go_simp, by go_simp, by go_simp, by go_simp, by go_simp, by go_simp, by go_simp, by go_simp, by go_simp, fun j => ?_⟩, rfl, HN.out.below HB (Nat.le_refl _), by omega, HF, by simp⟩
    have := fz.out j
    go_simp
  · have f8 := fz.out 8
    have f9 := fz.out 9
    go_enter Try.func39, Try.ntmps39
    go_wp2
    go_end0
    have HF : Fr (fun j => j = b) w _ := ((Fr.refl (fun j => j = b) w).setCell (p := ⟨b, 8, none⟩) (fun _ => rfl) (.int .i64 0)).setCell (p := ⟨b, 9, none⟩) (fun _ => rfl) (.int .i64 0)
    have HB : Below b w _ := HF.below (Nat.le_of_lt (World.block_lt_of_cell? _ _ c0)) (fun j _ e => Nat.le_of_eq e.symm)
    refine ⟨n, a, m, c, u, t, wd, h, 0, 0, rfl, ⟨by go_simp, by go_simp, by go_simp, by go_simp, by go_simp, by go_simp, by go_simp, by go_simp, by go_simp, by go_simp, fun j => ?_⟩, rfl, HN.out.below HB (Nat.le_refl _), by omega, HF, by simp⟩
    have := fz.out j
    go_simp
end Go.Proofs.Ytkffleclofkjmaa
