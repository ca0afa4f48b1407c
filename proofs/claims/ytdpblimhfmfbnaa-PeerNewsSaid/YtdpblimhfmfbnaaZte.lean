import Derived.Deep.QuietTactic
import Derived.BigQuiet
import Derived.Deep.RegionWith
import Derived.Deep.RegionHeld3
import Derived.Deep.DeepCutAuto
import Derived.Deep.DeepFit
import Derived.Outline
import Derived.Test.YtdpblimhfmfbnaaZtd
import Derived.Test.YtdpblimhfmfbnaaZta
import Derived.Shelf.Abstract
/- Layer 8: slices of buildings; whether their IDs rise. -/
namespace Go.Proofs.Ytdpblimhfmfbnaa
open Go.RowKit
set_option linter.unusedVariables false
/-- The slice reads as these buildings. -/
structure Bq (w : World) (B : Nat) (a : Option Addr) (n : Nat) (bs : List Bd) : Prop where
  len : bs.length = n
  rd : 0 < n → ∃ b off, a = some ⟨b, off, none⟩ ∧ b < B ∧ ∀ k, k < n → ∀ i, i < 6 → w.cell? ⟨b, off + k * 6 + i, none⟩ = some (.int .i64 ((bs.getD k default).c i))
theorem Bq.below {w w' : World} {B B' n : Nat} {a : Option Addr} {bs : List Bd} (h : Bq w B a n bs) (hb : Below B' w w') (hB : B ≤ B') : Bq w' B a n bs := ⟨h.len, fun hn => by
  obtain ⟨b, off, e, hlt, hc⟩ := h.rd hn
  exact ⟨b, off, e, hlt, fun k hk i hi => (hb.cell (p := ⟨b, off + k * 6 + i, none⟩) (Nat.lt_of_lt_of_le hlt hB)).trans (hc k hk i hi)⟩⟩
theorem Bq.mono {w : World} {B B' n : Nat} {a : Option Addr} {bs : List Bd} (h : Bq w B a n bs) (hB : B ≤ B') : Bq w B' a n bs := ⟨h.len, fun hn => by
  obtain ⟨b, off, e, hlt, hc⟩ := h.rd hn
  exact ⟨b, off, e, by omega, hc⟩⟩
theorem Bq.drewN {w : World} {B n : Nat} {a : Option Addr} {bs : List Bd} (h : Bq w B a n bs) (m : Nat) : Bq (w.drewN m) B a n bs := ⟨h.len, h.rd⟩
theorem Bq.nil (w : World) (B : Nat) (a : Option Addr) : Bq w B a 0 [] := ⟨rfl, fun h => absurd h (by omega)⟩
/-- The cells of one of them. -/
theorem Bq.six {w : World} {B n : Nat} {a : Option Addr} {bs : List Bd} (h : Bq w B a n bs) {k : Nat} (hk : k < n) : ∃ b off, a = some ⟨b, off, none⟩ ∧ b < B ∧
    w.cell? ⟨b, off + k * 6, none⟩ = some (.int .i64 (bs.getD k default).i) ∧ w.cell? ⟨b, off + k * 6 + 1, none⟩ = some (.int .i64 (bs.getD k default).o) ∧ w.cell? ⟨b, off + k * 6 + 2, none⟩ = some (.int .i64 (bs.getD k default).x) ∧
    w.cell? ⟨b, off + k * 6 + 3, none⟩ = some (.int .i64 (bs.getD k default).y) ∧ w.cell? ⟨b, off + k * 6 + 4, none⟩ = some (.int .i64 (bs.getD k default).w) ∧ w.cell? ⟨b, off + k * 6 + 5, none⟩ = some (.int .i64 (bs.getD k default).h) := by
  obtain ⟨b, off, e, hlt, hc⟩ := h.rd (by omega)
  exact ⟨b, off, e, hlt, hc k hk 0 (by omega), hc k hk 1 (by omega), hc k hk 2 (by omega), hc k hk 3 (by omega), hc k hk 4 (by omega), hc k hk 5 (by omega)⟩
end Go.Proofs.Ytdpblimhfmfbnaa
/- Layer 8: the tiles under a building. -/
namespace Go.Proofs.Ytdpblimhfmfbnaa
open Go.RowKit
set_option linter.unusedVariables false
/-- What under answers: new memory. -/
def UndR (w : World) (W : Int) (b : Bd) (e : Ending) (w' : World) : Prop := ∃ g, e = .returned (.slice (some ⟨g, 0, none⟩) (b.w.toNat * b.h.toNat) (b.w.toNat * b.h.toNat)) ∧ w.heap.size ≤ g ∧ Nq w' (g + 1) (some ⟨g, 0, none⟩) (b.w.toNat * b.h.toNat) (undL W b) ∧ g < w'.heap.size ∧ Below w.heap.size w w'
theorem und_snoc (W : Int) (bi bo bx bY : Int) (wn hn y x : Nat) (hx : x < wn) (hy : y < hn) {P : Int} (hP : W * (bY + y) = P) :
    (undL W ⟨bi, bo, bx, bY, wn, hn⟩).take (y * wn + (x + 1)) = (undL W ⟨bi, bo, bx, bY, wn, hn⟩).take (y * wn + x) ++ [bx + x + P] := by
  have hk : y * wn + x < wn * hn := by
    have := Nat.mul_le_mul_left wn (show y + 1 ≤ hn by omega)
    rw [Nat.mul_add, Nat.mul_one, Nat.mul_comm] at this
    omega
  have hl : y * wn + x < (undL W ⟨bi, bo, bx, bY, wn, hn⟩).length := by rw [undL_len]; simpa using hk
  rw [← Nat.add_assoc, List.take_succ_eq_append_getElem hl]
  congr 2
  have := undL_getD W ⟨bi, bo, bx, bY, wn, hn⟩ (y * wn + x) (by simpa using hk)
  rw [List.getD, List.getElem?_eq_getElem hl] at this
  simp only [Option.getD_some] at this
  rw [this]
  unfold undAt
  simp only [Int.toNat_natCast]
  rw [Nat.mul_comm y wn, Nat.mul_add_mod, Nat.mod_eq_of_lt hx, Nat.mul_add_div (by omega), Nat.div_eq_of_lt hx, Nat.add_zero, hP]
theorem nat_mul {a b N : Nat} (h : (a : Int) * (b : Int) = (N : Int)) : N = a * b := by
  have : ((N : Nat) : Int) = ((a * b : Nat) : Int) := by rw [← h]; simp
  omega
theorem own_lt {w : World} {base : Nat} {e : TypeId} {size n m cap g : Nat} {xs : List Value} (h : w.ownsRow base e size (.slice (some ⟨g, 0, none⟩) m cap) n xs) : g < w.heap.size := by
  rcases h.2 with ⟨h, _⟩ | ⟨g', cap', cur, hv, _, hg, _⟩
  · simp at h
  · simp at hv
    obtain ⟨rfl, _⟩ := hv
    exact (Array.getElem?_eq_some_iff.1 hg).1
theorem one_at (w : World) (v : Value) (T : TypeId) : ∀ j u, [v][j]? = some u → (w.alloc (.cells #[v] T)).cell? ((⟨w.heap.size, 0, none⟩ : Addr).add j) = some u := by
  intro j u hu
  match j, hu with
  | 0, hu => simp at hu; subst hu; simp [Addr.add]
end Go.Proofs.Ytdpblimhfmfbnaa
/- The library's IndexFunc and ContainsFunc over numbers: a test that makes memory at most. -/
namespace Go.Proofs.Ytdpblimhfmfbnaa
open Go.RowKit
set_option linter.unusedVariables false
theorem any_drop {xs : List Int} {p : Int → Bool} {k : Nat} (h : k < xs.length) : (xs.drop k).any p = (p (xs.getD k 0) || (xs.drop (k + 1)).any p) := by
  have e : xs.getD k 0 = xs[k] := by simp [List.getD, List.getElem?_eq_getElem h]
  rw [List.drop_eq_getElem_cons h, List.any_cons, e]
end Go.Proofs.Ytdpblimhfmfbnaa
/- Layer 8: whether the ground under a building is firm. -/
namespace Go.Proofs.Ytdpblimhfmfbnaa
open Go.RowKit
set_option linter.unusedVariables false
theorem frB_any (W : Int) (xs : List Int) (b : Bd) : (undL W b).any (fun t => decide (1 < xs.getD t.toNat 0)) = !(frB W xs b) := by
  unfold frB
  rw [List.not_all_eq_any_not]
  congr 1
  funext t
  rw [← decide_not]
  congr 1
  exact propext ⟨by omega, by omega⟩
theorem n16_of {b : Bd} (f : FmOk b) : b.w.toNat * b.h.toNat ≤ 16 := by
  have := Nat.mul_le_mul (show b.w.toNat ≤ 4 by have := f.w2; omega) (show b.h.toNat ≤ 4 by have := f.h2; omega)
  omega
end Go.Proofs.Ytdpblimhfmfbnaa
/- Layer 8: the reference's firm. -/
namespace Go.Proofs.Ytdpblimhfmfbnaa
open Go.RowKit
set_option linter.unusedVariables false
theorem frB_iff {W H : Int} {n : Nat} {xs : List Int} {b : Bd} (g : GOk W H n xs) (f : FmOk b) (i : InOk W H b) : frB W xs b = true ↔ ∀ k : Nat, k < n → hsB W b k = true → xs.getD k 0 ≤ 1 := by
  unfold frB
  rw [List.all_eq_true]
  constructor
  · intro h k hk hh
    have := h (k : Int) ((und_mem f i (by omega)).2 hh)
    simpa using this
  · intro h t ht
    obtain ⟨j, hj, rfl⟩ := List.mem_map.1 ht
    have hu := und_md f i (List.mem_range.1 hj)
    have hk : (undAt W b j).toNat < n := by have := g.nn; omega
    have := h _ hk (by rw [Int.toNat_of_nonneg hu.2.2.1]; exact (und_mem f i hu.2.2.1).1 ht)
    simpa using this
end Go.Proofs.Ytdpblimhfmfbnaa
/- Layer 8: the reference's May. -/
namespace Go.Proofs.Ytdpblimhfmfbnaa
open Go.RowKit
set_option linter.unusedVariables false
set_option linter.unusedSimpArgs false
theorem hsz1 {w X : World} {o : Obj} (h : Below (w.heap.size + 1) (w.alloc o) X) : w.heap.size ≤ X.heap.size := by have := h.size; simp at this; omega
end Go.Proofs.Ytdpblimhfmfbnaa
