import Derived.Deep.QuietTactic
import Derived.BigQuiet
import Derived.Deep.RegionWith
import Derived.Deep.RegionHeld3
import Derived.Deep.DeepCutAuto
import Derived.Deep.DeepFit
import Derived.Outline
import Derived.Test.YtdpblimhfmfbnaaZsb
import Derived.RegionTactic
import Derived.ChangeAlike
import Derived.BigRegion
set_option linter.unusedVariables false
set_option linter.unusedSimpArgs false
namespace Go.Proofs.Ytdpblimhfmfbnaa
open Go.ChangeShapes Go.WideShapes Go.ChangeAt Go.RowKit Go.Deep
structure Sh (α : Type) where
 c : α → List Value
 z : Nat
 len : ∀ x, (c x).length = z
 one : ∀ x, ∀ u ∈ c x, u.oneCell' = true
section
variable {α : Type} (S : Sh α)
def flt (l : List α) : List Value := l.flatMap S.c
theorem flt_nil : flt S [] = [] := rfl
theorem flt_cons (x : α) (l : List α) : flt S (x :: l) = S.c x ++ flt S l := rfl
theorem flt_app (l m : List α) : flt S (l ++ m) = flt S l ++ flt S m := List.flatMap_append
theorem flt_one1 (x : α) : flt S [x] = S.c x := by rw [flt_cons, flt_nil, List.append_nil]
theorem flt_len (l : List α) : (flt S l).length = l.length * S.z := by
 induction l with
 | nil => show 0 = 0 * S.z; omega
 | cons a l ih => rw [flt_cons, List.length_append, ih, S.len, List.length_cons, Nat.add_mul]; omega
theorem flt_one (l : List α) : ∀ u ∈ flt S l, u.oneCell' = true := fun u hu => by
 obtain ⟨p, _, h⟩ := List.mem_flatMap.1 hu
 exact S.one p u h
theorem flt_at (l : List α) (k j : Nat) (h : k < l.length) (hj : j < S.z) : (flt S l)[k * S.z + j]? = (S.c l[k])[j]? := by
 induction l generalizing k with
 | nil => exact absurd h (by simp)
 | cons a l ih =>
  rw [flt_cons]
  cases k with
  | zero => rw [Nat.zero_mul, Nat.zero_add, List.getElem?_append_left (by rw [S.len]; exact hj)]; rfl
  | succ k =>
   have e : (k + 1) * S.z + j = S.z + (k * S.z + j) := by rw [Nat.add_mul]; omega
   rw [e, List.getElem?_append_right (by rw [S.len]; omega), S.len, Nat.add_sub_cancel_left, ih k (by simpa using h)]
   rfl
theorem flt_take (l : List α) (k : Nat) : flt S (l.take k) = (flt S l).take (k * S.z) := by
 induction l generalizing k with
 | nil => rw [List.take_nil, flt_nil, List.take_nil]
 | cons a l ih =>
  cases k with
  | zero => rw [List.take_zero, Nat.zero_mul, List.take_zero]; rfl
  | succ k =>
   rw [List.take_succ_cons, flt_cons, flt_cons, ih, Nat.add_mul, Nat.one_mul, List.take_append, S.len, Nat.add_sub_cancel, List.take_of_length_le (i := k * S.z + S.z) (by rw [S.len]; omega)]
structure Qv (w : World) (B : Nat) (a : Option Addr) (n : Nat) (l : List α) : Prop where
 len : l.length = n
 rd : 0 < n → ∃ b off, a = some ⟨b, off, none⟩ ∧ b < B ∧ ∀ k (h : k < l.length) j, j < S.z → w.cell? ⟨b, off + k * S.z + j, none⟩ = (S.c l[k])[j]?
end
section
variable {α : Type} {S : Sh α}
theorem Qv.below {w w' : World} {B B' n : Nat} {a : Option Addr} {l : List α} (h : Qv S w B a n l) (hb : Below B' w w') (hB : B ≤ B') : Qv S w' B a n l := ⟨h.len, fun hn => by
 obtain ⟨b, off, e, hlt, hc⟩ := h.rd hn
 exact ⟨b, off, e, hlt, fun k hk j hj => (hb.cell (p := ⟨b, off + k * S.z + j, none⟩) (Nat.lt_of_lt_of_le hlt hB)).trans (hc k hk j hj)⟩⟩
theorem Qv.mono {w : World} {B B' n : Nat} {a : Option Addr} {l : List α} (h : Qv S w B a n l) (hB : B ≤ B') : Qv S w B' a n l := ⟨h.len, fun hn => by
 obtain ⟨b, off, e, hlt, hc⟩ := h.rd hn
 exact ⟨b, off, e, by omega, hc⟩⟩
theorem Qv.drewN {w : World} {B n : Nat} {a : Option Addr} {l : List α} (h : Qv S w B a n l) (m : Nat) : Qv S (w.drewN m) B a n l := ⟨h.len, h.rd⟩
theorem Qv.nil (w : World) (B : Nat) (a : Option Addr) : Qv S w B a 0 [] := ⟨rfl, fun h => absurd h (by omega)⟩
theorem Qv.news {w : World} {B n : Nat} {ad : Addr} {l : List α} (hz : 0 < S.z) (h : Qv S w B (some ad) n l) : ∀ j u, (flt S l)[j]? = some u → w.cell? (ad.add j) = some u := by
 intro j u hj
 have hjl : j < l.length * S.z := by
  rcases Nat.lt_or_ge j (l.length * S.z) with h0 | h0
  ·exact h0
  ·rw [List.getElem?_eq_none (by rw [flt_len]; exact h0)] at hj; cases hj
 have hk : j / S.z < l.length := Nat.div_lt_of_lt_mul (by rw [Nat.mul_comm]; exact hjl)
 have hm : j % S.z < S.z := Nat.mod_lt _ hz
 have e0 : j / S.z * S.z + j % S.z = j := by rw [Nat.mul_comm]; exact Nat.div_add_mod j S.z
 obtain ⟨b, off, e, _, hc⟩ := h.rd (Nat.lt_of_le_of_lt (Nat.zero_le _) (h.len ▸ hk))
 obtain rfl : ad = ⟨b, off, none⟩ := by injection e
 have h1 := hc (j / S.z) hk (j % S.z) hm
 have h2 := flt_at S l (j / S.z) (j % S.z) hk hm
 rw [e0, hj] at h2
 rw [Nat.add_assoc, e0] at h1
 have h3 : (⟨b, off, none⟩ : Addr).add j = ⟨b, off + j, none⟩ := by unfold Addr.add; split <;> simp_all
 rw [h3, h1, h2]
structure Ow (S : Sh α) (T : TypeId) (w : World) (base : Nat) (v : Value) (n : Nat) (l : List α) : Prop where
 len : l.length = n
 row : w.ownsRow base T S.z v n (flt S l)
variable {T : TypeId}
theorem Ow.lt {w : World} {base n : Nat} {v : Value} {l : List α} (h : Ow S T w base v n l) : ∀ k, v.ownBlock = some k → base ≤ k ∧ k < w.heap.size := h.row.lt
theorem Ow.nil (w : World) (base : Nat) : Ow S T w base (.slice none 0 0) 0 [] := ⟨rfl, World.ownsRow_nil _ _ _ _⟩
theorem Ow.fr {M : Nat → Prop} {w w' : World} {base n : Nat} {v : Value} {l : List α} (h : Ow S T w base v n l) (k : Fr M w w') (hm : ∀ j, v.ownBlock = some j → ¬ M j) : Ow S T w' base v n l := ⟨h.len, k.row h.row hm⟩
theorem Ow.below {w w' : World} {base n : Nat} {v : Value} {l : List α} (h : Ow S T w base v n l) (hb : Below w.heap.size w w') : Ow S T w' base v n l := h.fr (Fr.of_below hb) fun j hj hm => by have := (h.lt j hj).2; omega
theorem Ow.drewN {w : World} {base n : Nat} {v : Value} {l : List α} (h : Ow S T w base v n l) (m : Nat) : Ow S T (w.drewN m) base v n l := ⟨h.len, h.row⟩
theorem Ow.alloc {w : World} {base n : Nat} {v : Value} {l : List α} (h : Ow S T w base v n l) (o : Obj) : Ow S T (w.alloc o) base v n l := h.below ((Below.refl _ _).alloc (Nat.le_refl _) o)
theorem Ow.weak {w : World} {base base' n : Nat} {v : Value} {l : List α} (h : Ow S T w base v n l) (hb : base' ≤ base) : Ow S T w base' v n l := by
 refine ⟨h.len, h.row.1, ?_⟩
 rcases h.row.2 with e | ⟨g, cap, cur, e1, hg, e2⟩
 ·exact .inl e
 ·exact .inr ⟨g, cap, cur, e1, by omega, e2⟩
theorem Ow.form {w : World} {base n : Nat} {v : Value} {l : List α} (h : Ow S T w base v n l) : ∃ a c, v = .slice a n c ∧ (0 < n → ∃ g, a = some ⟨g, 0, none⟩ ∧ base ≤ g ∧ g < w.heap.size) := by
 rcases h.row.2 with ⟨e, e2⟩ | ⟨g, cap, cur, e, hg, hh, _⟩
 ·subst e2; exact ⟨none, 0, e, fun h => absurd h (by omega)⟩
 ·exact ⟨_, _, e, fun _ => ⟨g, rfl, hg, lt_of_block hh⟩⟩
theorem Ow.qv {w : World} {base n c : Nat} {a : Option Addr} {l : List α} (h : Ow S T w base (.slice a n c) n l) : Qv S w w.heap.size a n l := by
 refine ⟨h.len, fun hn => ?_⟩
 obtain ⟨a', c', e, hf⟩ := h.form
 injection e with e1 e2 e3
 subst e1
 obtain ⟨g, rfl, hg, hlt⟩ := hf hn
 refine ⟨g, 0, rfl, hlt, fun k hk j hj => ?_⟩
 have hl := h.len
 have hx : k * S.z + j < n * S.z := by
  have := Nat.mul_le_mul_right S.z (show k + 1 ≤ n by omega)
  rw [Nat.add_mul] at this; omega
 have := h.row.cellAt (k * S.z + j) hx
 rw [Nat.zero_add, this, flt_at S l k j hk hj]
end
end Go.Proofs.Ytdpblimhfmfbnaa
namespace Go.Proofs.Ytdpblimhfmfbnaa
open Go.RowKit
end Go.Proofs.Ytdpblimhfmfbnaa
namespace Go.Proofs.Ytdpblimhfmfbnaa
open Go.RowKit
end Go.Proofs.Ytdpblimhfmfbnaa
namespace Go.Proofs.Ytdpblimhfmfbnaa
open Go.RowKit
end Go.Proofs.Ytdpblimhfmfbnaa
namespace Go.Proofs.Ytdpblimhfmfbnaa
open Go.RowKit
end Go.Proofs.Ytdpblimhfmfbnaa
namespace Go.Proofs.Ytdpblimhfmfbnaa
open Go.ChangeShapes Go.WideShapes Go.ChangeAt Go.RowKit Go.Deep
structure Cm where
 p : Int
 s : Int
 k : Int
 f : CF
structure Cv where
 p : Int
 s : Int
 k : Int
 n : Int
 a : Option Addr
 m : Nat
 c : Nat
 t : Int
 w : Int
 h : Int
 x : Int
 y : Int
 u : List Int
instance : Inhabited Cv := ⟨⟨0, 0, 0, 0, none, 0, 0, 0, 0, 0, 0, 0, []⟩⟩
def Cv.f (q : Cv) : CF := ⟨q.n, q.u, q.t, q.w, q.h, q.x, q.y⟩
def Cv.ab (q : Cv) : Cm := ⟨q.p, q.s, q.k, q.f⟩
def Cv.cs (q : Cv) : List Value := [.int .i64 q.p, .int .i64 q.s, .int .i64 q.k, .int .i64 q.n, .slice q.a q.m q.c, .int .i64 q.t, .int .i64 q.w, .int .i64 q.h, .int .i64 q.x, .int .i64 q.y]
def shC : Sh Cv := ⟨Cv.cs, 10, fun _ => rfl, fun x u hu => by
 simp [Cv.cs] at hu
 rcases hu with rfl | rfl | rfl | rfl | rfl | rfl | rfl | rfl | rfl | rfl <;> rfl⟩
structure Iv where
 t : Int
 p : Int
 a : Option Addr
 n : Nat
 c : Nat
 l : List Cv
instance : Inhabited Iv := ⟨⟨0, 0, none, 0, 0, []⟩⟩
def Iv.cs (i : Iv) : List Value := [.int .i64 i.t, .int .i64 i.p, .slice i.a i.n i.c]
def shI : Sh Iv := ⟨Iv.cs, 3, fun _ => rfl, fun x u hu => by
 simp [Iv.cs] at hu
 rcases hu with rfl | rfl | rfl <;> rfl⟩
structure In where
 t : Int
 p : Int
 l : List Cm
def Iv.ab (i : Iv) : In := ⟨i.t, i.p, i.l.map Cv.ab⟩
structure CmD (w : World) (B : Nat) (a : Option Addr) (n : Nat) (l : List Cv) : Prop where
 q : Qv shC w B a n l
 u : ∀ x, x ∈ l → Nq w B x.a x.m x.u
structure InD (w : World) (B : Nat) (a : Option Addr) (n : Nat) (l : List Iv) : Prop where
 q : Qv shI w B a n l
 u : ∀ x, x ∈ l → CmD w B x.a x.n x.l
section
variable {w w' : World} {B B' n : Nat} {a : Option Addr}
theorem CmD.below {l : List Cv} (h : CmD w B a n l) (hb : Below B' w w') (hB : B ≤ B') : CmD w' B a n l := ⟨h.q.below hb hB, fun x hx => (h.u x hx).below hb hB⟩
theorem CmD.mono {l : List Cv} (h : CmD w B a n l) (hB : B ≤ B') : CmD w B' a n l := ⟨h.q.mono hB, fun x hx => (h.u x hx).mono hB⟩
theorem CmD.drewN {l : List Cv} (h : CmD w B a n l) (m : Nat) : CmD (w.drewN m) B a n l := ⟨h.q.drewN m, fun x hx => (h.u x hx).drewN m⟩
theorem CmD.nil (w : World) (B : Nat) (a : Option Addr) : CmD w B a 0 [] := ⟨Qv.nil _ _ _, fun _ h => by cases h⟩
theorem CmD.later {l : List Cv} (h : CmD w w.heap.size a n l) (hb : Below w.heap.size w w') : CmD w' w'.heap.size a n l := (h.below hb (Nat.le_refl _)).mono hb.size
theorem InD.below {l : List Iv} (h : InD w B a n l) (hb : Below B' w w') (hB : B ≤ B') : InD w' B a n l := ⟨h.q.below hb hB, fun x hx => (h.u x hx).below hb hB⟩
theorem InD.mono {l : List Iv} (h : InD w B a n l) (hB : B ≤ B') : InD w B' a n l := ⟨h.q.mono hB, fun x hx => (h.u x hx).mono hB⟩
theorem InD.drewN {l : List Iv} (h : InD w B a n l) (m : Nat) : InD (w.drewN m) B a n l := ⟨h.q.drewN m, fun x hx => (h.u x hx).drewN m⟩
theorem InD.nil (w : World) (B : Nat) (a : Option Addr) : InD w B a 0 [] := ⟨Qv.nil _ _ _, fun _ h => by cases h⟩
theorem InD.later {l : List Iv} (h : InD w w.heap.size a n l) (hb : Below w.heap.size w w') : InD w' w'.heap.size a n l := (h.below hb (Nat.le_refl _)).mono hb.size
theorem CmD.ten {l : List Cv} (h : CmD w B a n l) {k : Nat} (hk : k < n) : ∃ b off, a = some ⟨b, off, none⟩ ∧ b < B ∧ (w.cell? ⟨b, off + k * 10, none⟩ = some (.int .i64 (l.getD k default).p) ∧ w.cell? ⟨b, off + k * 10 + 1, none⟩ = some (.int .i64 (l.getD k default).s) ∧ w.cell? ⟨b, off + k * 10 + 2, none⟩ = some (.int .i64 (l.getD k default).k) ∧ w.cell? ⟨b, off + k * 10 + 3, none⟩ = some (.int .i64 (l.getD k default).n) ∧ w.cell? ⟨b, off + k * 10 + 4, none⟩ = some (.slice (l.getD k default).a (l.getD k default).m (l.getD k default).c) ∧ w.cell? ⟨b, off + k * 10 + 5, none⟩ = some (.int .i64 (l.getD k default).t) ∧ w.cell? ⟨b, off + k * 10 + 6, none⟩ = some (.int .i64 (l.getD k default).w) ∧ w.cell? ⟨b, off + k * 10 + 7, none⟩ = some (.int .i64 (l.getD k default).h) ∧ w.cell? ⟨b, off + k * 10 + 8, none⟩ = some (.int .i64 (l.getD k default).x) ∧ w.cell? ⟨b, off + k * 10 + 9, none⟩ = some (.int .i64 (l.getD k default).y)) ∧ Nq w B (l.getD k default).a (l.getD k default).m (l.getD k default).u := by
 obtain ⟨b, off, e, hlt, hc⟩ := h.q.rd (by omega)
 have hk' : k < l.length := by rw [h.q.len]; exact hk
 have hg : l.getD k default = l[k] := by simp [List.getD, hk']
 have c := hc k hk'
 rw [hg]
 exact ⟨b, off, e, hlt, ⟨c 0 (by decide), c 1 (by decide), c 2 (by decide), c 3 (by decide), c 4 (by decide), c 5 (by decide), c 6 (by decide), c 7 (by decide), c 8 (by decide), c 9 (by decide)⟩, h.u _ (List.getElem_mem hk')⟩
theorem InD.three {l : List Iv} (h : InD w B a n l) {k : Nat} (hk : k < n) : ∃ b off, a = some ⟨b, off, none⟩ ∧ b < B ∧ (w.cell? ⟨b, off + k * 3, none⟩ = some (.int .i64 (l.getD k default).t) ∧ w.cell? ⟨b, off + k * 3 + 1, none⟩ = some (.int .i64 (l.getD k default).p) ∧ w.cell? ⟨b, off + k * 3 + 2, none⟩ = some (.slice (l.getD k default).a (l.getD k default).n (l.getD k default).c)) ∧ CmD w B (l.getD k default).a (l.getD k default).n (l.getD k default).l := by
 obtain ⟨b, off, e, hlt, hc⟩ := h.q.rd (by omega)
 have hk' : k < l.length := by rw [h.q.len]; exact hk
 have hg : l.getD k default = l[k] := by simp [List.getD, hk']
 have c := hc k hk'
 rw [hg]
 exact ⟨b, off, e, hlt, ⟨c 0 (by decide), c 1 (by decide), c 2 (by decide)⟩, h.u _ (List.getElem_mem hk')⟩
end
def OwE (w : World) (base : Nat) (a : Option Addr) (m c : Nat) (u : List Int) : Prop := OwnI w base (.slice a m c) m u ∨ (m = 0 ∧ c = 0 ∧ u = [])
theorem OwE.nq {w : World} {base m c : Nat} {a : Option Addr} {u : List Int} (h : OwE w base a m c u) : Nq w w.heap.size a m u := by
 rcases h with h | ⟨rfl, rfl, rfl⟩
 ·obtain ⟨a', c', e, _, hq⟩ := h.nq
  injection e with e1 e2 e3
  subst e1
  exact hq
 ·exact Nq.nil _ _ _
theorem OwE.below {w w' : World} {base m c : Nat} {a : Option Addr} {u : List Int} (h : OwE w base a m c u) (hb : Below w.heap.size w w') : OwE w' base a m c u := h.imp (fun h => h.below hb) id
theorem OwE.weak {w : World} {base base' m c : Nat} {a : Option Addr} {u : List Int} (h : OwE w base a m c u) (hb : base' ≤ base) : OwE w base' a m c u := h.imp (fun h => h.weak hb) id
theorem OwE.drewN {w : World} {base m c : Nat} {a : Option Addr} {u : List Int} (h : OwE w base a m c u) (k : Nat) : OwE (w.drewN k) base a m c u := h
theorem OwE.fr {M : Nat → Prop} {w w' : World} {base m c : Nat} {a : Option Addr} {u : List Int} (h : OwE w base a m c u) (k : Fr M w w') (hm : ∀ b off, a = some ⟨b, off, none⟩ → base ≤ b → ¬ M b) : OwE w' base a m c u := by
 rcases h with h | h
 ·refine .inl (Fr.owni h k fun j hj => ?_)
  obtain ⟨hl, hl2⟩ := h.lt j hj
  rcases h.2.2 with ⟨e, _⟩ | ⟨g, cap, cur, e, hg, _⟩
  ·rw [e] at hj; cases hj
  ·injection e with e1 e2 e3
   subst e1
   simp [Value.ownBlock] at hj
   subst hj
   exact hm g 0 rfl hg
 ·exact .inr h
theorem Ow.typ {α : Type} {S : Sh α} {T : TypeId} {w : World} {base n : Nat} {v : Value} {l : List α} (h : Ow S T w base v n l) {j : Nat} (hj : v.ownBlock = some j) : ∃ cur fr, w.heap[j]? = some (.cells cur T fr) := by
 rcases h.row.2 with ⟨e, _⟩ | ⟨g, cap, cur, e, hg, hh, _⟩
 ·rw [e] at hj; cases hj
 ·rw [e] at hj
  simp [Value.ownBlock] at hj
  subst hj
  exact ⟨_, _, hh⟩
theorem OwnI.typ {w : World} {base n : Nat} {v : Value} {l : List Int} (h : OwnI w base v n l) {j : Nat} (hj : v.ownBlock = some j) : ∃ cur fr, w.heap[j]? = some (.cells cur 3 fr) := by
 rcases h.2.2 with ⟨e, _⟩ | ⟨g, cap, cur, e, hg, hh, _⟩
 ·rw [e] at hj; cases hj
 ·rw [e] at hj
  simp [Value.ownBlock] at hj
  subst hj
  exact ⟨_, _, hh⟩
theorem OwE.keep {M : Nat → Prop} {w w' : World} {base m c : Nat} {a : Option Addr} {u : List Int} (h : OwE w base a m c u) (k : Fr M w w') (hm : ∀ j cur fr, w.heap[j]? = some (.cells cur 3 fr) → ¬ M j) : OwE w' base a m c u := by
 rcases h with h | h
 ·exact .inl (Fr.owni h k fun j hj => by obtain ⟨cur, fr, e⟩ := h.typ hj; exact hm j cur fr e)
 ·exact .inr h
structure OwC (w : World) (base : Nat) (v : Value) (n : Nat) (l : List Cv) : Prop where
 o : Ow shC 50 w base v n l
 u : ∀ x, x ∈ l → OwE w base x.a x.m x.c x.u
section
variable {w w' : World} {base base' n : Nat} {v : Value} {l : List Cv}
theorem OwC.below (h : OwC w base v n l) (hb : Below w.heap.size w w') : OwC w' base v n l := ⟨h.o.below hb, fun x hx => (h.u x hx).below hb⟩
theorem OwC.weak (h : OwC w base v n l) (hb : base' ≤ base) : OwC w base' v n l := ⟨h.o.weak hb, fun x hx => (h.u x hx).weak hb⟩
theorem OwC.drewN (h : OwC w base v n l) (m : Nat) : OwC (w.drewN m) base v n l := ⟨h.o.drewN m, fun x hx => (h.u x hx).drewN m⟩
theorem OwC.nil (w : World) (base : Nat) : OwC w base (.slice none 0 0) 0 [] := ⟨Ow.nil _ _, fun _ h => by cases h⟩
theorem OwC.d {a : Option Addr} {c : Nat} (h : OwC w base (.slice a n c) n l) : CmD w w.heap.size a n l := ⟨h.o.qv, fun x hx => (h.u x hx).nq⟩
end
def OwCE (w : World) (base : Nat) (a : Option Addr) (n c : Nat) (l : List Cv) : Prop := OwC w base (.slice a n c) n l ∨ (n = 0 ∧ c = 0 ∧ l = [])
section
variable {w w' : World} {base base' n c : Nat} {a : Option Addr} {l : List Cv}
theorem OwCE.d (h : OwCE w base a n c l) : CmD w w.heap.size a n l := by
 rcases h with h | ⟨rfl, rfl, rfl⟩
 ·exact h.d
 ·exact CmD.nil _ _ _
theorem OwCE.below (h : OwCE w base a n c l) (hb : Below w.heap.size w w') : OwCE w' base a n c l := h.imp (fun h => h.below hb) id
theorem OwCE.weak (h : OwCE w base a n c l) (hb : base' ≤ base) : OwCE w base' a n c l := h.imp (fun h => h.weak hb) id
theorem OwCE.drewN (h : OwCE w base a n c l) (m : Nat) : OwCE (w.drewN m) base a n c l := h.imp (fun h => h.drewN m) id
end
theorem OwC.keep {M : Nat → Prop} {w w' : World} {base n : Nat} {v : Value} {l : List Cv} (h : OwC w base v n l) (k : Fr M w w') (hm : ∀ j cur fr, w.heap[j]? = some (.cells cur 3 fr) → ¬ M j) (hm2 : ∀ j cur fr, w.heap[j]? = some (.cells cur 50 fr) → ¬ M j) : OwC w' base v n l :=
 ⟨h.o.fr k fun j hj => by obtain ⟨cur, fr, e⟩ := h.o.typ hj; exact hm2 j cur fr e, fun x hx => (h.u x hx).keep k hm⟩
theorem OwCE.keep {M : Nat → Prop} {w w' : World} {base n c : Nat} {a : Option Addr} {l : List Cv} (h : OwCE w base a n c l) (k : Fr M w w') (hm : ∀ j cur fr, w.heap[j]? = some (.cells cur 3 fr) → ¬ M j) (hm2 : ∀ j cur fr, w.heap[j]? = some (.cells cur 50 fr) → ¬ M j) : OwCE w' base a n c l := h.imp (fun h => h.keep k hm hm2) id
theorem OwE.up {M : Nat → Prop} {w w' : World} {base m c : Nat} {a : Option Addr} {u : List Int} (h : OwE w base a m c u) (k : Fr M w w') (hm : ∀ j, base ≤ j → ¬ M j) : OwE w' base a m c u := by
 rcases h with h | h
 ·exact .inl (Fr.owni h k fun j hj => hm j (h.lt j hj).1)
 ·exact .inr h
theorem OwC.up {M : Nat → Prop} {w w' : World} {base n : Nat} {v : Value} {l : List Cv} (h : OwC w base v n l) (k : Fr M w w') (hm : ∀ j, base ≤ j → ¬ M j) : OwC w' base v n l := ⟨h.o.fr k fun j hj => hm j (h.o.lt j hj).1, fun x hx => (h.u x hx).up k hm⟩
theorem OwCE.up {M : Nat → Prop} {w w' : World} {base n c : Nat} {a : Option Addr} {l : List Cv} (h : OwCE w base a n c l) (k : Fr M w w') (hm : ∀ j, base ≤ j → ¬ M j) : OwCE w' base a n c l := h.imp (fun h => h.up k hm) id
structure OwN (w : World) (base : Nat) (v : Value) (n : Nat) (l : List Iv) : Prop where
 o : Ow shI 55 w base v n l
 u : ∀ x, x ∈ l → OwCE w base x.a x.n x.c x.l
section
variable {w w' : World} {base base' n : Nat} {v : Value} {l : List Iv}
theorem OwN.below (h : OwN w base v n l) (hb : Below w.heap.size w w') : OwN w' base v n l := ⟨h.o.below hb, fun x hx => (h.u x hx).below hb⟩
theorem OwN.weak (h : OwN w base v n l) (hb : base' ≤ base) : OwN w base' v n l := ⟨h.o.weak hb, fun x hx => (h.u x hx).weak hb⟩
theorem OwN.drewN (h : OwN w base v n l) (m : Nat) : OwN (w.drewN m) base v n l := ⟨h.o.drewN m, fun x hx => (h.u x hx).drewN m⟩
theorem OwN.nil (w : World) (base : Nat) : OwN w base (.slice none 0 0) 0 [] := ⟨Ow.nil _ _, fun _ h => by cases h⟩
theorem OwN.d {a : Option Addr} {c : Nat} (h : OwN w base (.slice a n c) n l) : InD w w.heap.size a n l := ⟨h.o.qv, fun x hx => (h.u x hx).d⟩
end
theorem getD_mapC {l : List Cv} {k : Nat} (h : k < l.length) : (l.map Cv.ab)[k]? = some (l.getD k default).ab := by simp [List.getD, h]
theorem take_snocI {l : List Iv} {k : Nat} (h : k < l.length) : l.take (k + 1) = l.take k ++ [l.getD k default] := by rw [List.take_succ_eq_append_getElem h]; simp [List.getD, h]
end Go.Proofs.Ytdpblimhfmfbnaa
