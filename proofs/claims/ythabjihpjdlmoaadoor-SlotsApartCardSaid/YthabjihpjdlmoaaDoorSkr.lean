import Derived.Deep.RegionHeld3
import Derived.Deep.RegionWith
import Derived.Test.YthabjihpjdlmoaaDoorSkn
import Derived.Test.YthabjihpjdlmoaaDoorSkq
import Derived.Test.YthabjihpjdlmoaaDoorSkb
import Derived.Test.YthabjihpjdlmoaaDoorSke
/- The contracts of what is scaled, of package vec and of the reference. -/
namespace Go.Proofs.YthabjihpjdlmoaaDoor
open Go.RowKit
set_option linter.unusedVariables false
/-- What a call that makes memory leaves as it was: two cells of a box and the two cells of the result behind it. -/
structure Kept (w0 w : World) (x y u v : Value) : Prop where
  c0 : w.cell? ⟨w0.heap.size, 0, none⟩ = some x
  c1 : w.cell? ⟨w0.heap.size, 1, none⟩ = some y
  d0 : w.cell? ⟨w0.heap.size + 1, 0, none⟩ = some u
  d1 : w.cell? ⟨w0.heap.size + 1, 1, none⟩ = some v
  f0 : w.frozen? ⟨w0.heap.size + 1, 0, none⟩ = false
  f1 : w.frozen? ⟨w0.heap.size + 1, 1, none⟩ = false
  hs : w0.heap.size + 1 < w.heap.size
  hB : Below w0.heap.size w0 w
theorem Kept.start (w : World) (x y u v : Value) (t t' : TypeId) : Kept w ((w.alloc (.cells #[x, y] t)).alloc (.cells #[u, v] t')) x y u v :=
  ⟨by go_simp, by go_simp, by go_simp, by go_simp, by go_simp, by go_simp, by simp, ((Below.refl _ _).alloc (Nat.le_refl _) _).alloc (by simp) _⟩
theorem Kept.next {w0 w w' : World} {x y u v : Value} (h : Kept w0 w x y u v) (hb : Below w.heap.size w w') : Kept w0 w' x y u v := by
  have hs := h.hs
  exact ⟨(hb.cell (p := ⟨w0.heap.size, 0, none⟩) (by simp; omega)).trans h.c0, (hb.cell (p := ⟨w0.heap.size, 1, none⟩) (by simp; omega)).trans h.c1,
   (hb.cell (p := ⟨w0.heap.size + 1, 0, none⟩) hs).trans h.d0, (hb.cell (p := ⟨w0.heap.size + 1, 1, none⟩) hs).trans h.d1,
   (hb.frozen (p := ⟨w0.heap.size + 1, 0, none⟩) hs).trans h.f0, (hb.frozen (p := ⟨w0.heap.size + 1, 1, none⟩) hs).trans h.f1, Nat.lt_of_lt_of_le hs hb.size, h.hB.trans (hb.mono h.hB.size)⟩
theorem Kept.drew {w0 w : World} {x y u v : Value} (h : Kept w0 w x y u v) : Kept w0 w.drew x y u v := ⟨h.c0, h.c1, h.d0, h.d1, h.f0, h.f1, h.hs, h.hB.drew⟩
theorem heldV {P : Program} {F : FuncId} {args : Array Value} {w w0 : World} {r : Ending} {x y u v : Value} (h : Calls P F args w fun e w' => e = r ∧ Below w.heap.size w w') (hk : Fx.Hd (Kept w0 w x y u v)) :
    Calls P F args w fun e w' => e = r ∧ Fx.Hd (Kept w0 w' x y u v) ∧ w'.cell? ⟨w0.heap.size, 0, none⟩ = some x ∧ w'.cell? ⟨w0.heap.size, 1, none⟩ = some y ∧ w'.cell? ⟨w0.heap.size + 1, 0, none⟩ = some u ∧ w'.cell? ⟨w0.heap.size + 1, 1, none⟩ = some v ∧
      w'.frozen? ⟨w0.heap.size + 1, 0, none⟩ = false ∧ w'.frozen? ⟨w0.heap.size + 1, 1, none⟩ = false :=
  h.mono fun e w' ⟨h1, h2⟩ => by
    have k := hk.out.next h2
    exact ⟨h1, ⟨k⟩, k.c0, k.c1, k.d0, k.d1, k.f0, k.f1⟩
end Go.Proofs.YthabjihpjdlmoaaDoor
/- The contracts of the reference's root up to a bound, and of the squares of a way. -/
namespace Go.Proofs.YthabjihpjdlmoaaDoor
open Go.RowKit
set_option linter.unusedVariables false
theorem rplus_any (a b c d : Int) (w : World) (ha : 0 ≤ a) (hb : 0 ≤ b) (hc : 0 ≤ c) (hd : 0 ≤ d) (hb' : b ≤ 18446744073709551615) (hd' : d ≤ 18446744073709551615) (hs : a + c < 18446744073709551615) :
    Calls Tryd.prog 126 #[.agg #[.int .u64 a, .int .u64 b], .agg #[.int .u64 c, .int .u64 d]] w fun e w' => e = .returned (.agg #[.int .u64 (a + c + (b + d) / 18446744073709551616), .int .u64 ((b + d) % 18446744073709551616)]) ∧ Below w.heap.size w w' := by
  go_enter Tryd.func126, Tryd.ntmps126
  go_wp2
  · rename_i hl
    refine bodyPost_ret (v := .agg #[.int .u64 (a + c + 1), .int .u64 (IntKind.u64.wrap (b + d))]) (by simp [results, Tryd.results126, go_sem]) rfl ⟨?_, ?_⟩
    · rw [Fx.wrapu] at hl ⊢
      rw [show a + c + (b + d) / 18446744073709551616 = a + c + 1 by omega]
    · exact ((((Below.refl _ _).alloc (Nat.le_refl _) _).alloc (by simp) _).alloc (by simp; omega) _).alloc (by simp; omega) _
  · rename_i hl
    refine bodyPost_ret (v := .agg #[.int .u64 (a + c), .int .u64 (IntKind.u64.wrap (b + d))]) (by simp [results, Tryd.results126, go_sem]) rfl ⟨?_, ?_⟩
    · rw [Fx.wrapu] at hl ⊢
      rw [show a + c + (b + d) / 18446744073709551616 = a + c by omega]
    · exact ((((Below.refl _ _).alloc (Nat.le_refl _) _).alloc (by simp) _).alloc (by simp; omega) _).alloc (by simp; omega) _
theorem rplus_sq (a b c d x y h l : Int) (w : World) (hx : Fx.Hd (0 ≤ x ∧ x ≤ 85070591730234615847396907784232501249)) (hy : Fx.Hd (0 ≤ y ∧ y ≤ 85070591730234615847396907784232501249))
    (e1 : Fx.Hd (a = x / 18446744073709551616 ∧ b = x % 18446744073709551616)) (e2 : Fx.Hd (c = y / 18446744073709551616 ∧ d = y % 18446744073709551616)) (e : Fx.Hd (h = (x + y) / 18446744073709551616 ∧ l = (x + y) % 18446744073709551616)) :
    Calls Tryd.prog 126 #[.agg #[.int .u64 a, .int .u64 b], .agg #[.int .u64 c, .int .u64 d]] w fun e w' => e = .returned (.agg #[.int .u64 h, .int .u64 l]) ∧ Below w.heap.size w w' := by
  obtain ⟨⟨rfl, rfl⟩⟩ := e1
  obtain ⟨⟨rfl, rfl⟩⟩ := e2
  obtain ⟨⟨rfl, rfl⟩⟩ := e
  obtain ⟨hx⟩ := hx
  obtain ⟨hy⟩ := hy
  have hp := Fx.SQ_parts x y hx.1 hy.1
  have := rplus_any (x / 18446744073709551616) (x % 18446744073709551616) (y / 18446744073709551616) (y % 18446744073709551616) w (by omega) (by omega) (by omega) (by omega) (by omega) (by omega) (by omega)
  rw [hp.1, hp.2] at this
  exact this
set_option maxHeartbeats 400000 in
theorem squares_core (a b xh xl yh yl h l : Int) (w : World) (ha : Fx.I64 a) (hb : Fx.I64 b)
    (e1 : Fx.Hd (xh = Fx.sz a * Fx.sz a / 18446744073709551616 ∧ xl = Fx.sz a * Fx.sz a % 18446744073709551616)) (e2 : Fx.Hd (yh = Fx.sz b * Fx.sz b / 18446744073709551616 ∧ yl = Fx.sz b * Fx.sz b % 18446744073709551616))
    (e : Fx.Hd (h = (Fx.sz a * Fx.sz a + Fx.sz b * Fx.sz b) / 18446744073709551616 ∧ l = (Fx.sz a * Fx.sz a + Fx.sz b * Fx.sz b) % 18446744073709551616)) :
    Calls Tryd.prog 103 #[.agg #[.int .i64 a, .int .i64 b]] w fun e w' => e = .returned (.agg #[.int .u64 h, .int .u64 l]) ∧ Below w.heap.size w w' := by
  have k0 := Kept.start w (.int .i64 a) (.int .i64 b) (.int .u64 0) (.int .u64 0) 74 143
  have sa := Fx.sz_bd ha
  have sb := Fx.sz_bd hb
  have P1 := Fx.Hd.mk (Fx.prod_bd sa sa)
  have P2 := Fx.Hd.mk (Fx.prod_bd sb sb)
  go_enter Tryd.func103, Tryd.ntmps103
  go_wp2
  generalize (w.alloc (.cells #[.int .i64 a, .int .i64 b] 74)).alloc (.cells #[.int .u64 0, .int .u64 0] 143) = W at *
  have c0 := k0.c0
  have c1 := k0.c1
  go_region_held3 (fun w' => w'.cell? ⟨w.heap.size, 0, none⟩ = some (.int .i64 a) ∧ w'.cell? ⟨w.heap.size, 1, none⟩ = some (.int .i64 b)) (first | exact ⟨c0, c1⟩ | go_keep)
    (first | (go_at_call 101; refine (of_any _ _ (by assumption)).mono ?_; rintro e w' ⟨rfl, rfl⟩) | (go_at_call 125; refine (rsize_of _ _ (by assumption)).mono ?_; rintro e w' ⟨rfl, rfl⟩))
  replace k0 := k0.drew
  generalize W.drew = W2 at *
  clear c0 c1
  have e10 := k0.d0
  have e11 := k0.d1
  have e12 := k0.f0
  have e13 := k0.f1
  have e14 := k0.c0
  have e15 := k0.c1
  have K := Fx.Hd.mk k0
  clear k0
  go_wp2_with (first | (go_at_call 105; (first | (with_reducible refine (heldV (times_as (Fx.sz a) (Fx.sz a) xh xl _ sa sa e1) K).mono ?_) | (with_reducible refine (heldV (times_as (Fx.sz b) (Fx.sz b) yh yl _ sb sb e2) K).mono ?_)); clear K e10 e11 e12 e13 e14 e15; rintro e w2 ⟨rfl, K, e14, e15, e10, e11, e12, e13⟩) | (go_at_call 126; (with_reducible refine (heldV (rplus_sq xh xl yh yl _ _ h l _ P1 P2 e1 e2 e) K).mono ?_); clear K e10 e11 e12 e13 e14 e15; rintro e w2 ⟨rfl, K, e14, e15, e10, e11, e12, e13⟩))
  refine bodyPost_ret (v := .agg #[.int .u64 h, .int .u64 l]) (by simp [results, Tryd.results103, go_sem, e10, e11]) rfl ⟨rfl, ?_⟩
  exact (K.out.hB.setCell (by simp) _).setCell (by simp) _
end Go.Proofs.YthabjihpjdlmoaaDoor
/- The contracts of lengths of package vec and of the reference. -/
namespace Go.Proofs.YthabjihpjdlmoaaDoor
open Go.RowKit
set_option linter.unusedVariables false
theorem squares_any (a b h l : Int) (w : World) (ha : Fx.I64 a) (hb : Fx.I64 b) (e : Fx.Hd (h = Fx.SQ a b / 18446744073709551616 ∧ l = Fx.SQ a b % 18446744073709551616)) :
    Calls Tryd.prog 103 #[.agg #[.int .i64 a, .int .i64 b]] w fun e w' => e = .returned (.agg #[.int .u64 h, .int .u64 l]) ∧ Below w.heap.size w w' :=
  squares_core a b _ _ _ _ h l w ha hb ⟨rfl, rfl⟩ ⟨rfl, rfl⟩ e
end Go.Proofs.YthabjihpjdlmoaaDoor
/- The argument of the statements of layer 2: what is known of a list of two ways and a number each. -/
namespace Go.Proofs.YthabjihpjdlmoaaDoor
open Go.ChangeShapes Go.WideShapes Go.ChangeAt Go.RowKit Go.Deep
set_option linter.unusedVariables false

/-- A list of two ways and a number each: every element lies in memory, each number fits its kind. -/
def Asks2 (w : World) (a : Option Addr) (len cap : Nat) : Prop :=
  len ≤ cap ∧ cap ≤ 9223372036854775807 ∧ ∀ i, i < len → ∃ (b off : Nat) (x y u v k : Int), a = some ⟨b, off, none⟩ ∧ b < w.heap.size ∧ Fx.I64 x ∧ Fx.I64 y ∧ Fx.I64 u ∧ Fx.I64 v ∧ Fx.I64 k ∧
    w.cell? ⟨b, off + i * 5, none⟩ = some (.int .i64 x) ∧ w.cell? ⟨b, off + i * 5 + 1, none⟩ = some (.int .i64 y) ∧ w.cell? ⟨b, off + i * 5 + 2, none⟩ = some (.int .i64 u) ∧
    w.cell? ⟨b, off + i * 5 + 3, none⟩ = some (.int .i64 v) ∧ w.cell? ⟨b, off + i * 5 + 4, none⟩ = some (.int .i64 k)

theorem vec_of {H : Type} {enc : TypeId × Value → H} {w : World} {base : Nat} {spare : Nat → Bool} {held : Bool} {fuel : Nat} {x : DataW H × List MemPlace} {c0 c1 : Value}
    (hf : DataW.trod enc Tryd.prog w base spare held fuel 74 [c0, c1] = some x) : ∃ x y : Int, c0 = .int .i64 x ∧ c1 = .int .i64 y ∧ Fx.I64 x ∧ Fx.I64 y := by
  have h2 : Tryd.prog.cellsOf 2 = 1 := by kernel_rfl
  obtain ⟨ys, n', _, _, _, hyl, hg⟩ := DataW.trod_struct Tryd.underlying74 hf
  match ys, hyl with
  | [y0, y1], _ =>
    have g0 := hg 0 _ rfl
    have g1 := hg 1 _ rfl
    simp [h2] at g0 g1
    obtain ⟨x0, e0, _, w0⟩ := DataW.trod_int Tryd.underlying2 g0
    obtain ⟨x1, e1, _, w1⟩ := DataW.trod_int Tryd.underlying2 g1
    simp at e0 e1
    exact ⟨x0, x1, e0, e1, i64_of_wf w0, i64_of_wf w1⟩

end Go.Proofs.YthabjihpjdlmoaaDoor
/- The contracts of nearness of package vec and of the reference. -/
namespace Go.Proofs.YthabjihpjdlmoaaDoor
open Go.RowKit
set_option linter.unusedVariables false
set_option maxHeartbeats 800000 in
theorem rwithin_any (a b c d r : Int) (w : World) (ha : Fx.I64 a) (hb : Fx.I64 b) (hc : Fx.I64 c) (hd : Fx.I64 d) (hr : Fx.I64 r) :
    Calls Tryd.prog 76 #[.agg #[.int .i64 a, .int .i64 b], .agg #[.int .i64 c, .int .i64 d], .int .i64 r] w fun e w' => e = .returned (.bool (Fx.withinS a b c d r)) ∧ Below w.heap.size w w' := by
  have HB : Fx.Hd (Below w.heap.size w ((w.alloc (.cells #[.int .i64 a, .int .i64 b] 74)).alloc (.cells #[.int .i64 c, .int .i64 d] 74))) := ⟨((Below.refl _ _).alloc (Nat.le_refl _) _).alloc (by simp) _⟩
  by_cases hn : r < 0
  · have ED : Fx.Hd (Fx.withinS a b c d r = false) := ⟨by unfold Fx.withinS; simp; omega⟩
    have hn2 := (Fx.cnt_sign hr).2 hn
    go_enter Tryd.func76, Tryd.ntmps76
    go_wp2_with (go_at_call 101; (with_reducible refine (of_any r _ hr).mono ?_); rintro e w' ⟨rfl, rfl⟩)
    go_ret
    exact ⟨Fx.rb ED.out.symm, HB.out⟩
  · obtain ⟨r0, r1⟩ : 0 ≤ r ∧ r ≤ 9223372036854775807 := ⟨by omega, hr.2⟩
    have hof := fun w => of_any r w hr
    rw [Fx.cnt_in (by omega)] at hof
    have HOF := Fx.Hd.mk hof
    clear hof hn
    have s1 := Fx.sub_i64 a c
    have s2 := Fx.sub_i64 b d
    have hs := (Fx.SQ_bd s1 s2).1
    obtain ⟨h, hh⟩ : ∃ h, h = Fx.SQ (Fx.subS a c) (Fx.subS b d) / 18446744073709551616 := ⟨_, rfl⟩
    obtain ⟨l, hl⟩ : ∃ l, l = Fx.SQ (Fx.subS a c) (Fx.subS b d) % 18446744073709551616 := ⟨_, rfl⟩
    obtain ⟨mh, hmh⟩ : ∃ mh, mh = r * r / 18446744073709551616 := ⟨_, rfl⟩
    obtain ⟨ml, hml⟩ : ∃ ml, ml = r * r % 18446744073709551616 := ⟨_, rfl⟩
    have G : Fx.Hd (Fx.withinS a b c d r = Fx.lessB h l mh ml) := ⟨by rw [hh, hl, hmh, hml, Fx.lessB_pair hs (Int.mul_nonneg r0 r0)]; unfold Fx.withinS; simp [r0]⟩
    have E := Fx.Hd.mk (And.intro hh hl)
    have E2 := Fx.Hd.mk (And.intro hmh hml)
    clear hh hl hmh hml hs
    go_enter Tryd.func76, Tryd.ntmps76
    go_wp2_with (first | (go_at_call 101; (with_reducible refine (HOF.out _).mono ?_); rintro e w' ⟨rfl, rfl⟩) | (go_at_call 104; (with_reducible refine (up (rvsub_any a b c d _ ha hb hc hd) HB).mono ?_); clear HB; rintro e w' ⟨rfl, HB⟩) | (go_at_call 103; (with_reducible refine (up (squares_any (Fx.subS a c) (Fx.subS b d) h l _ s1 s2 E) HB).mono ?_); clear HB; rintro e w' ⟨rfl, HB⟩) | (go_at_call 105; (with_reducible refine (up (times_as r r mh ml _ ⟨r0, r1⟩ ⟨r0, r1⟩ E2) HB).mono ?_); clear HB; rintro e w' ⟨rfl, HB⟩) | (go_at_call 102; (with_reducible refine (up (rless_as h l mh ml (Fx.withinS a b c d r) _ G) HB).mono ?_); clear HB; rintro e w' ⟨rfl, HB⟩))
    go_ret
    exact ⟨rfl, HB.out⟩
end Go.Proofs.YthabjihpjdlmoaaDoor
/- Contracts of layer 17: discs. -/
namespace Go.Proofs.YthabjihpjdlmoaaDoor
open Go.RowKit
set_option linter.unusedVariables false
theorem rad_cases (r : Int) : (¬ 0 < r ∧ r < 262144 ∧ Fx.radS r = 0) ∨ (0 < r ∧ 262144 < r ∧ Fx.radS r = 262144) ∨ (0 < r ∧ r < 262144 ∧ Fx.radS r = r) ∨ (r = 262144 ∧ Fx.radS r = 262144) := by
  unfold Fx.radS; (repeat' split) <;> omega
set_option maxHeartbeats 1600000 in
theorem rapart_core (a b r c d s R S : Int) (g : Bool) (w : World) (ha : Fx.I64 a) (hb : Fx.I64 b) (hc : Fx.I64 c) (hd : Fx.I64 d) (cr : (¬ 0 < r ∧ r < 262144 ∧ R = 0) ∨ (0 < r ∧ 262144 < r ∧ R = 262144) ∨ (0 < r ∧ r < 262144 ∧ R = r) ∨ (r = 262144 ∧ R = 262144)) (cs : (¬ 0 < s ∧ s < 262144 ∧ S = 0) ∨ (0 < s ∧ 262144 < s ∧ S = 262144) ∨ (0 < s ∧ s < 262144 ∧ S = s) ∨ (s = 262144 ∧ S = 262144)) (HG : Hk (Fx.withinS a b c d (R + S) = g)) :
    Calls Tryd.prog 50 #[.agg #[.int .i64 a, .int .i64 b], .int .i64 r, .agg #[.int .i64 c, .int .i64 d], .int .i64 s] w fun e w' => e = .returned (.bool (!g)) ∧ Below w.heap.size w w' := by
  have hm : Fx.I64 (R + S) := by unfold Fx.I64; omega
  rcases cr with ⟨r0, r1, rfl⟩ | ⟨r0, r1, rfl⟩ | ⟨r0, r1, rfl⟩ | ⟨rfl, rfl⟩ <;> rcases cs with ⟨s0, s1, rfl⟩ | ⟨s0, s1, rfl⟩ | ⟨s0, s1, rfl⟩ | ⟨rfl, rfl⟩ <;>
  · have hm2 := hm
    (try simp at hm2)
    have hg2 := HG.out
    (try simp at hg2)
    have HG2 := Hk.mk hg2
    clear hg2
    go_enter Tryd.func50, Tryd.ntmps50
    go_wp2_with (go_at_call 76; (with_reducible refine (rwithin_any a b c d _ _ ha hb hc hd hm2).mono ?_); rintro e w1 ⟨rfl, hb1⟩; have HB1 := Hk.mk hb1; clear hb1)
    go_ret
    exact ⟨rbo (by rw [HG2.out]), (((Below.refl _ _).alloc (Nat.le_refl _) _).alloc (by simp) _).trans (HB1.out.mono (by simp <;> omega))⟩
theorem rapart_any (a b r c d s : Int) (w : World) (ha : Fx.I64 a) (hb : Fx.I64 b) (hc : Fx.I64 c) (hd : Fx.I64 d) :
    Calls Tryd.prog 50 #[.agg #[.int .i64 a, .int .i64 b], .int .i64 r, .agg #[.int .i64 c, .int .i64 d], .int .i64 s] w fun e w' => e = .returned (.bool (Fx.apS a b r c d s)) ∧ Below w.heap.size w w' :=
  rapart_core a b r c d s (Fx.radS r) (Fx.radS s) _ w ha hb hc hd (rad_cases r) (rad_cases s) ⟨rfl⟩
end Go.Proofs.YthabjihpjdlmoaaDoor
