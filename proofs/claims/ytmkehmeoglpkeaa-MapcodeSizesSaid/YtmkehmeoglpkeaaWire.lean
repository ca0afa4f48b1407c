/- Layer 4: what the statements call besides. -/
import Derived.Test.YtmkehmeoglpkeaaWird
import Derived.Test.YtmkehmeoglpkeaaByb
import Derived.Test.YtmkehmeoglpkeaaFnvc
namespace Go.Proofs.Ytmkehmeoglpkeaa
open Go.ChangeShapes Go.WideShapes Go.ChangeAt Go.RowKit Go.Deep
set_option linter.unusedVariables false
/-- Bytes that the caller has made are written over. -/
theorem lawbytes_any (w0 w : World) (v : Value) (n : Nat) (xs : List Int) (h : OwnB w w0.heap.size v n xs) (hb : w0.heap.size ≤ w.heap.size) (hn : n ≤ 1048576) :
    Calls Try.prog 19 #[v] w fun e w' => e = .returned (.tuple #[]) ∧ Below w0.heap.size w w' := by
  obtain ⟨i0, hi, hz0, hz1, hz2⟩ := info_parts info_u8
  obtain ⟨a, c, rfl, hnc, hby, hfr⟩ := h.by_
  have HO := Hk.mk h
  have HF := Hk.mk hfr
  have HY := Hk.mk hby
  clear h hfr hby
  go_enter Try.func19, Try.ntmps19
  go_wp2
  go_loopw [2] (fun i wr => ∃ (k : Nat), i = .int .i64 k ∧ k ≤ n ∧ Hk (∃ ys, OwnB wr w0.heap.size (.slice a n c) n ys) ∧ Hk (Below w0.heap.size w wr)) (fun i _ => n - (intOf i).toNat)
  case atStart => exact ⟨0, rfl, by omega, ⟨_, HO.out⟩, ⟨Below.refl _ _⟩⟩
  case round =>
    obtain ⟨k, rfl, hk, HP, HB⟩ := hrel
    obtain ⟨ys, hys⟩ := HP.out
    have hsz := HB.out.size
    by_cases hlt : k < n
    · obtain ⟨g, o, rfl, hg, -⟩ := HY.out.at_ (by omega)
      obtain ⟨hgb, rfl, -⟩ := HF.out _ _ rfl
      obtain ⟨a2, c2, e2, -, hy2, -⟩ := hys.by_
      injection e2 with e3 e4 e5
      subst e3
      obtain ⟨g2, o2, e6, -, hc2⟩ := hy2.at_ (by omega)
      simp only [Option.some.injEq, Addr.mk.injEq] at e6
      obtain ⟨rfl, rfl, -⟩ := e6
      have hcx := hc2 k hlt
      rw [Nat.zero_add] at hcx
      have hbd := hy2.bd hlt
      have hfz : wr.frozen? ⟨g, k, none⟩ = false := hys.2.2.frozenAt k
      obtain ⟨x, hx⟩ : ∃ x, ys.getD k 0 = x := ⟨_, rfl⟩
      rw [hx] at hcx hbd
      obtain ⟨hx0, hx1⟩ := hbd
      obtain ⟨Y, hY⟩ : ∃ Y, bits BinOp.xor IntKind.u8 x 85 = Y := ⟨_, rfl⟩
      have hYb := (Fn.xor8 (x := x) (d := 85) ⟨hx0, hx1⟩ (by omega)).1
      rw [hY] at hYb
      have HO3 := Hk.mk (hys.set_ k hYb)
      clear hx hc2 hy2 hys HP
      go_wp2
      go_roundw
      case rel => exact ⟨k + 1, by go_num, by omega, ⟨_, HO3.out⟩, ⟨HB.out.setCell hgb _⟩⟩
      case measure => simp [intOf]; omega
    · obtain rfl : k = n := by omega
      have hown := hys.2.2
      have HYS := Hk.mk hys
      clear hys HP
      go_wp2_with (at_builtin; refine wpList_append_own _ rfl _ _ 24 rfl w0.heap.size 5 i0 (.int .u8 0) 1 1 Try.underlying24 hi hz0 hz1 hz2 rfl (by decide) _ _ _ rfl (hown.alloc _) ⟨wr.heap.size, 0, none⟩ 1 1 [.int .u8 5] rfl rfl one_at one_one (by unfold maxLen; omega) (by omega) (by simp; omega) ?_; intro v' w1 hown' hgrow _)
      go_end0
      exact ⟨rfl, (HB.out.alloc (by omega) _).grown hgrow (by simp; omega) (fun g hg => (HYS.out.lt g hg).1)⟩
/-- The argument: a number, bytes, more bytes. -/
def Asks4 (w : World) (a : Option Addr) (len cap : Nat) : Prop :=
  len ≤ cap ∧ cap ≤ 9223372036854775807 ∧ ∀ i, i < len → ∃ (b off : Nat) (s : Int) (ab : Option Addr) (nb cb : Nat) (xs : List Int) (ax : Option Addr) (nx cx : Nat) (ys : List Int), a = some ⟨b, off, none⟩ ∧ b < w.heap.size ∧ (-9223372036854775808 ≤ s ∧ s ≤ 9223372036854775807) ∧ (nb ≤ cb ∧ cb ≤ 9223372036854775807 ∧ (ab = none → cb = 0) ∧ By w w.heap.size ab nb xs) ∧ (nx ≤ cx ∧ cx ≤ 9223372036854775807 ∧ (ax = none → cx = 0) ∧ By w w.heap.size ax nx ys) ∧
    w.cell? ⟨b, off + i * 3, none⟩ = some (.int .i64 s) ∧ w.cell? ⟨b, off + i * 3 + 1, none⟩ = some (.slice ab nb cb) ∧ w.cell? ⟨b, off + i * 3 + 2, none⟩ = some (.slice ax nx cx)
theorem by_of2 {H : Type} {enc : TypeId × Value → H} {w : World} {base : Nat} {spare : Nat → Bool} {held : Bool} {fuel : Nat} {x : DataW H × List MemPlace} {v : Value}
    (hf : DataW.trod enc Try.prog w base spare held fuel 24 [v] = some x) : ∃ a n c xs, v = .slice a n c ∧ n ≤ c ∧ c ≤ 9223372036854775807 ∧ (a = none → c = 0) ∧ By w w.heap.size a n xs := by
  obtain ⟨a, n, c, xs, rfl, h1, h2, h3⟩ := by_of hf
  refine ⟨a, n, c, xs, rfl, h1, h2, fun ha => ?_, h3⟩
  rcases open_ints Try.underlying24 Try.underlying5 (by kernel_rfl) hf with ⟨hcs, _⟩ | ⟨a', l, c', zs, hcs, _⟩
  · simp at hcs; exact hcs.2.2
  · simp at hcs; rw [hcs.1] at ha; cases ha
end Go.Proofs.Ytmkehmeoglpkeaa
