import Derived.Deep.QuietTactic
import Derived.BigQuiet
import Derived.Deep.RegionWith
import Derived.Deep.RegionHeld3
import Derived.Deep.DeepCutAuto
import Derived.Deep.DeepFit
import Derived.Outline
import Derived.Test.YtmphmpfeeiipgaaZtad
import Derived.Test.YtmphmpfeeiipgaaZtaf
import Derived.Test.YtmphmpfeeiipgaaZtag
import Derived.Test.YtmphmpfeeiipgaaZtz
import Derived.Test.YtmphmpfeeiipgaaZtb
import Derived.SizedLaws
import Derived.Test.YtmphmpfeeiipgaaZte
import Derived.ProofKit
import Derived.OpenShut
import Derived.ChangeSame
/- Sizes of what inputs are, whatever lies beneath. -/
namespace Go.Proofs.Ytmphmpfeeiipgaa
open Go.ChangeShapes Go.WideShapes Go.ChangeAt Go.RowKit Go.Deep
set_option linter.unusedVariables false
set_option linter.unusedSimpArgs false
def SmNc (c : List Cm) : Prop := c.length ≤ 1048576 ∧ ∀ d, d ∈ c → d.f.u.length ≤ 1048576
def SmN (x : In) : Prop := SmNc x.l
theorem smNc_of {w : World} {B n : Nat} {a : Option Addr} {l : List Cv} (h : CmD w B a n l) (hs : SmC l) : SmNc (abC l) := ⟨by rw [abC_len]; exact hs.n, fun d hd => by
  obtain ⟨y, hy, rfl⟩ := List.mem_map.1 hd
  have := (h.u y hy).len
  have := hs.m y hy
  show y.u.length ≤ _
  omega⟩
theorem smC_by {w : World} {B n : Nat} {a : Option Addr} {l : List Cv} (h : CmD w B a n l) (hs : SmNc (abC l)) : SmC l := ⟨by rw [← abC_len]; exact hs.1, fun y hy => by
  have h1 := (h.u y hy).len
  have h2 : y.u.length ≤ 1048576 := hs.2 _ (List.mem_map_of_mem hy)
  omega⟩
theorem smN_of {w : World} {B n : Nat} {a : Option Addr} {l : List Iv} (h : InD w B a n l) (hs : SmI l) : ∀ x, x ∈ abI l → SmN x := fun x hx => by
  obtain ⟨y, hy, rfl⟩ := List.mem_map.1 hx
  exact smNc_of (h.u y hy) (hs.m y hy)
theorem smI_by {w : World} {B n : Nat} {a : Option Addr} {l : List Iv} (h : InD w B a n l) (hl : l.length ≤ 1048576) (hs : ∀ x, x ∈ abI l → SmN x) : SmI l := ⟨hl, fun y hy => smC_by (h.u y hy) (hs _ (List.mem_map_of_mem hy))⟩
theorem put_mem {x : In} : ∀ {l m : List In}, putN x l = some m → m.length = l.length + 1 ∧ ∀ y, y ∈ m → y = x ∨ y ∈ l
  | [], m, h => by
    injection h with h
    subst h
    exact ⟨rfl, fun y hy => .inl (List.mem_singleton.1 hy)⟩
  | a :: l, m, h => by
    unfold putN at h
    by_cases c : ltB a x = true
    · rw [if_pos c] at h
      cases hp : putN x l with
      | none => rw [hp] at h; cases h
      | some m' =>
        rw [hp] at h
        injection h with h
        subst h
        obtain ⟨h1, h2⟩ := put_mem hp
        refine ⟨by rw [List.length_cons, h1, List.length_cons], fun y hy => ?_⟩
        rcases List.mem_cons.1 hy with e | e
        · exact .inr (by rw [e]; exact List.mem_cons_self)
        · rcases h2 y e with e | e
          · exact .inl e
          · exact .inr (List.mem_cons_of_mem _ e)
    · rw [if_neg c] at h
      by_cases d : ltB x a = true
      · rw [if_pos d] at h
        injection h with h
        subst h
        exact ⟨rfl, fun y hy => List.mem_cons.1 hy⟩
      · rw [if_neg d] at h; cases h
end Go.Proofs.Ytmphmpfeeiipgaa
/- Layer 27: waking, how much is tried. -/
namespace Go.Proofs.Ytmphmpfeeiipgaa
open Go.ChangeShapes Go.WideShapes Go.ChangeAt Go.RowKit Go.Deep
set_option linter.unusedVariables false
set_option linter.unusedSimpArgs false
theorem Qv.of_bk {α : Type} {S : Sh α} {w : World} {g B n : Nat} {l : List α} (h : Bk w g (flt S l).toArray) (hl : l.length = n) (hg : g < B) : Qv S w B (some ⟨g, 0, none⟩) n l := ⟨hl, fun _ => ⟨g, 0, rfl, hg, fun k hk j hj => by
  rw [Nat.zero_add, h.c, ← flt_at S l k j hk hj]; simp⟩⟩
theorem nq_bk {w : World} {g B : Nat} {x : Int} (h : Bk w g #[.int .i64 x]) (hg : g < B) : Nq w B (some ⟨g, 0, none⟩) 1 [x] := ⟨rfl, fun _ => ⟨g, 0, rfl, hg, fun k hk => by
  obtain rfl : k = 0 := by omega
  rw [h.c]; rfl⟩⟩
theorem num27_any (x : Int) (w : World) : Calls Try.prog 12 #[.int .i64 x] w fun e w' => e = .returned (.int .i64 x) ∧ w' = w := by
  go_enter Try.func12, Try.ntmps12
  go_wp2
  go_ret
  exact ⟨rfl, rfl⟩
theorem wk27_in (w : World) : InD (((((w.alloc (.cells #[.int .i64 1] 3)).alloc (.cells #[.int .i64 2, .int .i64 0, .int .i64 3, .int .i64 0, .slice (some ⟨w.heap.size, 0, none⟩) 1 1, .int .i64 0, .int .i64 0, .int .i64 0, .int .i64 0, .int .i64 0] 58)).alloc (.cells #[.int .i64 1] 3)).alloc (.cells #[.int .i64 1, .int .i64 0, .int .i64 3, .int .i64 0, .slice (some ⟨w.heap.size + 2, 0, none⟩) 1 1, .int .i64 0, .int .i64 0, .int .i64 0, .int .i64 0, .int .i64 0] 58)).alloc (.cells #[.int .i64 3, .int .i64 2, .slice (some ⟨w.heap.size + 1, 0, none⟩) 1 1, .int .i64 3, .int .i64 1, .slice (some ⟨w.heap.size + 3, 0, none⟩) 1 1] 29)) (((((w.alloc (.cells #[.int .i64 1] 3)).alloc (.cells #[.int .i64 2, .int .i64 0, .int .i64 3, .int .i64 0, .slice (some ⟨w.heap.size, 0, none⟩) 1 1, .int .i64 0, .int .i64 0, .int .i64 0, .int .i64 0, .int .i64 0] 58)).alloc (.cells #[.int .i64 1] 3)).alloc (.cells #[.int .i64 1, .int .i64 0, .int .i64 3, .int .i64 0, .slice (some ⟨w.heap.size + 2, 0, none⟩) 1 1, .int .i64 0, .int .i64 0, .int .i64 0, .int .i64 0, .int .i64 0] 58)).alloc (.cells #[.int .i64 3, .int .i64 2, .slice (some ⟨w.heap.size + 1, 0, none⟩) 1 1, .int .i64 3, .int .i64 1, .slice (some ⟨w.heap.size + 3, 0, none⟩) 1 1] 29)).heap.size (some ⟨w.heap.size + 4, 0, none⟩) 2 [(⟨3, 2, some ⟨w.heap.size + 1, 0, none⟩, 1, 1, [(⟨2, 0, 3, 0, some ⟨w.heap.size, 0, none⟩, 1, 1, 0, 0, 0, 0, 0, [1]⟩ : Cv)]⟩ : Iv), (⟨3, 1, some ⟨w.heap.size + 3, 0, none⟩, 1, 1, [(⟨1, 0, 3, 0, some ⟨w.heap.size + 2, 0, none⟩, 1, 1, 0, 0, 0, 0, 0, [1]⟩ : Cv)]⟩ : Iv)] := by
  have e1 : (w.alloc (.cells #[.int .i64 1] 3)).heap.size = w.heap.size + 1 := by simp
  have e2 : ((w.alloc (.cells #[.int .i64 1] 3)).alloc (.cells #[.int .i64 2, .int .i64 0, .int .i64 3, .int .i64 0, .slice (some ⟨w.heap.size, 0, none⟩) 1 1, .int .i64 0, .int .i64 0, .int .i64 0, .int .i64 0, .int .i64 0] 58)).heap.size = w.heap.size + 2 := by simp
  have e3 : (((w.alloc (.cells #[.int .i64 1] 3)).alloc (.cells #[.int .i64 2, .int .i64 0, .int .i64 3, .int .i64 0, .slice (some ⟨w.heap.size, 0, none⟩) 1 1, .int .i64 0, .int .i64 0, .int .i64 0, .int .i64 0, .int .i64 0] 58)).alloc (.cells #[.int .i64 1] 3)).heap.size = w.heap.size + 3 := by simp
  have e4 : ((((w.alloc (.cells #[.int .i64 1] 3)).alloc (.cells #[.int .i64 2, .int .i64 0, .int .i64 3, .int .i64 0, .slice (some ⟨w.heap.size, 0, none⟩) 1 1, .int .i64 0, .int .i64 0, .int .i64 0, .int .i64 0, .int .i64 0] 58)).alloc (.cells #[.int .i64 1] 3)).alloc (.cells #[.int .i64 1, .int .i64 0, .int .i64 3, .int .i64 0, .slice (some ⟨w.heap.size + 2, 0, none⟩) 1 1, .int .i64 0, .int .i64 0, .int .i64 0, .int .i64 0, .int .i64 0] 58)).heap.size = w.heap.size + 4 := by simp
  have e5 : (((((w.alloc (.cells #[.int .i64 1] 3)).alloc (.cells #[.int .i64 2, .int .i64 0, .int .i64 3, .int .i64 0, .slice (some ⟨w.heap.size, 0, none⟩) 1 1, .int .i64 0, .int .i64 0, .int .i64 0, .int .i64 0, .int .i64 0] 58)).alloc (.cells #[.int .i64 1] 3)).alloc (.cells #[.int .i64 1, .int .i64 0, .int .i64 3, .int .i64 0, .slice (some ⟨w.heap.size + 2, 0, none⟩) 1 1, .int .i64 0, .int .i64 0, .int .i64 0, .int .i64 0, .int .i64 0] 58)).alloc (.cells #[.int .i64 3, .int .i64 2, .slice (some ⟨w.heap.size + 1, 0, none⟩) 1 1, .int .i64 3, .int .i64 1, .slice (some ⟨w.heap.size + 3, 0, none⟩) 1 1] 29)).heap.size = w.heap.size + 5 := by simp
  have b0 : Bk (((((w.alloc (.cells #[.int .i64 1] 3)).alloc (.cells #[.int .i64 2, .int .i64 0, .int .i64 3, .int .i64 0, .slice (some ⟨w.heap.size, 0, none⟩) 1 1, .int .i64 0, .int .i64 0, .int .i64 0, .int .i64 0, .int .i64 0] 58)).alloc (.cells #[.int .i64 1] 3)).alloc (.cells #[.int .i64 1, .int .i64 0, .int .i64 3, .int .i64 0, .slice (some ⟨w.heap.size + 2, 0, none⟩) 1 1, .int .i64 0, .int .i64 0, .int .i64 0, .int .i64 0, .int .i64 0] 58)).alloc (.cells #[.int .i64 3, .int .i64 2, .slice (some ⟨w.heap.size + 1, 0, none⟩) 1 1, .int .i64 3, .int .i64 1, .slice (some ⟨w.heap.size + 3, 0, none⟩) 1 1] 29)) w.heap.size #[.int .i64 1] := ((((Bk.new w #[.int .i64 1] 3).al _).al _).al _).al _
  have b1 := (((Bk.new (w.alloc (.cells #[.int .i64 1] 3)) (shC.c (⟨2, 0, 3, 0, some ⟨w.heap.size, 0, none⟩, 1, 1, 0, 0, 0, 0, 0, [1]⟩ : Cv)).toArray 58).al (.cells #[.int .i64 1] 3)).al (.cells #[.int .i64 1, .int .i64 0, .int .i64 3, .int .i64 0, .slice (some ⟨w.heap.size + 2, 0, none⟩) 1 1, .int .i64 0, .int .i64 0, .int .i64 0, .int .i64 0, .int .i64 0] 58)).al (.cells #[.int .i64 3, .int .i64 2, .slice (some ⟨w.heap.size + 1, 0, none⟩) 1 1, .int .i64 3, .int .i64 1, .slice (some ⟨w.heap.size + 3, 0, none⟩) 1 1] 29)
  rw [e1] at b1
  have b2 := ((Bk.new ((w.alloc (.cells #[.int .i64 1] 3)).alloc (.cells #[.int .i64 2, .int .i64 0, .int .i64 3, .int .i64 0, .slice (some ⟨w.heap.size, 0, none⟩) 1 1, .int .i64 0, .int .i64 0, .int .i64 0, .int .i64 0, .int .i64 0] 58)) #[.int .i64 1] 3).al (.cells #[.int .i64 1, .int .i64 0, .int .i64 3, .int .i64 0, .slice (some ⟨w.heap.size + 2, 0, none⟩) 1 1, .int .i64 0, .int .i64 0, .int .i64 0, .int .i64 0, .int .i64 0] 58)).al (.cells #[.int .i64 3, .int .i64 2, .slice (some ⟨w.heap.size + 1, 0, none⟩) 1 1, .int .i64 3, .int .i64 1, .slice (some ⟨w.heap.size + 3, 0, none⟩) 1 1] 29)
  rw [e2] at b2
  have b3 := (Bk.new (((w.alloc (.cells #[.int .i64 1] 3)).alloc (.cells #[.int .i64 2, .int .i64 0, .int .i64 3, .int .i64 0, .slice (some ⟨w.heap.size, 0, none⟩) 1 1, .int .i64 0, .int .i64 0, .int .i64 0, .int .i64 0, .int .i64 0] 58)).alloc (.cells #[.int .i64 1] 3)) (shC.c (⟨1, 0, 3, 0, some ⟨w.heap.size + 2, 0, none⟩, 1, 1, 0, 0, 0, 0, 0, [1]⟩ : Cv)).toArray 58).al (.cells #[.int .i64 3, .int .i64 2, .slice (some ⟨w.heap.size + 1, 0, none⟩) 1 1, .int .i64 3, .int .i64 1, .slice (some ⟨w.heap.size + 3, 0, none⟩) 1 1] 29)
  rw [e3] at b3
  have b4 := Bk.new ((((w.alloc (.cells #[.int .i64 1] 3)).alloc (.cells #[.int .i64 2, .int .i64 0, .int .i64 3, .int .i64 0, .slice (some ⟨w.heap.size, 0, none⟩) 1 1, .int .i64 0, .int .i64 0, .int .i64 0, .int .i64 0, .int .i64 0] 58)).alloc (.cells #[.int .i64 1] 3)).alloc (.cells #[.int .i64 1, .int .i64 0, .int .i64 3, .int .i64 0, .slice (some ⟨w.heap.size + 2, 0, none⟩) 1 1, .int .i64 0, .int .i64 0, .int .i64 0, .int .i64 0, .int .i64 0] 58)) (flt shI [(⟨3, 2, some ⟨w.heap.size + 1, 0, none⟩, 1, 1, [(⟨2, 0, 3, 0, some ⟨w.heap.size, 0, none⟩, 1, 1, 0, 0, 0, 0, 0, [1]⟩ : Cv)]⟩ : Iv), (⟨3, 1, some ⟨w.heap.size + 3, 0, none⟩, 1, 1, [(⟨1, 0, 3, 0, some ⟨w.heap.size + 2, 0, none⟩, 1, 1, 0, 0, 0, 0, 0, [1]⟩ : Cv)]⟩ : Iv)]).toArray 29
  rw [e4] at b4
  rw [e5]
  have c1 : CmD (((((w.alloc (.cells #[.int .i64 1] 3)).alloc (.cells #[.int .i64 2, .int .i64 0, .int .i64 3, .int .i64 0, .slice (some ⟨w.heap.size, 0, none⟩) 1 1, .int .i64 0, .int .i64 0, .int .i64 0, .int .i64 0, .int .i64 0] 58)).alloc (.cells #[.int .i64 1] 3)).alloc (.cells #[.int .i64 1, .int .i64 0, .int .i64 3, .int .i64 0, .slice (some ⟨w.heap.size + 2, 0, none⟩) 1 1, .int .i64 0, .int .i64 0, .int .i64 0, .int .i64 0, .int .i64 0] 58)).alloc (.cells #[.int .i64 3, .int .i64 2, .slice (some ⟨w.heap.size + 1, 0, none⟩) 1 1, .int .i64 3, .int .i64 1, .slice (some ⟨w.heap.size + 3, 0, none⟩) 1 1] 29)) (w.heap.size + 5) (some ⟨w.heap.size + 1, 0, none⟩) 1 [(⟨2, 0, 3, 0, some ⟨w.heap.size, 0, none⟩, 1, 1, 0, 0, 0, 0, 0, [1]⟩ : Cv)] := ⟨Qv.of_bk (S := shC) b1 rfl (by omega), fun x hx => by
    have := List.mem_singleton.1 hx
    subst this
    exact nq_bk b0 (by show w.heap.size < _; omega)⟩
  have c3 : CmD (((((w.alloc (.cells #[.int .i64 1] 3)).alloc (.cells #[.int .i64 2, .int .i64 0, .int .i64 3, .int .i64 0, .slice (some ⟨w.heap.size, 0, none⟩) 1 1, .int .i64 0, .int .i64 0, .int .i64 0, .int .i64 0, .int .i64 0] 58)).alloc (.cells #[.int .i64 1] 3)).alloc (.cells #[.int .i64 1, .int .i64 0, .int .i64 3, .int .i64 0, .slice (some ⟨w.heap.size + 2, 0, none⟩) 1 1, .int .i64 0, .int .i64 0, .int .i64 0, .int .i64 0, .int .i64 0] 58)).alloc (.cells #[.int .i64 3, .int .i64 2, .slice (some ⟨w.heap.size + 1, 0, none⟩) 1 1, .int .i64 3, .int .i64 1, .slice (some ⟨w.heap.size + 3, 0, none⟩) 1 1] 29)) (w.heap.size + 5) (some ⟨w.heap.size + 3, 0, none⟩) 1 [(⟨1, 0, 3, 0, some ⟨w.heap.size + 2, 0, none⟩, 1, 1, 0, 0, 0, 0, 0, [1]⟩ : Cv)] := ⟨Qv.of_bk (S := shC) b3 rfl (by omega), fun x hx => by
    have := List.mem_singleton.1 hx
    subst this
    exact nq_bk b2 (by show w.heap.size + 2 < _; omega)⟩
  exact ⟨Qv.of_bk (S := shI) b4 rfl (by omega), fun x hx => by
    rcases List.mem_cons.1 hx with e | e
    · subst e; exact c1
    · have := List.mem_singleton.1 e
      subst this
      exact c3⟩
theorem wk27_sm (S : Nat) : SmI [(⟨3, 2, some ⟨S + 1, 0, none⟩, 1, 1, [(⟨2, 0, 3, 0, some ⟨S, 0, none⟩, 1, 1, 0, 0, 0, 0, 0, [1]⟩ : Cv)]⟩ : Iv), (⟨3, 1, some ⟨S + 3, 0, none⟩, 1, 1, [(⟨1, 0, 3, 0, some ⟨S + 2, 0, none⟩, 1, 1, 0, 0, 0, 0, 0, [1]⟩ : Cv)]⟩ : Iv)] := ⟨by show (2 : Nat) ≤ _; omega, fun x hx => by
    rcases List.mem_cons.1 hx with e | e
    · subst e; exact ⟨by show (1 : Nat) ≤ _; omega, fun y hy => by have := List.mem_singleton.1 hy; subst this; show (1 : Nat) ≤ _; omega⟩
    · have := List.mem_singleton.1 e
      subst this
      exact ⟨by show (1 : Nat) ≤ _; omega, fun y hy => by have := List.mem_singleton.1 hy; subst this; show (1 : Nat) ≤ _; omega⟩⟩
def wkA : In := ⟨3, 1, [⟨1, 0, 3, ⟨0, [1], 0, 0, 0, 0, 0⟩⟩]⟩
def wkB : In := ⟨3, 2, [⟨2, 0, 3, ⟨0, [1], 0, 0, 0, 0, 0⟩⟩]⟩
theorem wk27_m : mergeN [wkB, wkA] = some [wkA, wkB] := by kernel_rfl
theorem wk27_m2 (S : Nat) : Hk (mergeN (abI [(⟨3, 2, some ⟨S + 1, 0, none⟩, 1, 1, [(⟨2, 0, 3, 0, some ⟨S, 0, none⟩, 1, 1, 0, 0, 0, 0, 0, [1]⟩ : Cv)]⟩ : Iv), (⟨3, 1, some ⟨S + 3, 0, none⟩, 1, 1, [(⟨1, 0, 3, 0, some ⟨S + 2, 0, none⟩, 1, 1, 0, 0, 0, 0, 0, [1]⟩ : Cv)]⟩ : Iv)]) = some [wkA, wkB]) := ⟨wk27_m⟩
theorem wk27_p {M : List Cv} (h : abC M = flatN [wkA, wkB]) : M.length = 2 ∧ (M.getD 0 default).p = 1 := by
  have hl : M.length = 2 := by have := congrArg List.length h; rw [abC_len] at this; exact this
  refine ⟨hl, ?_⟩
  have e := congrArg (fun m => m[0]?) h
  simp only [abC] at e
  rw [getD_mapC (by omega)] at e
  injection e with e
  have := congrArg Cm.p e
  exact this
set_option maxRecDepth 100000 in
theorem wakes27_any (w : World) : Calls Try.prog 16 #[] w fun e w' => e = .returned (.bool true) ∧ Below w.heap.size w w' := by
  have HI := Hk.mk (wk27_in w)
  have HW : Hk (Below w.heap.size w (((((w.alloc (.cells #[.int .i64 1] 3)).alloc (.cells #[.int .i64 2, .int .i64 0, .int .i64 3, .int .i64 0, .slice (some ⟨w.heap.size, 0, none⟩) 1 1, .int .i64 0, .int .i64 0, .int .i64 0, .int .i64 0, .int .i64 0] 58)).alloc (.cells #[.int .i64 1] 3)).alloc (.cells #[.int .i64 1, .int .i64 0, .int .i64 3, .int .i64 0, .slice (some ⟨w.heap.size + 2, 0, none⟩) 1 1, .int .i64 0, .int .i64 0, .int .i64 0, .int .i64 0, .int .i64 0] 58)).alloc (.cells #[.int .i64 3, .int .i64 2, .slice (some ⟨w.heap.size + 1, 0, none⟩) 1 1, .int .i64 3, .int .i64 1, .slice (some ⟨w.heap.size + 3, 0, none⟩) 1 1] 29))) := ⟨(((((Below.refl _ _).alloc (Nat.le_refl _) _).alloc (by simp) _).alloc (by simp <;> omega) _).alloc (by simp <;> omega) _).alloc (by simp <;> omega) _⟩
  have hs5 : w.heap.size ≤ (((((w.alloc (.cells #[.int .i64 1] 3)).alloc (.cells #[.int .i64 2, .int .i64 0, .int .i64 3, .int .i64 0, .slice (some ⟨w.heap.size, 0, none⟩) 1 1, .int .i64 0, .int .i64 0, .int .i64 0, .int .i64 0, .int .i64 0] 58)).alloc (.cells #[.int .i64 1] 3)).alloc (.cells #[.int .i64 1, .int .i64 0, .int .i64 3, .int .i64 0, .slice (some ⟨w.heap.size + 2, 0, none⟩) 1 1, .int .i64 0, .int .i64 0, .int .i64 0, .int .i64 0, .int .i64 0] 58)).alloc (.cells #[.int .i64 3, .int .i64 2, .slice (some ⟨w.heap.size + 1, 0, none⟩) 1 1, .int .i64 3, .int .i64 1, .slice (some ⟨w.heap.size + 3, 0, none⟩) 1 1] 29)).heap.size := by simp; omega
  have HS5 := Hk.mk hs5
  clear hs5
  go_enter Try.func16, Try.ntmps16
  go_wp2_with (first
    | (go_at_call 18; (with_reducible refine (merge27_as (some [wkA, wkB]) (some ⟨w.heap.size + 4, 0, none⟩) 2 2 _ _ HI.out (wk27_sm _) (wk27_m2 _)).mono ?_); rintro e z ⟨hb, v, M, rfl, ho, hab⟩; obtain ⟨hml, hmp⟩ := wk27_p hab; rw [hml] at ho; obtain ⟨a2, c2, rfl⟩ := ho.form; obtain ⟨b, off, rfl, hbl, ⟨p0, -⟩, -⟩ := ho.d.ten (show 0 < 2 by omega); rw [hmp, Nat.zero_mul, Nat.add_zero] at p0; have HB := Hk.mk (HW.out.trans (hb.mono HS5.out)); clear hb ho hab hml hmp)
    | (go_at_call 12; (with_reducible refine (num27_any _ _).mono ?_); rintro e z2 ⟨rfl, hz⟩; rw [hz]; clear hz z2))
  go_ret
  exact ⟨rfl, HB.out⟩
end Go.Proofs.Ytmphmpfeeiipgaa
/- The argument of the statements of layer 22. -/
namespace Go.Proofs.Ytmphmpfeeiipgaa
open Go.ChangeShapes Go.WideShapes Go.ChangeAt Go.RowKit Go.Deep
set_option linter.unusedVariables false
theorem vec22_of {H : Type} {enc : TypeId × Value → H} {w : World} {base : Nat} {spare : Nat → Bool} {held : Bool} {fuel : Nat} {x : DataW H × List MemPlace} {c0 c1 : Value}
    (hf : DataW.trod enc Try.prog w base spare held fuel 56 [c0, c1] = some x) : ∃ x y : Int, c0 = .int .i64 x ∧ c1 = .int .i64 y := by
  have h2 : Try.prog.cellsOf 2 = 1 := by kernel_rfl
  obtain ⟨ys, n', _, _, _, hyl, hg⟩ := DataW.trod_struct Try.underlying56 hf
  match ys, hyl with
  | [y0, y1], _ =>
    have g0 := hg 0 _ rfl
    have g1 := hg 1 _ rfl
    simp [h2] at g0 g1
    obtain ⟨x0, e0, _, w0⟩ := DataW.trod_int Try.underlying2 g0
    obtain ⟨x1, e1, _, w1⟩ := DataW.trod_int Try.underlying2 g1
    simp at e0 e1
    exact ⟨x0, x1, e0, e1⟩
theorem command_of {H : Type} {enc : TypeId × Value → H} {w : World} {base : Nat} {spare : Nat → Bool} {held : Bool} {fuel : Nat} {x : DataW H × List MemPlace} {c0 c1 c2 c3 c4 c5 c6 c7 c8 c9 : Value}
    (hf : DataW.trod enc Try.prog w base spare held fuel 58 [c0, c1, c2, c3, c4, c5, c6, c7, c8, c9] = some x) : ∃ (p s k n : Int) (a : Option Addr) (m c : Nat) (u : List Int) (t wd h x y : Int), (c0 = .int .i64 p ∧ c1 = .int .i64 s ∧ c2 = .int .i64 k ∧ c3 = .int .i64 n ∧ c4 = .slice a m c ∧ c5 = .int .i64 t ∧ c6 = .int .i64 wd ∧ c7 = .int .i64 h ∧ c8 = .int .i64 x ∧ c9 = .int .i64 y) ∧ m ≤ 9223372036854775807 ∧ Nq w w.heap.size a m u := by
  have h1 : Try.prog.cellsOf 3 = 1 := by kernel_rfl
  have h3 : Try.prog.cellsOf 23 = 1 := by kernel_rfl
  have h4 : Try.prog.cellsOf 56 = 2 := by kernel_rfl
  obtain ⟨ys, n', _, _, _, hyl, hg⟩ := DataW.trod_struct Try.underlying58 hf
  match ys, hyl with
  | [y0, y1, y2, y3, y4, y5, y6, y7, y8], _ =>
    have g0 := hg 0 _ rfl
    have g1 := hg 1 _ rfl
    have g2 := hg 2 _ rfl
    have g3 := hg 3 _ rfl
    have g4 := hg 4 _ rfl
    have g5 := hg 5 _ rfl
    have g6 := hg 6 _ rfl
    have g7 := hg 7 _ rfl
    have g8 := hg 8 _ rfl
    simp [h1, h3, h4] at g0 g1 g2 g3 g4 g5 g6 g7 g8
    obtain ⟨x0, e0, _, w0⟩ := DataW.trod_int Try.underlying3 g0
    obtain ⟨x1, e1, _, w1⟩ := DataW.trod_int Try.underlying3 g1
    obtain ⟨x2, e2, _, w2⟩ := DataW.trod_int Try.underlying3 g2
    obtain ⟨x3, e3, _, w3⟩ := DataW.trod_int Try.underlying3 g3
    obtain ⟨x5, e5, _, w5⟩ := DataW.trod_int Try.underlying3 g5
    obtain ⟨x6, e6, _, w6⟩ := DataW.trod_int Try.underlying3 g6
    obtain ⟨x7, e7, _, w7⟩ := DataW.trod_int Try.underlying3 g7
    obtain ⟨a, m, c, u, rfl, hm, hq⟩ := nq_of g4
    obtain ⟨x8, x9, rfl, rfl⟩ := vec22_of g8
    simp at e0 e1 e2 e3 e5 e6 e7
    exact ⟨x0, x1, x2, x3, a, m, c, u, x5, x6, x7, x8, x9, ⟨e0, e1, e2, e3, rfl, e5, e6, e7, rfl, rfl⟩, hm, hq⟩
/-- The argument: a command, bytes. -/
def Asks22 (w : World) (a0 : Option Addr) (len cap : Nat) : Prop :=
  len ≤ cap ∧ cap ≤ 9223372036854775807 ∧ ∀ i, i < len → ∃ (b off : Nat) (p s k n : Int) (a : Option Addr) (m c : Nat) (u : List Int) (t wd h x y : Int) (ax : Option Addr) (nx cx : Nat) (ys : List Int), a0 = some ⟨b, off, none⟩ ∧ b < w.heap.size ∧ m ≤ 9223372036854775807 ∧ Nq w w.heap.size a m u ∧ (nx ≤ cx ∧ cx ≤ 9223372036854775807 ∧ (ax = none → cx = 0) ∧ By w w.heap.size ax nx ys) ∧
    w.cell? ⟨b, off + i * 11, none⟩ = some (.int .i64 p) ∧ w.cell? ⟨b, off + i * 11 + 1, none⟩ = some (.int .i64 s) ∧ w.cell? ⟨b, off + i * 11 + 2, none⟩ = some (.int .i64 k) ∧ w.cell? ⟨b, off + i * 11 + 3, none⟩ = some (.int .i64 n) ∧ w.cell? ⟨b, off + i * 11 + 4, none⟩ = some (.slice a m c) ∧ w.cell? ⟨b, off + i * 11 + 5, none⟩ = some (.int .i64 t) ∧ w.cell? ⟨b, off + i * 11 + 6, none⟩ = some (.int .i64 wd) ∧ w.cell? ⟨b, off + i * 11 + 7, none⟩ = some (.int .i64 h) ∧ w.cell? ⟨b, off + i * 11 + 8, none⟩ = some (.int .i64 x) ∧ w.cell? ⟨b, off + i * 11 + 9, none⟩ = some (.int .i64 y) ∧ w.cell? ⟨b, off + i * 11 + 10, none⟩ = some (.slice ax nx cx)
end Go.Proofs.Ytmphmpfeeiipgaa
/- The argument of the statements of layer 27. -/
namespace Go.Proofs.Ytmphmpfeeiipgaa
open Go.ChangeShapes Go.WideShapes Go.ChangeAt Go.RowKit Go.Deep
set_option linter.unusedVariables false
set_option linter.unusedSimpArgs false
/-- No part of the datum weighs more than memory holds. -/
def Szd {H : Type} (t : TypeId) (d : DataW H) : Prop := ∀ n, n ∈ d.weights Try.prog t → n ≤ reachBytes
theorem weightsAll_in {H : Type} {P : Program} {e : TypeId} : ∀ {l : List (DataW H)} {d : DataW H}, d ∈ l → ∀ n ∈ d.weights P e, n ∈ DataW.weightsAll P e l
  | d' :: r, d, hd, n, hn => by
    simp only [DataW.weightsAll, List.mem_append]
    rcases List.mem_cons.1 hd with rfl | h
    · exact Or.inl hn
    · exact Or.inr (weightsAll_in h n hn)
theorem szd_slice {H : Type} {t e : TypeId} {elems spare : List (DataW H)} (h : Szd t (.slice elems spare)) (hu : Try.prog.underlying t = some (.slice e)) : (elems.length + spare.length) * Try.prog.bytesOf e ≤ reachBytes ∧ ∀ d, d ∈ elems → Szd e d := by
  have hw : (DataW.slice elems spare).weights Try.prog t = (elems.length + spare.length) * Try.prog.bytesOf e :: (DataW.weightsAll Try.prog e elems ++ DataW.weightsAll Try.prog e spare) := by simp only [DataW.weights, hu]
  unfold Szd at h
  rw [hw] at h
  exact ⟨h _ List.mem_cons_self, fun d hd n hn => h n (List.mem_cons_of_mem _ (List.mem_append_left _ (weightsAll_in hd n hn)))⟩
theorem szd_agg {H : Type} {t : TypeId} {fs : Array Field} {parts : List (DataW H)} (h : Szd t (.agg parts)) (hu : Try.prog.underlying t = some (.struct fs)) {i : Nat} {ty : TypeId} {d : DataW H} (hi : (fs.toList.map (·.type))[i]? = some ty) (hd : parts[i]? = some d) : Szd ty d := by
  have hw : (DataW.agg parts).weights Try.prog t = DataW.weightsEach Try.prog (fs.toList.map (·.type)) parts := by simp only [DataW.weights, hu]
  unfold Szd at h
  rw [hw] at h
  exact fun n hn => h n (DataW.weights_mem_each hi hd n hn)
theorem exists_list {α : Type} {P : Nat → α → Prop} : ∀ n, (∀ i, i < n → ∃ x, P i x) → ∃ l : List α, l.length = n ∧ ∀ i (h : i < l.length), P i l[i]
  | 0, _ => ⟨[], rfl, fun i h => absurd h (by simp)⟩
  | n + 1, h => by
    obtain ⟨l, hl, hp⟩ := exists_list n fun i hi => h i (by omega)
    obtain ⟨x, hx⟩ := h n (by omega)
    refine ⟨l ++ [x], by simp [hl], fun i hi => ?_⟩
    by_cases e : i < l.length
    · rw [List.getElem_append_left e]; exact hp i e
    · obtain rfl : i = l.length := by simp at hi; omega
      rw [List.getElem_append_right (Nat.le_refl _)]
      simp
      rw [hl]
      exact hx
section
variable {H : Type} {enc : TypeId × Value → H} {w : World} {base : Nat} {held : Bool} {fuel : Nat} {x : DataW H × List MemPlace}
theorem ints_sz {v : Value} (hf : DataW.trod enc Try.prog w base (fun _ => true) held fuel 23 [v] = some x) (hz : Szd 23 x.1) : ∃ a m c u, v = .slice a m c ∧ m ≤ 17592186044416 ∧ Nq w w.heap.size a m u := by
  obtain ⟨a, m, c, u, rfl, _, hq⟩ := nq_of hf
  refine ⟨a, m, c, u, rfl, ?_, hq⟩
  rcases open_slice Try.underlying23 hf with ⟨hcs, _⟩ | ⟨a', l, c', m', n', D, Pl, hcs, _, hl, hm, hmm, hx, hi⟩
  · simp at hcs
    omega
  · simp at hcs
    rw [hx] at hz
    have h8 : Try.prog.bytesOf 3 = 8 := by kernel_rfl
    have := (szd_slice hz Try.underlying23).1
    rw [h8] at this
    simp [reachBytes] at this
    omega
theorem com27_of {c0 c1 c2 c3 c4 c5 c6 c7 c8 c9 : Value}
    (hf : DataW.trod enc Try.prog w base (fun _ => true) held fuel 58 [c0, c1, c2, c3, c4, c5, c6, c7, c8, c9] = some x) (hz : Szd 58 x.1) : ∃ q : Cv, [c0, c1, c2, c3, c4, c5, c6, c7, c8, c9] = q.cs ∧ q.m ≤ 17592186044416 ∧ Nq w w.heap.size q.a q.m q.u := by
  have h1 : Try.prog.cellsOf 3 = 1 := by kernel_rfl
  have h3 : Try.prog.cellsOf 23 = 1 := by kernel_rfl
  have h4 : Try.prog.cellsOf 56 = 2 := by kernel_rfl
  obtain ⟨ys, n', _, hx, _, hyl, hg⟩ := DataW.trod_struct Try.underlying58 hf
  match ys, hyl with
  | [y0, y1, y2, y3, y4, y5, y6, y7, y8], _ =>
    have g0 := hg 0 _ rfl
    have g1 := hg 1 _ rfl
    have g2 := hg 2 _ rfl
    have g3 := hg 3 _ rfl
    have g4 := hg 4 _ rfl
    have g5 := hg 5 _ rfl
    have g6 := hg 6 _ rfl
    have g7 := hg 7 _ rfl
    have g8 := hg 8 _ rfl
    simp [h1, h3, h4] at g0 g1 g2 g3 g4 g5 g6 g7 g8
    rw [hx] at hz
    have hz4 := szd_agg hz Try.underlying58 (i := 4) (ty := 23) (d := y4.1) rfl rfl
    obtain ⟨x0, e0, _, w0⟩ := DataW.trod_int Try.underlying3 g0
    obtain ⟨x1, e1, _, w1⟩ := DataW.trod_int Try.underlying3 g1
    obtain ⟨x2, e2, _, w2⟩ := DataW.trod_int Try.underlying3 g2
    obtain ⟨x3, e3, _, w3⟩ := DataW.trod_int Try.underlying3 g3
    obtain ⟨x5, e5, _, w5⟩ := DataW.trod_int Try.underlying3 g5
    obtain ⟨x6, e6, _, w6⟩ := DataW.trod_int Try.underlying3 g6
    obtain ⟨x7, e7, _, w7⟩ := DataW.trod_int Try.underlying3 g7
    obtain ⟨a, m, c, u, rfl, hm, hq⟩ := ints_sz g4 hz4
    obtain ⟨x8, x9, rfl, rfl⟩ := vec22_of g8
    simp at e0 e1 e2 e3 e5 e6 e7
    subst e0 e1 e2 e3 e5 e6 e7
    exact ⟨⟨x0, x1, x2, x3, a, m, c, x5, x6, x7, x8, x9, u⟩, rfl, hm, hq⟩
theorem spot_of {a : Addr} {u : Value} (h : w.cell? (a.add 0) = some u) : a.spot = none := by
  simpa [Addr.add] using World.cell?_spot h
theorem add_add27 (a : Addr) (m k : Nat) : (a.add m).add k = a.add (m + k) := by
  obtain ⟨b, off, spot⟩ := a
  unfold Addr.add
  by_cases e1 : m = 0
  · subst e1; simp
  · by_cases e2 : k = 0
    · subst e2; simp
    · have : ¬ m + k = 0 := by omega
      simp [e1, e2, this]
      try omega
theorem cms27_of {v : Value} (hf : DataW.trod enc Try.prog w base (fun _ => true) held fuel 27 [v] = some x) (hz : Szd 27 x.1) : ∃ a n c l, v = .slice a n c ∧ n ≤ 17592186044416 ∧ CmD w w.heap.size a n l ∧ ∀ y, y ∈ l → y.m ≤ 17592186044416 := by
  rcases open_slice Try.underlying27 hf with ⟨hcs, _⟩ | ⟨a', n, c', m', n', D, Pl, hcs, _, hl, hm, hmm, hx, hi⟩
  · simp at hcs
    subst hcs
    exact ⟨none, 0, 0, [], rfl, by omega, CmD.nil _ _ _, fun y hy => by cases hy⟩
  · simp at hcs
    subst hcs
    rw [hx] at hz
    have hC : Try.prog.cellsOf 58 = 10 := by kernel_rfl
    have h8 : Try.prog.bytesOf 58 = 96 := by kernel_rfl
    obtain ⟨hb, hel⟩ := szd_slice hz Try.underlying27
    rw [h8] at hb
    simp [reachBytes] at hb
    have key : ∀ i, i < n → ∃ q : Cv, (∀ j, j < 10 → w.cell? (a'.add (i * 10 + j)) = q.cs[j]?) ∧ q.m ≤ 17592186044416 ∧ Nq w w.heap.size q.a q.m q.u := fun i hlt => by
      obtain ⟨cs', hc, ht⟩ := hi i (by rw [hmm]; simp; omega)
      rw [hC] at hc
      obtain ⟨_, hcl, hat⟩ := World.cells?_some hc
      match cs', hcl with
      | [c0, c1, c2, c3, c4, c5, c6, c7, c8, c9], _ =>
        obtain ⟨q, hq, h1, h2⟩ := com27_of ht (hel _ (List.mem_map.2 ⟨i, List.mem_range.2 hlt, rfl⟩))
        refine ⟨q, fun j hj => ?_, h1, h2⟩
        rw [← hq, ← hat j hj]
        rw [add_add27]
    obtain ⟨l, hll, hlp⟩ := exists_list n key
    refine ⟨some a', n, c', l, rfl, by omega, ⟨⟨hll, fun hn => ?_⟩, fun y hy => ?_⟩, fun y hy => ?_⟩
    · have hs : a'.spot = none := by
        have := (hlp 0 (by omega)).1 0 (by omega)
        exact spot_of this
      obtain ⟨b, off, spot⟩ := a'
      simp only at hs
      subst hs
      refine ⟨b, off, rfl, ?_, fun k hk j hj => ?_⟩
      · have := (hlp 0 (by omega)).1 0 (by omega)
        rw [aq_plus] at this
        exact World.block_lt_of_cell? _ _ this
      · have := (hlp k hk).1 j hj
        rw [aq_plus] at this
        rw [show off + k * shC.z + j = off + (k * 10 + j) by show off + k * 10 + j = _; omega, this]
        rfl
    · obtain ⟨i, hi', rfl⟩ := List.mem_iff_getElem.1 hy
      exact (hlp i hi').2.2
    · obtain ⟨i, hi', rfl⟩ := List.mem_iff_getElem.1 hy
      exact (hlp i hi').2.1
theorem inp27_of {c0 c1 c2 : Value} (hf : DataW.trod enc Try.prog w base (fun _ => true) held fuel 29 [c0, c1, c2] = some x) (hz : Szd 29 x.1) : ∃ q : Iv, [c0, c1, c2] = q.cs ∧ q.n ≤ 17592186044416 ∧ CmD w w.heap.size q.a q.n q.l ∧ ∀ y, y ∈ q.l → y.m ≤ 17592186044416 := by
  have h1 : Try.prog.cellsOf 3 = 1 := by kernel_rfl
  have h3 : Try.prog.cellsOf 27 = 1 := by kernel_rfl
  obtain ⟨ys, n', _, hx, _, hyl, hg⟩ := DataW.trod_struct Try.underlying29 hf
  match ys, hyl with
  | [y0, y1, y2], _ =>
    have g0 := hg 0 _ rfl
    have g1 := hg 1 _ rfl
    have g2 := hg 2 _ rfl
    simp [h1, h3] at g0 g1 g2
    rw [hx] at hz
    have hz2 := szd_agg hz Try.underlying29 (i := 2) (ty := 27) (d := y2.1) rfl rfl
    obtain ⟨x0, e0, _, w0⟩ := DataW.trod_int Try.underlying3 g0
    obtain ⟨x1, e1, _, w1⟩ := DataW.trod_int Try.underlying3 g1
    obtain ⟨a, n, c, l, rfl, hn, hq, hm⟩ := cms27_of g2 hz2
    simp at e0 e1
    subst e0 e1
    exact ⟨⟨x0, x1, a, n, c, l⟩, rfl, hn, hq, hm⟩
theorem ins27_of {v : Value} (hf : DataW.trod enc Try.prog w base (fun _ => true) held fuel 22 [v] = some x) (hz : Szd 22 x.1) : ∃ a n c l, v = .slice a n c ∧ n ≤ 17592186044416 ∧ InD w w.heap.size a n l ∧ BdI l := by
  rcases open_slice Try.underlying22 hf with ⟨hcs, _⟩ | ⟨a', n, c', m', n', D, Pl, hcs, _, hl, hm, hmm, hx, hi⟩
  · simp at hcs
    subst hcs
    exact ⟨none, 0, 0, [], rfl, by omega, InD.nil _ _ _, ⟨fun y hy => (by cases hy), fun y hy => (by cases hy)⟩⟩
  · simp at hcs
    subst hcs
    rw [hx] at hz
    have hC : Try.prog.cellsOf 29 = 3 := by kernel_rfl
    have h8 : Try.prog.bytesOf 29 = 40 := by kernel_rfl
    obtain ⟨hb, hel⟩ := szd_slice hz Try.underlying22
    rw [h8] at hb
    simp [reachBytes] at hb
    have key : ∀ i, i < n → ∃ q : Iv, (∀ j, j < 3 → w.cell? (a'.add (i * 3 + j)) = q.cs[j]?) ∧ q.n ≤ 17592186044416 ∧ CmD w w.heap.size q.a q.n q.l ∧ ∀ y, y ∈ q.l → y.m ≤ 17592186044416 := fun i hlt => by
      obtain ⟨cs', hc, ht⟩ := hi i (by rw [hmm]; simp; omega)
      rw [hC] at hc
      obtain ⟨_, hcl, hat⟩ := World.cells?_some hc
      match cs', hcl with
      | [c0, c1, c2], _ =>
        obtain ⟨q, hq, h1, h2⟩ := inp27_of ht (hel _ (List.mem_map.2 ⟨i, List.mem_range.2 hlt, rfl⟩))
        refine ⟨q, fun j hj => ?_, h1, h2⟩
        rw [← hq, ← hat j hj]
        rw [add_add27]
    obtain ⟨l, hll, hlp⟩ := exists_list n key
    refine ⟨some a', n, c', l, rfl, by omega, ⟨⟨hll, fun hn => ?_⟩, fun y hy => ?_⟩, ⟨fun y hy => ?_, fun y hy => ?_⟩⟩
    · have hs : a'.spot = none := by
        have := (hlp 0 (by omega)).1 0 (by omega)
        exact spot_of this
      obtain ⟨b, off, spot⟩ := a'
      simp only at hs
      subst hs
      refine ⟨b, off, rfl, ?_, fun k hk j hj => ?_⟩
      · have := (hlp 0 (by omega)).1 0 (by omega)
        rw [aq_plus] at this
        exact World.block_lt_of_cell? _ _ this
      · have := (hlp k hk).1 j hj
        rw [aq_plus] at this
        rw [show off + k * shI.z + j = off + (k * 3 + j) by show off + k * 3 + j = _; omega, this]
        rfl
    · obtain ⟨i, hi', rfl⟩ := List.mem_iff_getElem.1 hy
      exact (hlp i hi').2.2.1
    · obtain ⟨i, hi', rfl⟩ := List.mem_iff_getElem.1 hy
      exact (hlp i hi').2.1
    · obtain ⟨i, hi', rfl⟩ := List.mem_iff_getElem.1 hy
      exact (hlp i hi').2.2.2
end
/-- The argument: inputs, more of them, turns. -/
def Asks27 (w : World) (v : Value) : Prop := ∃ (la : Option Addr) (ln lc : Nat) (l : List Iv) (ma : Option Addr) (mn mc : Nat) (m : List Iv) (ta : Option Addr) (tn tc : Nat) (ts : List Int),
  v = .agg #[.slice la ln lc, .slice ma mn mc, .slice ta tn tc] ∧ (ln ≤ 17592186044416 ∧ InD w w.heap.size la ln l ∧ BdI l) ∧ (mn ≤ 17592186044416 ∧ InD w w.heap.size ma mn m ∧ BdI m) ∧ (tn ≤ 17592186044416 ∧ Nq w w.heap.size ta tn ts)
theorem asks27_of {H : Type} {enc : TypeId × Value → H} {w : World} {base : Nat} {held : Bool} {fuel : Nat} {x : DataW H × List MemPlace} {cs : Array Value}
    (hcs : cs.size = Try.prog.cellsOf 25) (hf : DataW.trod enc Try.prog w base (fun _ => true) held fuel 25 cs.toList = some x) (hz : Szd 25 x.1) : Asks27 w (.agg cs) := by
  have h1 : Try.prog.cellsOf 22 = 1 := by kernel_rfl
  have h3 : Try.prog.cellsOf 23 = 1 := by kernel_rfl
  have hC : Try.prog.cellsOf 25 = 3 := by kernel_rfl
  have hl := hcs
  rw [hC] at hl
  clear hcs hC
  obtain ⟨⟨cl⟩, rfl⟩ : ∃ c : Array Value, cs = c := ⟨cs, rfl⟩
  simp only [List.size_toArray] at hl
  simp only at hf
  match cl, hl with
  | [c0, c1, c2], _ =>
  obtain ⟨ys, n', _, hx, _, hyl, hg⟩ := DataW.trod_struct Try.underlying25 hf
  match ys, hyl with
  | [y0, y1, y2], _ =>
    have g0 := hg 0 _ rfl
    have g1 := hg 1 _ rfl
    have g2 := hg 2 _ rfl
    simp [h1, h3] at g0 g1 g2
    rw [hx] at hz
    have z0 := szd_agg hz Try.underlying25 (i := 0) (ty := 22) (d := y0.1) rfl rfl
    have z1 := szd_agg hz Try.underlying25 (i := 1) (ty := 22) (d := y1.1) rfl rfl
    have z2 := szd_agg hz Try.underlying25 (i := 2) (ty := 23) (d := y2.1) rfl rfl
    obtain ⟨la, ln, lc, l, rfl, a1, a2, a3⟩ := ins27_of g0 z0
    obtain ⟨ma, mn, mc, m, rfl, b1, b2, b3⟩ := ins27_of g1 z1
    obtain ⟨ta, tn, tc, ts, rfl, d1, d2⟩ := ints_sz g2 z2
    exact ⟨la, ln, lc, l, ma, mn, mc, m, ta, tn, tc, ts, rfl, ⟨a1, a2, a3⟩, ⟨b1, b2, b3⟩, d1, d2⟩
end Go.Proofs.Ytmphmpfeeiipgaa
/- Layer 27: how much is tried. -/
namespace Go.Proofs.Ytmphmpfeeiipgaa
open Go.ChangeShapes Go.WideShapes Go.ChangeAt Go.RowKit Go.Deep
set_option linter.unusedVariables false
set_option linter.unusedSimpArgs false
theorem mxC_sm {r : Nat} {l : List Cv} (h : mxC r l) (hr : r ≤ 1048576) : SmC l := ⟨Nat.le_trans h.1 hr, fun x hx => Nat.le_trans (h.2 x hx) hr⟩
theorem mxI_sm {r : Nat} {l : List Iv} (h : mxI r l) (hr : r ≤ 1048576) : SmI l := ⟨Nat.le_trans h.1 hr, fun x hx => mxC_sm (h.2 x hx) hr⟩
/-- What heavy tells. -/
def HvyR (l m : List Iv) (tn : Nat) (w : World) (e : Ending) (w' : World) : Prop := ∃ r, e = .returned (.bool r) ∧ Below w.heap.size w w' ∧ Hk (r = false → SmI l ∧ SmI m ∧ tn ≤ 50 ∧ l.length ≤ 800 ∧ m.length ≤ 800)
theorem le800 {r : Nat} (h : decide (800 < (r : Int)) = false) : r ≤ 800 := by
  have := of_decide_eq_false h
  omega
set_option maxRecDepth 100000 in
set_option maxHeartbeats 1600000 in
theorem heavy27_any (la : Option Addr) (ln lc : Nat) (l : List Iv) (ma : Option Addr) (mn mc : Nat) (m : List Iv) (ta : Option Addr) (tn tc : Nat) (w : World) (hl : ln ≤ 17592186044416 ∧ InD w w.heap.size la ln l ∧ BdI l) (hm : mn ≤ 17592186044416 ∧ InD w w.heap.size ma mn m ∧ BdI m) :
    Calls Try.prog 10 #[.agg #[.slice la ln lc, .slice ma mn mc, .slice ta tn tc]] w (HvyR l m tn w) := by
  have HBW : Hk (Below w.heap.size w (w.alloc (.cells #[.slice la ln lc, .slice ma mn mc, .slice ta tn tc] 25))) := ⟨(Below.refl _ _).alloc (Nat.le_refl _) _⟩
  have HIL := Hk.mk (hl.2.1.later HBW.out)
  have HIM := Hk.mk (hm.2.1.later HBW.out)
  have HL1 := Hk.mk hl.1
  have HM1 := Hk.mk hm.1
  have HL2 := Hk.mk hl.2.2
  have HM2 := Hk.mk hm.2.2
  clear hl hm
  go_enter Try.func10, Try.ntmps10
  go_wp2_with (first
    | (go_at_call 34; (with_reducible refine (iw_any la ln lc l _ HIL.out HL1.out HL2.out).mono ?_); rintro e w2 ⟨⟨r1, rfl, hr1⟩, rfl⟩; have H1 := Hk.mk hr1; clear hr1)
    | (go_at_call 34; (with_reducible refine (iw_any ma mn mc m _ HIM.out HM1.out HM2.out).mono ?_); rintro e w2 ⟨⟨r2, rfl, hr2⟩, rfl⟩; have H2 := Hk.mk hr2; clear hr2))
  · go_ret
    exact ⟨_, rfl, HBW.out, ⟨fun h => by cases h⟩⟩
  · go_ret
    exact ⟨_, rfl, HBW.out, ⟨fun h => by cases h⟩⟩
  · rename_i k1 k2
    go_ret
    exact ⟨_, rfl, HBW.out, ⟨fun h => ⟨mxI_sm (H1.out.mx (by omega)) (by omega), mxI_sm (H2.out.mx (by omega)) (by omega), by have := of_decide_eq_false h; omega, Nat.le_trans (H1.out.mx (by omega)).1 (by omega), Nat.le_trans (H2.out.mx (by omega)).1 (by omega)⟩⟩⟩
end Go.Proofs.Ytmphmpfeeiipgaa
/- The argument of layer 27's statements: inputs, more of them, turns, with the forms of their slices. -/
namespace Go.Proofs.Ytmphmpfeeiipgaa
open Go.ChangeShapes Go.WideShapes Go.ChangeAt Go.RowKit Go.Deep
set_option linter.unusedVariables false
set_option linter.unusedSimpArgs false
theorem fm27_of {H : Type} {enc : TypeId × Value → H} {w : World} {base : Nat} {held : Bool} {fuel : Nat} {x : DataW H × List MemPlace} {a : Option Addr} {n c : Nat}
    (hf : DataW.trod enc Try.prog w base (fun _ => true) held fuel 22 [.slice a n c] = some x) : n ≤ c ∧ c ≤ 9223372036854775807 ∧ ((a = none ∧ n = 0 ∧ c = 0) ∨ (∃ b off, a = some ⟨b, off, none⟩) ∨ (∃ d, a = some d) ∧ c = 0) := by
  rcases open_slice Try.underlying22 hf with ⟨hcs, _⟩ | ⟨a', n1, c', m', n', D, Pl, hcs, _, hl, hm, hmm, hx, hi⟩
  · simp at hcs
    exact ⟨by omega, by omega, .inl hcs⟩
  · simp at hcs
    obtain ⟨rfl, rfl, rfl⟩ := hcs
    refine ⟨hl, by unfold maxLen at hm; omega, ?_⟩
    by_cases h0 : c = 0
    · exact .inr (.inr ⟨⟨_, rfl⟩, h0⟩)
    · have hC : Try.prog.cellsOf 29 = 3 := by kernel_rfl
      obtain ⟨i0, hi0⟩ : ∃ i0 : Nat, i0 = 0 := ⟨0, rfl⟩
      obtain ⟨cs', hc, ht⟩ := hi i0 (by rw [hmm, hi0]; exact Nat.pos_of_ne_zero h0)
      rw [hC] at hc
      obtain ⟨_, hcl, hat⟩ := World.cells?_some hc
      obtain ⟨b, off, spot⟩ := a'
      have h2 := hat 0 (by omega)
      rw [add_add27] at h2
      subst hi0
      have hs := spot_of (a := ⟨b, off, spot⟩) (h2.trans (List.getElem?_eq_getElem (show 0 < cs'.length by omega)))
      simp only at hs
      subst hs
      exact .inr (.inl ⟨b, off, rfl⟩)
theorem slk_any (a : Option Addr) (n c k : Nat) (hk : k ≤ n) (hf : n ≤ c ∧ c ≤ 9223372036854775807 ∧ ((a = none ∧ n = 0 ∧ c = 0) ∨ (∃ b off, a = some ⟨b, off, none⟩) ∨ (∃ d, a = some d) ∧ c = 0)) : ∀ w, (Instr.slice 22 (.slice a n c) none (some (.int .i64 (k : Int))) none).run Try.prog w = .ok (.slice a k c) w := by
  intro w
  obtain ⟨h1, h2, h3⟩ := hf
  have k1 : (k : Int) ≤ (c : Int) := by omega
  have k0 : (0 : Int) ≤ (k : Int) := by omega
  rcases h3 with ⟨rfl, rfl, rfl⟩ | ⟨b, off, rfl⟩ | ⟨⟨d, rfl⟩, rfl⟩
  · obtain rfl : k = 0 := by omega
    go_simp
  · go_simp
  · obtain rfl : k = 0 := by omega
    go_simp
/-- The argument, with the forms of its slices. -/
def Asks27f (w : World) (v : Value) : Prop := ∃ (la : Option Addr) (ln lc : Nat) (l : List Iv) (ma : Option Addr) (mn mc : Nat) (m : List Iv) (ta : Option Addr) (tn tc : Nat) (ts : List Int),
  v = .agg #[.slice la ln lc, .slice ma mn mc, .slice ta tn tc] ∧ (ln ≤ 17592186044416 ∧ InD w w.heap.size la ln l ∧ BdI l) ∧ (mn ≤ 17592186044416 ∧ InD w w.heap.size ma mn m ∧ BdI m) ∧ (tn ≤ 17592186044416 ∧ Nq w w.heap.size ta tn ts) ∧
  (mn ≤ mc ∧ mc ≤ 9223372036854775807 ∧ ((ma = none ∧ mn = 0 ∧ mc = 0) ∨ (∃ b off, ma = some ⟨b, off, none⟩) ∨ (∃ d, ma = some d) ∧ mc = 0))
theorem asks27f_of {H : Type} {enc : TypeId × Value → H} {w : World} {base : Nat} {held : Bool} {fuel : Nat} {x : DataW H × List MemPlace} {cs : Array Value}
    (hcs : cs.size = Try.prog.cellsOf 25) (hf : DataW.trod enc Try.prog w base (fun _ => true) held fuel 25 cs.toList = some x) (hz : Szd 25 x.1) : Asks27f w (.agg cs) := by
  have h1 : Try.prog.cellsOf 22 = 1 := by kernel_rfl
  have h3 : Try.prog.cellsOf 23 = 1 := by kernel_rfl
  have hC : Try.prog.cellsOf 25 = 3 := by kernel_rfl
  have hl := hcs
  rw [hC] at hl
  obtain ⟨la, ln, lc, l, ma, mn, mc, m, ta, tn, tc, ts, e, p1, p2, p3⟩ := asks27_of hcs hf hz
  injection e with e
  subst e
  simp only at hf
  obtain ⟨ys, n', _, hx, _, hyl, hg⟩ := DataW.trod_struct Try.underlying25 hf
  match ys, hyl with
  | [y0, y1, y2], _ =>
    have g1 := hg 1 _ rfl
    simp [h1, h3] at g1
    exact ⟨la, ln, lc, l, ma, mn, mc, m, ta, tn, tc, ts, rfl, p1, p2, p3, fm27_of g1⟩
end Go.Proofs.Ytmphmpfeeiipgaa
