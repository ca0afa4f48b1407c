/- Layer 6: the lists of neighbours, as the statements call for them. -/
import Derived.Test.YtjjodfdmbiebnaaDoorAsk6
import Derived.Test.YtjjodfdmbiebnaaDoorHold
import Derived.Test.YtjjodfdmbiebnaaDoorHoldq
namespace Go.Proofs.YtjjodfdmbiebnaaDoor
open Go.RowKit
set_option linter.unusedVariables false
/-- The reference's list of neighbours. -/
def RNearR (w : World) (xs : List Int) (e : Ending) (w' : World) : Prop := ∃ g c, e = .returned (.slice (some ⟨g, 0, none⟩) 8 c) ∧ Nq w' w'.heap.size (some ⟨g, 0, none⟩) 8 xs ∧ Below w.heap.size w w'
theorem rnear_q (W H t : Int) (s : Value) (w : World) (w1 : 1 ≤ W) (w2 : W ≤ 128) (h1 : 1 ≤ H) (h2 : H ≤ 128) (t0 : 0 ≤ t) (t1 : t ≤ 16384) :
    Calls Tryd.prog 36 #[.agg #[.int .i64 W, .int .i64 H, s], .int .i64 t] w (RNearR w (nbL W H t)) :=
  (rnear_any W H t s w w1 w2 h1 h2 t0 t1).mono fun e w' ⟨v, he, ho, hb⟩ => by
    have ho' := ho
    rcases ho.2 with ⟨rfl, h0⟩ | ⟨g, cap, cur, rfl, hg, hh, hc, hm, hs, ht⟩
    · omega
    · refine ⟨g, cap, he, ⟨rfl, fun _ => ⟨g, 0, rfl, lt_of_block hh, fun k hk => ?_⟩⟩, hb⟩
      have := ho'.cellAt k (by omega)
      rw [Nat.zero_add, this]
      have hl : (nbL W H t).length = 8 := rfl
      simp [List.getElem?_map, List.getD, List.getElem?_eq_getElem (show k < (nbL W H t).length by omega)]
theorem nq_drew {w : World} {B n : Nat} {a : Option Addr} {xs : List Int} (h : Nq w B a n xs) : Nq w.drew B a n xs := ⟨h.len, h.rd⟩
theorem rnearR_below {w w' : World} {xs : List Int} {e : Ending} (h : RNearR w xs e w') : Below w.heap.size w w' := by
  obtain ⟨_, _, _, _, h⟩ := h; exact h
theorem nearR_below {w w' : World} {xs : List Int} {e : Ending} (h : NearR w xs e w') : Below w.heap.size w w' := by
  obtain ⟨_, _, _, _, _, _, _, h⟩ := h; exact h
theorem near_a8 {w' wb : World} {xs : List Int} {g base m : Nat} (h : ∀ j, j < 8 → w'.cell? ⟨g, j, none⟩ = some (.int .i64 (xs.getD j 0))) (hf : ∀ j, w'.frozen? ⟨g, j, none⟩ = false) (hg : g < w'.heap.size) (hb : base ≤ g) (hB : Below base wb w') : A8 base g wb (w'.drewN m) (fun j => xs.getD j 0) :=
  ⟨h, hf, hg, hb, below_drewN hB m⟩
end Go.Proofs.YtjjodfdmbiebnaaDoor
