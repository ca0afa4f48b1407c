import Derived.Deep.QuietTactic
import Derived.BigQuiet
import Derived.Deep.RegionWith
import Derived.Deep.RegionHeld3
import Derived.Deep.DeepCutAuto
import Derived.Deep.DeepFit
import Derived.Outline
import Derived.Test.YtdpblimhfmfbnaaGreatZual
import Derived.Test.YtdpblimhfmfbnaaGreatZuaf
import Derived.Test.YtdpblimhfmfbnaaGreatZuae
import Derived.Test.YtdpblimhfmfbnaaGreatZuab
import Derived.Test.YtdpblimhfmfbnaaGreatZuac
import Derived.Test.YtdpblimhfmfbnaaGreatZuad
set_option linter.unusedVariables false
set_option linter.unusedSimpArgs false
namespace Go.Proofs.YtdpblimhfmfbnaaGreat
open Go.ChangeShapes Go.WideShapes Go.ChangeAt Go.RowKit Go.Deep
theorem within_six (w : World) : Calls Tryz.prog 18 #[.int .i64 6, .int .i64 9] w fun e w' => e = .returned (.int .i64 6) ∧ ∃ m, w' = w.drewN m := by
 go_enter Tryz.func18, Tryz.ntmps18
 go_wp2
 go_ret
 exact ⟨rfl, 0, rfl⟩
end Go.Proofs.YtdpblimhfmfbnaaGreat
namespace Go.Proofs.YtdpblimhfmfbnaaGreat
open Go.ChangeShapes Go.WideShapes Go.ChangeAt Go.RowKit Go.Deep
def bndT (T : Int) : Option In → Int
 | none => 8
 | some a => if a.t < T then 8 else if a.t = T then 8 - a.p else 0
theorem okN_p {x : In} (h : okN x = true) : 1 ≤ x.p ∧ x.p ≤ 8 := by
 unfold okN at h
 rw [Bool.and_eq_true, decide_eq_true_iff] at h
 exact ⟨h.1.2.2.1, h.1.2.2.2.1⟩
theorem ord_cnt (T : Int) : ∀ (l : List In) (a : Option In), ordN a l = true → (∀ x, a = some x → x.p ≤ 8) → ((l.filter (fun x => x.t == T)).length : Int) ≤ bndT T a
 | [], none, _, _ => by simp [bndT]
 | [], some a, _, ha => by
  have := ha a rfl
  simp only [List.filter_nil, List.length_nil, bndT]
  split
  ·omega
  ·split <;> omega
 | x :: l, a, h, ha => by
  have h2 : okN x = true ∧ ordN (some x) l = true ∧ ∀ y, a = some y → ltB y x = true := by
   cases a with
   | none =>
    unfold ordN at h
    rw [Bool.and_eq_true] at h
    exact ⟨h.1, h.2, fun y e => by cases e⟩
   | some y =>
    unfold ordN at h
    rw [Bool.and_eq_true, Bool.and_eq_true] at h
    exact ⟨h.1.1, h.2, fun z e => by cases e; exact h.1.2⟩
  obtain ⟨h3, h4, h5⟩ := h2
  obtain ⟨p1, p2⟩ := okN_p h3
  have ih := ord_cnt T l (some x) h4 (fun y e => by cases e; exact p2)
  have hlt : ∀ y, a = some y → y.t < x.t ∨ (y.t = x.t ∧ y.p < x.p) := fun y e => by
   have := h5 y e
   unfold ltB at this
   exact of_decide_eq_true this
  have hc : ((x :: l).filter (fun x => x.t == T)).length = (if x.t = T then 1 else 0) + (l.filter (fun x => x.t == T)).length := by
   rw [List.filter_cons]
   by_cases e : x.t = T
   ·simp [e]; omega
   ·simp [e]
  rw [hc]
  unfold bndT at ih ⊢
  simp only at ih
  cases a with
  | none =>
   simp only
   by_cases e : x.t = T
   ·rw [if_pos e]
    rw [if_neg (by omega), if_pos e] at ih
    push_cast
    omega
   ·rw [if_neg e]
    by_cases e2 : x.t < T
    ·rw [if_pos e2] at ih
     push_cast
     omega
    ·rw [if_neg e2, if_neg e] at ih
     push_cast
     omega
  | some y =>
   have h6 := hlt y rfl
   have h7 := ha y rfl
   simp only
   by_cases e : x.t = T
   ·rw [if_pos e]
    rw [if_neg (by omega), if_pos e] at ih
    by_cases e3 : y.t < T
    ·rw [if_pos e3]
     push_cast
     omega
    ·rw [if_neg e3, if_pos (by omega)]
     push_cast
     omega
   ·rw [if_neg e]
    by_cases e2 : x.t < T
    ·rw [if_pos e2] at ih
     rw [if_pos (by omega)]
     push_cast
     omega
    ·rw [if_neg e2, if_neg e] at ih
     by_cases e3 : y.t < T
     ·rw [if_pos e3]
      push_cast
      omega
     ·rw [if_neg e3]
      by_cases e4 : y.t = T
      ·rw [if_pos e4]
       push_cast
       omega
      ·rw [if_neg e4]
       push_cast
       omega
theorem ord_few {l : List In} (h : ordN none l = true) (T : Int) : (l.filter (fun x => x.t == T)).length ≤ 800 := by
 have := ord_cnt T l none h (fun x e => by cases e)
 simp only [bndT] at this
 omega
theorem PvO.fr {M : Nat → Prop} {w w' : World} {B : Nat} {p : Pv} (h : PvO w B p) (k : Fr M w w') (hm : ∀ j, B ≤ j → ¬ M j) : PvO w' B p :=
 ⟨h.m.up k hm, h.l.up k hm, Fr.owni h.h k fun j hj => hm j (h.h.lt j hj).1, Fr.owni h.a k fun j hj => hm j (h.a.lt j hj).1, Ow.fr h.x k fun j hj => hm j (h.x.lt j hj).1⟩
theorem PvS.like {w z : World} {B1 B2 : Nat} {p u : Pv} (hs : PvS p) (h : PvD w B1 p) (hu : PvD z B2 u) (hab : u.ab = p.ab) (e1 : u.mn = p.mn) (e2 : u.ln = p.ln) (e3 : u.hn = p.hn) (e4 : u.an = p.an) (e5 : u.xn = p.xn) : PvS u := by
 obtain ⟨-, -, -, -, -, a6, a7, -⟩ := (ab_iff u p).1 hab
 have l1 := congrArg List.length a6
 have l2 := congrArg List.length a7
 rw [abI_len, abI_len] at l1 l2
 exact ⟨smI_of hu.m h.m hs.m (fun x hx => by rw [← a6]; exact hx) (by omega), smI_of hu.l h.l hs.l (fun x hx => by rw [← a7]; exact hx) (by omega), by rw [e3]; exact hs.h, by rw [e4]; exact hs.a, by rw [e5]; exact hs.x⟩
theorem SmC.nil : SmC [] := ⟨Nat.zero_le _, fun x hx => by cases hx⟩
theorem ShC.nil (w : World) (B : Nat) : ShC w B none 0 0 := ⟨Nat.zero_le _, .inr ⟨rfl, rfl⟩⟩
structure StR (w V : World) (R : Nat) (X : World) : Prop where
 fr : Fr (fun j => j = R) V X
 bw : Below w.heap.size w X
theorem StR.call {w V X z : World} {R : Nat} (h : StR w V R X) (hb : Below X.heap.size X z) : StR w V R z := ⟨h.fr.trans (Fr.of_all hb), h.bw.trans (hb.mono h.bw.size)⟩
theorem StR.set {w V X : World} {R : Nat} (h : StR w V R X) (hR : w.heap.size ≤ R) (o : Nat) (v : Value) : StR w V R (X.setCell ⟨R, o, none⟩ v) := ⟨h.fr.setCell (fun _ => rfl) v, h.bw.setCell (p := ⟨R, o, none⟩) hR v⟩
theorem StR.cells {w V X : World} {R : Nat} (h : StR w V R X) : ∀ b o, b < V.heap.size → ¬ b = R → X.cell? ⟨b, o, none⟩ = V.cell? ⟨b, o, none⟩ := fun b o hb hn => h.fr.cell hb hn
theorem StR.s {w V X : World} {R : Nat} (h : StR w V R X) : (∀ b o, b < V.heap.size → ¬ b = R → X.cell? ⟨b, o, none⟩ = V.cell? ⟨b, o, none⟩) ∧ StR w V R X := ⟨h.cells, h⟩
theorem StR.start {w V : World} {R : Nat} (h : Below w.heap.size w V) : StR w V R V.drew := ⟨(Fr.refl _ _).drew, h.drew⟩
theorem StR.pd {w V X : World} {R B : Nat} {u : Pv} (h : StR w V R X) (ho : PvO V B u) (hR : R < B) : PvD X X.heap.size u := (ho.fr h.fr (fun j hj e => by omega)).d
end Go.Proofs.YtdpblimhfmfbnaaGreat
