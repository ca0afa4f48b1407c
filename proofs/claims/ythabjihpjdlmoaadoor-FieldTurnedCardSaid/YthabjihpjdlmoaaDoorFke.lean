import Derived.Test.YthabjihpjdlmoaaDoorFkd
import Derived.WalkKit
import Derived.Below
import Derived.Test.YthabjihpjdlmoaaDoorProg
/- The argument of the statements of layer 6: a ground, tiles, places. -/
namespace Go.Proofs.YthabjihpjdlmoaaDoor
open Go.ChangeShapes Go.WideShapes Go.ChangeAt Go.RowKit Go.Deep
set_option linter.unusedVariables false
def Asks6 (w : World) (v : Value) : Prop := ∃ (W H : Int) (a : Option Addr) (n c : Nat) (xs : List Int) (ta : Option Addr) (tn tc : Nat) (ts : List Int) (pa : Option Addr) (pn pc : Nat) (f g : Nat → Int),
  v = .agg #[.int .i64 W, .int .i64 H, .slice a n c, .slice ta tn tc, .slice pa pn pc] ∧ I64' W ∧ I64' H ∧ n ≤ 9223372036854775807 ∧ tn ≤ 9223372036854775807 ∧ pn ≤ 9223372036854775807 ∧ By w w.heap.size a n xs ∧ Nq w w.heap.size ta tn ts ∧ Vq w w.heap.size pa pn f g
theorem ground_of {H : Type} {enc : TypeId × Value → H} {w : World} {base : Nat} {spare : Nat → Bool} {held : Bool} {fuel : Nat} {x : DataW H × List MemPlace} {c0 c1 c2 : Value}
    (hf : DataW.trod enc Tryd.prog w base spare held fuel 24 [c0, c1, c2] = some x) : ∃ (W H : Int) (a : Option Addr) (n c : Nat) (xs : List Int), c0 = .int .i64 W ∧ c1 = .int .i64 H ∧ c2 = .slice a n c ∧ I64' W ∧ I64' H ∧ n ≤ 9223372036854775807 ∧ By w w.heap.size a n xs := by
  have h2 : Tryd.prog.cellsOf 3 = 1 := by kernel_rfl
  have h3 : Tryd.prog.cellsOf 22 = 1 := by kernel_rfl
  obtain ⟨ys, n', _, _, _, hyl, hg⟩ := DataW.trod_struct Tryd.underlying24 hf
  match ys, hyl with
  | [y0, y1, y2], _ =>
    have g0 := hg 0 _ rfl
    have g1 := hg 1 _ rfl
    have g2 := hg 2 _ rfl
    simp [h2, h3] at g0 g1 g2
    obtain ⟨x0, e0, _, w0⟩ := DataW.trod_int Tryd.underlying3 g0
    obtain ⟨x1, e1, _, w1⟩ := DataW.trod_int Tryd.underlying3 g1
    obtain ⟨a, n, c, xs, rfl, hn, hc, hby⟩ := by_of g2
    simp at e0 e1
    exact ⟨x0, x1, a, n, c, xs, e0, e1, rfl, i64q_of_wf w0, i64q_of_wf w1, by omega, hby⟩
theorem hsz_of {w X : World} {o : Obj} (h : Below (w.heap.size + 1) (w.alloc o) X) : w.heap.size + 1 ≤ X.heap.size := by simpa using h.size
def heavyB (n tn pn : Nat) : Bool := decide (20000 < n ∨ 60 < tn ∨ 60 < pn)
end Go.Proofs.YthabjihpjdlmoaaDoor
/- A call that makes memory leaves cells, wherever they lie, as they were. -/
namespace Go.Proofs.YthabjihpjdlmoaaDoor
open Go.RowKit
set_option linter.unusedVariables false
theorem hold1 {P : Program} {F : FuncId} {args : Array Value} {w w0 : World} {r : Ending} {B b1 o1 : Nat} {x1 : Value} (h : Calls P F args w fun e w' => e = r ∧ Below w.heap.size w w')
    (hB : Below B w0 w) (hs : B ≤ w.heap.size) (d1 : w.cell? ⟨b1, o1, none⟩ = some x1) :
    Calls P F args w fun e w' => e = r ∧ w'.cell? ⟨b1, o1, none⟩ = some x1 ∧ Below B w0 w' :=
  h.mono fun e w' ⟨h1, h2⟩ => ⟨h1, (h2.cell (p := ⟨b1, o1, none⟩) (World.block_lt_of_cell? _ _ d1)).trans d1, hB.trans (h2.mono hs)⟩
theorem hold2 {P : Program} {F : FuncId} {args : Array Value} {w w0 : World} {r : Ending} {B b1 o1 b2 o2 : Nat} {x1 x2 : Value} (h : Calls P F args w fun e w' => e = r ∧ Below w.heap.size w w')
    (hB : Below B w0 w) (hs : B ≤ w.heap.size) (d1 : w.cell? ⟨b1, o1, none⟩ = some x1) (d2 : w.cell? ⟨b2, o2, none⟩ = some x2) :
    Calls P F args w fun e w' => e = r ∧ w'.cell? ⟨b1, o1, none⟩ = some x1 ∧ w'.cell? ⟨b2, o2, none⟩ = some x2 ∧ Below B w0 w' :=
  h.mono fun e w' ⟨h1, h2⟩ => ⟨h1, (h2.cell (p := ⟨b1, o1, none⟩) (World.block_lt_of_cell? _ _ d1)).trans d1, (h2.cell (p := ⟨b2, o2, none⟩) (World.block_lt_of_cell? _ _ d2)).trans d2, hB.trans (h2.mono hs)⟩
theorem hold3 {P : Program} {F : FuncId} {args : Array Value} {w w0 : World} {r : Ending} {B b1 o1 b2 o2 b3 o3 : Nat} {x1 x2 x3 : Value} (h : Calls P F args w fun e w' => e = r ∧ Below w.heap.size w w')
    (hB : Below B w0 w) (hs : B ≤ w.heap.size) (d1 : w.cell? ⟨b1, o1, none⟩ = some x1) (d2 : w.cell? ⟨b2, o2, none⟩ = some x2) (d3 : w.cell? ⟨b3, o3, none⟩ = some x3) :
    Calls P F args w fun e w' => e = r ∧ w'.cell? ⟨b1, o1, none⟩ = some x1 ∧ w'.cell? ⟨b2, o2, none⟩ = some x2 ∧ w'.cell? ⟨b3, o3, none⟩ = some x3 ∧ Below B w0 w' :=
  h.mono fun e w' ⟨h1, h2⟩ => ⟨h1, (h2.cell (p := ⟨b1, o1, none⟩) (World.block_lt_of_cell? _ _ d1)).trans d1, (h2.cell (p := ⟨b2, o2, none⟩) (World.block_lt_of_cell? _ _ d2)).trans d2, (h2.cell (p := ⟨b3, o3, none⟩) (World.block_lt_of_cell? _ _ d3)).trans d3, hB.trans (h2.mono hs)⟩
theorem hold4 {P : Program} {F : FuncId} {args : Array Value} {w w0 : World} {r : Ending} {B b1 o1 b2 o2 b3 o3 b4 o4 : Nat} {x1 x2 x3 x4 : Value} (h : Calls P F args w fun e w' => e = r ∧ Below w.heap.size w w')
    (hB : Below B w0 w) (hs : B ≤ w.heap.size) (d1 : w.cell? ⟨b1, o1, none⟩ = some x1) (d2 : w.cell? ⟨b2, o2, none⟩ = some x2) (d3 : w.cell? ⟨b3, o3, none⟩ = some x3) (d4 : w.cell? ⟨b4, o4, none⟩ = some x4) :
    Calls P F args w fun e w' => e = r ∧ w'.cell? ⟨b1, o1, none⟩ = some x1 ∧ w'.cell? ⟨b2, o2, none⟩ = some x2 ∧ w'.cell? ⟨b3, o3, none⟩ = some x3 ∧ w'.cell? ⟨b4, o4, none⟩ = some x4 ∧ Below B w0 w' :=
  h.mono fun e w' ⟨h1, h2⟩ => ⟨h1, (h2.cell (p := ⟨b1, o1, none⟩) (World.block_lt_of_cell? _ _ d1)).trans d1, (h2.cell (p := ⟨b2, o2, none⟩) (World.block_lt_of_cell? _ _ d2)).trans d2, (h2.cell (p := ⟨b3, o3, none⟩) (World.block_lt_of_cell? _ _ d3)).trans d3, (h2.cell (p := ⟨b4, o4, none⟩) (World.block_lt_of_cell? _ _ d4)).trans d4, hB.trans (h2.mono hs)⟩
theorem hold5 {P : Program} {F : FuncId} {args : Array Value} {w w0 : World} {r : Ending} {B b1 o1 b2 o2 b3 o3 b4 o4 b5 o5 : Nat} {x1 x2 x3 x4 x5 : Value} (h : Calls P F args w fun e w' => e = r ∧ Below w.heap.size w w')
    (hB : Below B w0 w) (hs : B ≤ w.heap.size) (d1 : w.cell? ⟨b1, o1, none⟩ = some x1) (d2 : w.cell? ⟨b2, o2, none⟩ = some x2) (d3 : w.cell? ⟨b3, o3, none⟩ = some x3) (d4 : w.cell? ⟨b4, o4, none⟩ = some x4) (d5 : w.cell? ⟨b5, o5, none⟩ = some x5) :
    Calls P F args w fun e w' => e = r ∧ w'.cell? ⟨b1, o1, none⟩ = some x1 ∧ w'.cell? ⟨b2, o2, none⟩ = some x2 ∧ w'.cell? ⟨b3, o3, none⟩ = some x3 ∧ w'.cell? ⟨b4, o4, none⟩ = some x4 ∧ w'.cell? ⟨b5, o5, none⟩ = some x5 ∧ Below B w0 w' :=
  h.mono fun e w' ⟨h1, h2⟩ => ⟨h1, (h2.cell (p := ⟨b1, o1, none⟩) (World.block_lt_of_cell? _ _ d1)).trans d1, (h2.cell (p := ⟨b2, o2, none⟩) (World.block_lt_of_cell? _ _ d2)).trans d2, (h2.cell (p := ⟨b3, o3, none⟩) (World.block_lt_of_cell? _ _ d3)).trans d3, (h2.cell (p := ⟨b4, o4, none⟩) (World.block_lt_of_cell? _ _ d4)).trans d4, (h2.cell (p := ⟨b5, o5, none⟩) (World.block_lt_of_cell? _ _ d5)).trans d5, hB.trans (h2.mono hs)⟩
theorem hold6 {P : Program} {F : FuncId} {args : Array Value} {w w0 : World} {r : Ending} {B b1 o1 b2 o2 b3 o3 b4 o4 b5 o5 b6 o6 : Nat} {x1 x2 x3 x4 x5 x6 : Value} (h : Calls P F args w fun e w' => e = r ∧ Below w.heap.size w w')
    (hB : Below B w0 w) (hs : B ≤ w.heap.size) (d1 : w.cell? ⟨b1, o1, none⟩ = some x1) (d2 : w.cell? ⟨b2, o2, none⟩ = some x2) (d3 : w.cell? ⟨b3, o3, none⟩ = some x3) (d4 : w.cell? ⟨b4, o4, none⟩ = some x4) (d5 : w.cell? ⟨b5, o5, none⟩ = some x5) (d6 : w.cell? ⟨b6, o6, none⟩ = some x6) :
    Calls P F args w fun e w' => e = r ∧ w'.cell? ⟨b1, o1, none⟩ = some x1 ∧ w'.cell? ⟨b2, o2, none⟩ = some x2 ∧ w'.cell? ⟨b3, o3, none⟩ = some x3 ∧ w'.cell? ⟨b4, o4, none⟩ = some x4 ∧ w'.cell? ⟨b5, o5, none⟩ = some x5 ∧ w'.cell? ⟨b6, o6, none⟩ = some x6 ∧ Below B w0 w' :=
  h.mono fun e w' ⟨h1, h2⟩ => ⟨h1, (h2.cell (p := ⟨b1, o1, none⟩) (World.block_lt_of_cell? _ _ d1)).trans d1, (h2.cell (p := ⟨b2, o2, none⟩) (World.block_lt_of_cell? _ _ d2)).trans d2, (h2.cell (p := ⟨b3, o3, none⟩) (World.block_lt_of_cell? _ _ d3)).trans d3, (h2.cell (p := ⟨b4, o4, none⟩) (World.block_lt_of_cell? _ _ d4)).trans d4, (h2.cell (p := ⟨b5, o5, none⟩) (World.block_lt_of_cell? _ _ d5)).trans d5, (h2.cell (p := ⟨b6, o6, none⟩) (World.block_lt_of_cell? _ _ d6)).trans d6, hB.trans (h2.mono hs)⟩
theorem hold7 {P : Program} {F : FuncId} {args : Array Value} {w w0 : World} {r : Ending} {B b1 o1 b2 o2 b3 o3 b4 o4 b5 o5 b6 o6 b7 o7 : Nat} {x1 x2 x3 x4 x5 x6 x7 : Value} (h : Calls P F args w fun e w' => e = r ∧ Below w.heap.size w w')
    (hB : Below B w0 w) (hs : B ≤ w.heap.size) (d1 : w.cell? ⟨b1, o1, none⟩ = some x1) (d2 : w.cell? ⟨b2, o2, none⟩ = some x2) (d3 : w.cell? ⟨b3, o3, none⟩ = some x3) (d4 : w.cell? ⟨b4, o4, none⟩ = some x4) (d5 : w.cell? ⟨b5, o5, none⟩ = some x5) (d6 : w.cell? ⟨b6, o6, none⟩ = some x6) (d7 : w.cell? ⟨b7, o7, none⟩ = some x7) :
    Calls P F args w fun e w' => e = r ∧ w'.cell? ⟨b1, o1, none⟩ = some x1 ∧ w'.cell? ⟨b2, o2, none⟩ = some x2 ∧ w'.cell? ⟨b3, o3, none⟩ = some x3 ∧ w'.cell? ⟨b4, o4, none⟩ = some x4 ∧ w'.cell? ⟨b5, o5, none⟩ = some x5 ∧ w'.cell? ⟨b6, o6, none⟩ = some x6 ∧ w'.cell? ⟨b7, o7, none⟩ = some x7 ∧ Below B w0 w' :=
  h.mono fun e w' ⟨h1, h2⟩ => ⟨h1, (h2.cell (p := ⟨b1, o1, none⟩) (World.block_lt_of_cell? _ _ d1)).trans d1, (h2.cell (p := ⟨b2, o2, none⟩) (World.block_lt_of_cell? _ _ d2)).trans d2, (h2.cell (p := ⟨b3, o3, none⟩) (World.block_lt_of_cell? _ _ d3)).trans d3, (h2.cell (p := ⟨b4, o4, none⟩) (World.block_lt_of_cell? _ _ d4)).trans d4, (h2.cell (p := ⟨b5, o5, none⟩) (World.block_lt_of_cell? _ _ d5)).trans d5, (h2.cell (p := ⟨b6, o6, none⟩) (World.block_lt_of_cell? _ _ d6)).trans d6, (h2.cell (p := ⟨b7, o7, none⟩) (World.block_lt_of_cell? _ _ d7)).trans d7, hB.trans (h2.mono hs)⟩
theorem hold8 {P : Program} {F : FuncId} {args : Array Value} {w w0 : World} {r : Ending} {B b1 o1 b2 o2 b3 o3 b4 o4 b5 o5 b6 o6 b7 o7 b8 o8 : Nat} {x1 x2 x3 x4 x5 x6 x7 x8 : Value} (h : Calls P F args w fun e w' => e = r ∧ Below w.heap.size w w')
    (hB : Below B w0 w) (hs : B ≤ w.heap.size) (d1 : w.cell? ⟨b1, o1, none⟩ = some x1) (d2 : w.cell? ⟨b2, o2, none⟩ = some x2) (d3 : w.cell? ⟨b3, o3, none⟩ = some x3) (d4 : w.cell? ⟨b4, o4, none⟩ = some x4) (d5 : w.cell? ⟨b5, o5, none⟩ = some x5) (d6 : w.cell? ⟨b6, o6, none⟩ = some x6) (d7 : w.cell? ⟨b7, o7, none⟩ = some x7) (d8 : w.cell? ⟨b8, o8, none⟩ = some x8) :
    Calls P F args w fun e w' => e = r ∧ w'.cell? ⟨b1, o1, none⟩ = some x1 ∧ w'.cell? ⟨b2, o2, none⟩ = some x2 ∧ w'.cell? ⟨b3, o3, none⟩ = some x3 ∧ w'.cell? ⟨b4, o4, none⟩ = some x4 ∧ w'.cell? ⟨b5, o5, none⟩ = some x5 ∧ w'.cell? ⟨b6, o6, none⟩ = some x6 ∧ w'.cell? ⟨b7, o7, none⟩ = some x7 ∧ w'.cell? ⟨b8, o8, none⟩ = some x8 ∧ Below B w0 w' :=
  h.mono fun e w' ⟨h1, h2⟩ => ⟨h1, (h2.cell (p := ⟨b1, o1, none⟩) (World.block_lt_of_cell? _ _ d1)).trans d1, (h2.cell (p := ⟨b2, o2, none⟩) (World.block_lt_of_cell? _ _ d2)).trans d2, (h2.cell (p := ⟨b3, o3, none⟩) (World.block_lt_of_cell? _ _ d3)).trans d3, (h2.cell (p := ⟨b4, o4, none⟩) (World.block_lt_of_cell? _ _ d4)).trans d4, (h2.cell (p := ⟨b5, o5, none⟩) (World.block_lt_of_cell? _ _ d5)).trans d5, (h2.cell (p := ⟨b6, o6, none⟩) (World.block_lt_of_cell? _ _ d6)).trans d6, (h2.cell (p := ⟨b7, o7, none⟩) (World.block_lt_of_cell? _ _ d7)).trans d7, (h2.cell (p := ⟨b8, o8, none⟩) (World.block_lt_of_cell? _ _ d8)).trans d8, hB.trans (h2.mono hs)⟩
theorem hold9 {P : Program} {F : FuncId} {args : Array Value} {w w0 : World} {r : Ending} {B b1 o1 b2 o2 b3 o3 b4 o4 b5 o5 b6 o6 b7 o7 b8 o8 b9 o9 : Nat} {x1 x2 x3 x4 x5 x6 x7 x8 x9 : Value} (h : Calls P F args w fun e w' => e = r ∧ Below w.heap.size w w')
    (hB : Below B w0 w) (hs : B ≤ w.heap.size) (d1 : w.cell? ⟨b1, o1, none⟩ = some x1) (d2 : w.cell? ⟨b2, o2, none⟩ = some x2) (d3 : w.cell? ⟨b3, o3, none⟩ = some x3) (d4 : w.cell? ⟨b4, o4, none⟩ = some x4) (d5 : w.cell? ⟨b5, o5, none⟩ = some x5) (d6 : w.cell? ⟨b6, o6, none⟩ = some x6) (d7 : w.cell? ⟨b7, o7, none⟩ = some x7) (d8 : w.cell? ⟨b8, o8, none⟩ = some x8) (d9 : w.cell? ⟨b9, o9, none⟩ = some x9) :
    Calls P F args w fun e w' => e = r ∧ w'.cell? ⟨b1, o1, none⟩ = some x1 ∧ w'.cell? ⟨b2, o2, none⟩ = some x2 ∧ w'.cell? ⟨b3, o3, none⟩ = some x3 ∧ w'.cell? ⟨b4, o4, none⟩ = some x4 ∧ w'.cell? ⟨b5, o5, none⟩ = some x5 ∧ w'.cell? ⟨b6, o6, none⟩ = some x6 ∧ w'.cell? ⟨b7, o7, none⟩ = some x7 ∧ w'.cell? ⟨b8, o8, none⟩ = some x8 ∧ w'.cell? ⟨b9, o9, none⟩ = some x9 ∧ Below B w0 w' :=
  h.mono fun e w' ⟨h1, h2⟩ => ⟨h1, (h2.cell (p := ⟨b1, o1, none⟩) (World.block_lt_of_cell? _ _ d1)).trans d1, (h2.cell (p := ⟨b2, o2, none⟩) (World.block_lt_of_cell? _ _ d2)).trans d2, (h2.cell (p := ⟨b3, o3, none⟩) (World.block_lt_of_cell? _ _ d3)).trans d3, (h2.cell (p := ⟨b4, o4, none⟩) (World.block_lt_of_cell? _ _ d4)).trans d4, (h2.cell (p := ⟨b5, o5, none⟩) (World.block_lt_of_cell? _ _ d5)).trans d5, (h2.cell (p := ⟨b6, o6, none⟩) (World.block_lt_of_cell? _ _ d6)).trans d6, (h2.cell (p := ⟨b7, o7, none⟩) (World.block_lt_of_cell? _ _ d7)).trans d7, (h2.cell (p := ⟨b8, o8, none⟩) (World.block_lt_of_cell? _ _ d8)).trans d8, (h2.cell (p := ⟨b9, o9, none⟩) (World.block_lt_of_cell? _ _ d9)).trans d9, hB.trans (h2.mono hs)⟩
theorem hold10 {P : Program} {F : FuncId} {args : Array Value} {w w0 : World} {r : Ending} {B b1 o1 b2 o2 b3 o3 b4 o4 b5 o5 b6 o6 b7 o7 b8 o8 b9 o9 b10 o10 : Nat} {x1 x2 x3 x4 x5 x6 x7 x8 x9 x10 : Value} (h : Calls P F args w fun e w' => e = r ∧ Below w.heap.size w w')
    (hB : Below B w0 w) (hs : B ≤ w.heap.size) (d1 : w.cell? ⟨b1, o1, none⟩ = some x1) (d2 : w.cell? ⟨b2, o2, none⟩ = some x2) (d3 : w.cell? ⟨b3, o3, none⟩ = some x3) (d4 : w.cell? ⟨b4, o4, none⟩ = some x4) (d5 : w.cell? ⟨b5, o5, none⟩ = some x5) (d6 : w.cell? ⟨b6, o6, none⟩ = some x6) (d7 : w.cell? ⟨b7, o7, none⟩ = some x7) (d8 : w.cell? ⟨b8, o8, none⟩ = some x8) (d9 : w.cell? ⟨b9, o9, none⟩ = some x9) (d10 : w.cell? ⟨b10, o10, none⟩ = some x10) :
    Calls P F args w fun e w' => e = r ∧ w'.cell? ⟨b1, o1, none⟩ = some x1 ∧ w'.cell? ⟨b2, o2, none⟩ = some x2 ∧ w'.cell? ⟨b3, o3, none⟩ = some x3 ∧ w'.cell? ⟨b4, o4, none⟩ = some x4 ∧ w'.cell? ⟨b5, o5, none⟩ = some x5 ∧ w'.cell? ⟨b6, o6, none⟩ = some x6 ∧ w'.cell? ⟨b7, o7, none⟩ = some x7 ∧ w'.cell? ⟨b8, o8, none⟩ = some x8 ∧ w'.cell? ⟨b9, o9, none⟩ = some x9 ∧ w'.cell? ⟨b10, o10, none⟩ = some x10 ∧ Below B w0 w' :=
  h.mono fun e w' ⟨h1, h2⟩ => ⟨h1, (h2.cell (p := ⟨b1, o1, none⟩) (World.block_lt_of_cell? _ _ d1)).trans d1, (h2.cell (p := ⟨b2, o2, none⟩) (World.block_lt_of_cell? _ _ d2)).trans d2, (h2.cell (p := ⟨b3, o3, none⟩) (World.block_lt_of_cell? _ _ d3)).trans d3, (h2.cell (p := ⟨b4, o4, none⟩) (World.block_lt_of_cell? _ _ d4)).trans d4, (h2.cell (p := ⟨b5, o5, none⟩) (World.block_lt_of_cell? _ _ d5)).trans d5, (h2.cell (p := ⟨b6, o6, none⟩) (World.block_lt_of_cell? _ _ d6)).trans d6, (h2.cell (p := ⟨b7, o7, none⟩) (World.block_lt_of_cell? _ _ d7)).trans d7, (h2.cell (p := ⟨b8, o8, none⟩) (World.block_lt_of_cell? _ _ d8)).trans d8, (h2.cell (p := ⟨b9, o9, none⟩) (World.block_lt_of_cell? _ _ d9)).trans d9, (h2.cell (p := ⟨b10, o10, none⟩) (World.block_lt_of_cell? _ _ d10)).trans d10, hB.trans (h2.mono hs)⟩
theorem hold11 {P : Program} {F : FuncId} {args : Array Value} {w w0 : World} {r : Ending} {B b1 o1 b2 o2 b3 o3 b4 o4 b5 o5 b6 o6 b7 o7 b8 o8 b9 o9 b10 o10 b11 o11 : Nat} {x1 x2 x3 x4 x5 x6 x7 x8 x9 x10 x11 : Value} (h : Calls P F args w fun e w' => e = r ∧ Below w.heap.size w w')
    (hB : Below B w0 w) (hs : B ≤ w.heap.size) (d1 : w.cell? ⟨b1, o1, none⟩ = some x1) (d2 : w.cell? ⟨b2, o2, none⟩ = some x2) (d3 : w.cell? ⟨b3, o3, none⟩ = some x3) (d4 : w.cell? ⟨b4, o4, none⟩ = some x4) (d5 : w.cell? ⟨b5, o5, none⟩ = some x5) (d6 : w.cell? ⟨b6, o6, none⟩ = some x6) (d7 : w.cell? ⟨b7, o7, none⟩ = some x7) (d8 : w.cell? ⟨b8, o8, none⟩ = some x8) (d9 : w.cell? ⟨b9, o9, none⟩ = some x9) (d10 : w.cell? ⟨b10, o10, none⟩ = some x10) (d11 : w.cell? ⟨b11, o11, none⟩ = some x11) :
    Calls P F args w fun e w' => e = r ∧ w'.cell? ⟨b1, o1, none⟩ = some x1 ∧ w'.cell? ⟨b2, o2, none⟩ = some x2 ∧ w'.cell? ⟨b3, o3, none⟩ = some x3 ∧ w'.cell? ⟨b4, o4, none⟩ = some x4 ∧ w'.cell? ⟨b5, o5, none⟩ = some x5 ∧ w'.cell? ⟨b6, o6, none⟩ = some x6 ∧ w'.cell? ⟨b7, o7, none⟩ = some x7 ∧ w'.cell? ⟨b8, o8, none⟩ = some x8 ∧ w'.cell? ⟨b9, o9, none⟩ = some x9 ∧ w'.cell? ⟨b10, o10, none⟩ = some x10 ∧ w'.cell? ⟨b11, o11, none⟩ = some x11 ∧ Below B w0 w' :=
  h.mono fun e w' ⟨h1, h2⟩ => ⟨h1, (h2.cell (p := ⟨b1, o1, none⟩) (World.block_lt_of_cell? _ _ d1)).trans d1, (h2.cell (p := ⟨b2, o2, none⟩) (World.block_lt_of_cell? _ _ d2)).trans d2, (h2.cell (p := ⟨b3, o3, none⟩) (World.block_lt_of_cell? _ _ d3)).trans d3, (h2.cell (p := ⟨b4, o4, none⟩) (World.block_lt_of_cell? _ _ d4)).trans d4, (h2.cell (p := ⟨b5, o5, none⟩) (World.block_lt_of_cell? _ _ d5)).trans d5, (h2.cell (p := ⟨b6, o6, none⟩) (World.block_lt_of_cell? _ _ d6)).trans d6, (h2.cell (p := ⟨b7, o7, none⟩) (World.block_lt_of_cell? _ _ d7)).trans d7, (h2.cell (p := ⟨b8, o8, none⟩) (World.block_lt_of_cell? _ _ d8)).trans d8, (h2.cell (p := ⟨b9, o9, none⟩) (World.block_lt_of_cell? _ _ d9)).trans d9, (h2.cell (p := ⟨b10, o10, none⟩) (World.block_lt_of_cell? _ _ d10)).trans d10, (h2.cell (p := ⟨b11, o11, none⟩) (World.block_lt_of_cell? _ _ d11)).trans d11, hB.trans (h2.mono hs)⟩
theorem hold12 {P : Program} {F : FuncId} {args : Array Value} {w w0 : World} {r : Ending} {B b1 o1 b2 o2 b3 o3 b4 o4 b5 o5 b6 o6 b7 o7 b8 o8 b9 o9 b10 o10 b11 o11 b12 o12 : Nat} {x1 x2 x3 x4 x5 x6 x7 x8 x9 x10 x11 x12 : Value} (h : Calls P F args w fun e w' => e = r ∧ Below w.heap.size w w')
    (hB : Below B w0 w) (hs : B ≤ w.heap.size) (d1 : w.cell? ⟨b1, o1, none⟩ = some x1) (d2 : w.cell? ⟨b2, o2, none⟩ = some x2) (d3 : w.cell? ⟨b3, o3, none⟩ = some x3) (d4 : w.cell? ⟨b4, o4, none⟩ = some x4) (d5 : w.cell? ⟨b5, o5, none⟩ = some x5) (d6 : w.cell? ⟨b6, o6, none⟩ = some x6) (d7 : w.cell? ⟨b7, o7, none⟩ = some x7) (d8 : w.cell? ⟨b8, o8, none⟩ = some x8) (d9 : w.cell? ⟨b9, o9, none⟩ = some x9) (d10 : w.cell? ⟨b10, o10, none⟩ = some x10) (d11 : w.cell? ⟨b11, o11, none⟩ = some x11) (d12 : w.cell? ⟨b12, o12, none⟩ = some x12) :
    Calls P F args w fun e w' => e = r ∧ w'.cell? ⟨b1, o1, none⟩ = some x1 ∧ w'.cell? ⟨b2, o2, none⟩ = some x2 ∧ w'.cell? ⟨b3, o3, none⟩ = some x3 ∧ w'.cell? ⟨b4, o4, none⟩ = some x4 ∧ w'.cell? ⟨b5, o5, none⟩ = some x5 ∧ w'.cell? ⟨b6, o6, none⟩ = some x6 ∧ w'.cell? ⟨b7, o7, none⟩ = some x7 ∧ w'.cell? ⟨b8, o8, none⟩ = some x8 ∧ w'.cell? ⟨b9, o9, none⟩ = some x9 ∧ w'.cell? ⟨b10, o10, none⟩ = some x10 ∧ w'.cell? ⟨b11, o11, none⟩ = some x11 ∧ w'.cell? ⟨b12, o12, none⟩ = some x12 ∧ Below B w0 w' :=
  h.mono fun e w' ⟨h1, h2⟩ => ⟨h1, (h2.cell (p := ⟨b1, o1, none⟩) (World.block_lt_of_cell? _ _ d1)).trans d1, (h2.cell (p := ⟨b2, o2, none⟩) (World.block_lt_of_cell? _ _ d2)).trans d2, (h2.cell (p := ⟨b3, o3, none⟩) (World.block_lt_of_cell? _ _ d3)).trans d3, (h2.cell (p := ⟨b4, o4, none⟩) (World.block_lt_of_cell? _ _ d4)).trans d4, (h2.cell (p := ⟨b5, o5, none⟩) (World.block_lt_of_cell? _ _ d5)).trans d5, (h2.cell (p := ⟨b6, o6, none⟩) (World.block_lt_of_cell? _ _ d6)).trans d6, (h2.cell (p := ⟨b7, o7, none⟩) (World.block_lt_of_cell? _ _ d7)).trans d7, (h2.cell (p := ⟨b8, o8, none⟩) (World.block_lt_of_cell? _ _ d8)).trans d8, (h2.cell (p := ⟨b9, o9, none⟩) (World.block_lt_of_cell? _ _ d9)).trans d9, (h2.cell (p := ⟨b10, o10, none⟩) (World.block_lt_of_cell? _ _ d10)).trans d10, (h2.cell (p := ⟨b11, o11, none⟩) (World.block_lt_of_cell? _ _ d11)).trans d11, (h2.cell (p := ⟨b12, o12, none⟩) (World.block_lt_of_cell? _ _ d12)).trans d12, hB.trans (h2.mono hs)⟩
end Go.Proofs.YthabjihpjdlmoaaDoor
/- A call that makes memory leaves cells, wherever they lie, as they were: posts of any form. -/
namespace Go.Proofs.YthabjihpjdlmoaaDoor
open Go.RowKit
set_option linter.unusedVariables false
theorem holdQ1 {P : Program} {F : FuncId} {args : Array Value} {w w0 : World} {Q : Ending → World → Prop} {B b1 o1 : Nat} {x1 : Value} (h : Calls P F args w Q) (hQ : ∀ e w', Q e w' → Below w.heap.size w w')
    (hB : Below B w0 w) (hs : B ≤ w.heap.size) (d1 : w.cell? ⟨b1, o1, none⟩ = some x1) :
    Calls P F args w fun e w' => Q e w' ∧ w'.cell? ⟨b1, o1, none⟩ = some x1 ∧ Below B w0 w' :=
  h.mono fun e w' h1 => ⟨h1, ((hQ e w' h1).cell (p := ⟨b1, o1, none⟩) (World.block_lt_of_cell? _ _ d1)).trans d1, hB.trans ((hQ e w' h1).mono hs)⟩
theorem holdQ2 {P : Program} {F : FuncId} {args : Array Value} {w w0 : World} {Q : Ending → World → Prop} {B b1 o1 b2 o2 : Nat} {x1 x2 : Value} (h : Calls P F args w Q) (hQ : ∀ e w', Q e w' → Below w.heap.size w w')
    (hB : Below B w0 w) (hs : B ≤ w.heap.size) (d1 : w.cell? ⟨b1, o1, none⟩ = some x1) (d2 : w.cell? ⟨b2, o2, none⟩ = some x2) :
    Calls P F args w fun e w' => Q e w' ∧ w'.cell? ⟨b1, o1, none⟩ = some x1 ∧ w'.cell? ⟨b2, o2, none⟩ = some x2 ∧ Below B w0 w' :=
  h.mono fun e w' h1 => ⟨h1, ((hQ e w' h1).cell (p := ⟨b1, o1, none⟩) (World.block_lt_of_cell? _ _ d1)).trans d1, ((hQ e w' h1).cell (p := ⟨b2, o2, none⟩) (World.block_lt_of_cell? _ _ d2)).trans d2, hB.trans ((hQ e w' h1).mono hs)⟩
theorem holdQ3 {P : Program} {F : FuncId} {args : Array Value} {w w0 : World} {Q : Ending → World → Prop} {B b1 o1 b2 o2 b3 o3 : Nat} {x1 x2 x3 : Value} (h : Calls P F args w Q) (hQ : ∀ e w', Q e w' → Below w.heap.size w w')
    (hB : Below B w0 w) (hs : B ≤ w.heap.size) (d1 : w.cell? ⟨b1, o1, none⟩ = some x1) (d2 : w.cell? ⟨b2, o2, none⟩ = some x2) (d3 : w.cell? ⟨b3, o3, none⟩ = some x3) :
    Calls P F args w fun e w' => Q e w' ∧ w'.cell? ⟨b1, o1, none⟩ = some x1 ∧ w'.cell? ⟨b2, o2, none⟩ = some x2 ∧ w'.cell? ⟨b3, o3, none⟩ = some x3 ∧ Below B w0 w' :=
  h.mono fun e w' h1 => ⟨h1, ((hQ e w' h1).cell (p := ⟨b1, o1, none⟩) (World.block_lt_of_cell? _ _ d1)).trans d1, ((hQ e w' h1).cell (p := ⟨b2, o2, none⟩) (World.block_lt_of_cell? _ _ d2)).trans d2, ((hQ e w' h1).cell (p := ⟨b3, o3, none⟩) (World.block_lt_of_cell? _ _ d3)).trans d3, hB.trans ((hQ e w' h1).mono hs)⟩
theorem holdQ4 {P : Program} {F : FuncId} {args : Array Value} {w w0 : World} {Q : Ending → World → Prop} {B b1 o1 b2 o2 b3 o3 b4 o4 : Nat} {x1 x2 x3 x4 : Value} (h : Calls P F args w Q) (hQ : ∀ e w', Q e w' → Below w.heap.size w w')
    (hB : Below B w0 w) (hs : B ≤ w.heap.size) (d1 : w.cell? ⟨b1, o1, none⟩ = some x1) (d2 : w.cell? ⟨b2, o2, none⟩ = some x2) (d3 : w.cell? ⟨b3, o3, none⟩ = some x3) (d4 : w.cell? ⟨b4, o4, none⟩ = some x4) :
    Calls P F args w fun e w' => Q e w' ∧ w'.cell? ⟨b1, o1, none⟩ = some x1 ∧ w'.cell? ⟨b2, o2, none⟩ = some x2 ∧ w'.cell? ⟨b3, o3, none⟩ = some x3 ∧ w'.cell? ⟨b4, o4, none⟩ = some x4 ∧ Below B w0 w' :=
  h.mono fun e w' h1 => ⟨h1, ((hQ e w' h1).cell (p := ⟨b1, o1, none⟩) (World.block_lt_of_cell? _ _ d1)).trans d1, ((hQ e w' h1).cell (p := ⟨b2, o2, none⟩) (World.block_lt_of_cell? _ _ d2)).trans d2, ((hQ e w' h1).cell (p := ⟨b3, o3, none⟩) (World.block_lt_of_cell? _ _ d3)).trans d3, ((hQ e w' h1).cell (p := ⟨b4, o4, none⟩) (World.block_lt_of_cell? _ _ d4)).trans d4, hB.trans ((hQ e w' h1).mono hs)⟩
theorem holdQ5 {P : Program} {F : FuncId} {args : Array Value} {w w0 : World} {Q : Ending → World → Prop} {B b1 o1 b2 o2 b3 o3 b4 o4 b5 o5 : Nat} {x1 x2 x3 x4 x5 : Value} (h : Calls P F args w Q) (hQ : ∀ e w', Q e w' → Below w.heap.size w w')
    (hB : Below B w0 w) (hs : B ≤ w.heap.size) (d1 : w.cell? ⟨b1, o1, none⟩ = some x1) (d2 : w.cell? ⟨b2, o2, none⟩ = some x2) (d3 : w.cell? ⟨b3, o3, none⟩ = some x3) (d4 : w.cell? ⟨b4, o4, none⟩ = some x4) (d5 : w.cell? ⟨b5, o5, none⟩ = some x5) :
    Calls P F args w fun e w' => Q e w' ∧ w'.cell? ⟨b1, o1, none⟩ = some x1 ∧ w'.cell? ⟨b2, o2, none⟩ = some x2 ∧ w'.cell? ⟨b3, o3, none⟩ = some x3 ∧ w'.cell? ⟨b4, o4, none⟩ = some x4 ∧ w'.cell? ⟨b5, o5, none⟩ = some x5 ∧ Below B w0 w' :=
  h.mono fun e w' h1 => ⟨h1, ((hQ e w' h1).cell (p := ⟨b1, o1, none⟩) (World.block_lt_of_cell? _ _ d1)).trans d1, ((hQ e w' h1).cell (p := ⟨b2, o2, none⟩) (World.block_lt_of_cell? _ _ d2)).trans d2, ((hQ e w' h1).cell (p := ⟨b3, o3, none⟩) (World.block_lt_of_cell? _ _ d3)).trans d3, ((hQ e w' h1).cell (p := ⟨b4, o4, none⟩) (World.block_lt_of_cell? _ _ d4)).trans d4, ((hQ e w' h1).cell (p := ⟨b5, o5, none⟩) (World.block_lt_of_cell? _ _ d5)).trans d5, hB.trans ((hQ e w' h1).mono hs)⟩
theorem holdQ6 {P : Program} {F : FuncId} {args : Array Value} {w w0 : World} {Q : Ending → World → Prop} {B b1 o1 b2 o2 b3 o3 b4 o4 b5 o5 b6 o6 : Nat} {x1 x2 x3 x4 x5 x6 : Value} (h : Calls P F args w Q) (hQ : ∀ e w', Q e w' → Below w.heap.size w w')
    (hB : Below B w0 w) (hs : B ≤ w.heap.size) (d1 : w.cell? ⟨b1, o1, none⟩ = some x1) (d2 : w.cell? ⟨b2, o2, none⟩ = some x2) (d3 : w.cell? ⟨b3, o3, none⟩ = some x3) (d4 : w.cell? ⟨b4, o4, none⟩ = some x4) (d5 : w.cell? ⟨b5, o5, none⟩ = some x5) (d6 : w.cell? ⟨b6, o6, none⟩ = some x6) :
    Calls P F args w fun e w' => Q e w' ∧ w'.cell? ⟨b1, o1, none⟩ = some x1 ∧ w'.cell? ⟨b2, o2, none⟩ = some x2 ∧ w'.cell? ⟨b3, o3, none⟩ = some x3 ∧ w'.cell? ⟨b4, o4, none⟩ = some x4 ∧ w'.cell? ⟨b5, o5, none⟩ = some x5 ∧ w'.cell? ⟨b6, o6, none⟩ = some x6 ∧ Below B w0 w' :=
  h.mono fun e w' h1 => ⟨h1, ((hQ e w' h1).cell (p := ⟨b1, o1, none⟩) (World.block_lt_of_cell? _ _ d1)).trans d1, ((hQ e w' h1).cell (p := ⟨b2, o2, none⟩) (World.block_lt_of_cell? _ _ d2)).trans d2, ((hQ e w' h1).cell (p := ⟨b3, o3, none⟩) (World.block_lt_of_cell? _ _ d3)).trans d3, ((hQ e w' h1).cell (p := ⟨b4, o4, none⟩) (World.block_lt_of_cell? _ _ d4)).trans d4, ((hQ e w' h1).cell (p := ⟨b5, o5, none⟩) (World.block_lt_of_cell? _ _ d5)).trans d5, ((hQ e w' h1).cell (p := ⟨b6, o6, none⟩) (World.block_lt_of_cell? _ _ d6)).trans d6, hB.trans ((hQ e w' h1).mono hs)⟩
theorem holdQ7 {P : Program} {F : FuncId} {args : Array Value} {w w0 : World} {Q : Ending → World → Prop} {B b1 o1 b2 o2 b3 o3 b4 o4 b5 o5 b6 o6 b7 o7 : Nat} {x1 x2 x3 x4 x5 x6 x7 : Value} (h : Calls P F args w Q) (hQ : ∀ e w', Q e w' → Below w.heap.size w w')
    (hB : Below B w0 w) (hs : B ≤ w.heap.size) (d1 : w.cell? ⟨b1, o1, none⟩ = some x1) (d2 : w.cell? ⟨b2, o2, none⟩ = some x2) (d3 : w.cell? ⟨b3, o3, none⟩ = some x3) (d4 : w.cell? ⟨b4, o4, none⟩ = some x4) (d5 : w.cell? ⟨b5, o5, none⟩ = some x5) (d6 : w.cell? ⟨b6, o6, none⟩ = some x6) (d7 : w.cell? ⟨b7, o7, none⟩ = some x7) :
    Calls P F args w fun e w' => Q e w' ∧ w'.cell? ⟨b1, o1, none⟩ = some x1 ∧ w'.cell? ⟨b2, o2, none⟩ = some x2 ∧ w'.cell? ⟨b3, o3, none⟩ = some x3 ∧ w'.cell? ⟨b4, o4, none⟩ = some x4 ∧ w'.cell? ⟨b5, o5, none⟩ = some x5 ∧ w'.cell? ⟨b6, o6, none⟩ = some x6 ∧ w'.cell? ⟨b7, o7, none⟩ = some x7 ∧ Below B w0 w' :=
  h.mono fun e w' h1 => ⟨h1, ((hQ e w' h1).cell (p := ⟨b1, o1, none⟩) (World.block_lt_of_cell? _ _ d1)).trans d1, ((hQ e w' h1).cell (p := ⟨b2, o2, none⟩) (World.block_lt_of_cell? _ _ d2)).trans d2, ((hQ e w' h1).cell (p := ⟨b3, o3, none⟩) (World.block_lt_of_cell? _ _ d3)).trans d3, ((hQ e w' h1).cell (p := ⟨b4, o4, none⟩) (World.block_lt_of_cell? _ _ d4)).trans d4, ((hQ e w' h1).cell (p := ⟨b5, o5, none⟩) (World.block_lt_of_cell? _ _ d5)).trans d5, ((hQ e w' h1).cell (p := ⟨b6, o6, none⟩) (World.block_lt_of_cell? _ _ d6)).trans d6, ((hQ e w' h1).cell (p := ⟨b7, o7, none⟩) (World.block_lt_of_cell? _ _ d7)).trans d7, hB.trans ((hQ e w' h1).mono hs)⟩
theorem holdQ8 {P : Program} {F : FuncId} {args : Array Value} {w w0 : World} {Q : Ending → World → Prop} {B b1 o1 b2 o2 b3 o3 b4 o4 b5 o5 b6 o6 b7 o7 b8 o8 : Nat} {x1 x2 x3 x4 x5 x6 x7 x8 : Value} (h : Calls P F args w Q) (hQ : ∀ e w', Q e w' → Below w.heap.size w w')
    (hB : Below B w0 w) (hs : B ≤ w.heap.size) (d1 : w.cell? ⟨b1, o1, none⟩ = some x1) (d2 : w.cell? ⟨b2, o2, none⟩ = some x2) (d3 : w.cell? ⟨b3, o3, none⟩ = some x3) (d4 : w.cell? ⟨b4, o4, none⟩ = some x4) (d5 : w.cell? ⟨b5, o5, none⟩ = some x5) (d6 : w.cell? ⟨b6, o6, none⟩ = some x6) (d7 : w.cell? ⟨b7, o7, none⟩ = some x7) (d8 : w.cell? ⟨b8, o8, none⟩ = some x8) :
    Calls P F args w fun e w' => Q e w' ∧ w'.cell? ⟨b1, o1, none⟩ = some x1 ∧ w'.cell? ⟨b2, o2, none⟩ = some x2 ∧ w'.cell? ⟨b3, o3, none⟩ = some x3 ∧ w'.cell? ⟨b4, o4, none⟩ = some x4 ∧ w'.cell? ⟨b5, o5, none⟩ = some x5 ∧ w'.cell? ⟨b6, o6, none⟩ = some x6 ∧ w'.cell? ⟨b7, o7, none⟩ = some x7 ∧ w'.cell? ⟨b8, o8, none⟩ = some x8 ∧ Below B w0 w' :=
  h.mono fun e w' h1 => ⟨h1, ((hQ e w' h1).cell (p := ⟨b1, o1, none⟩) (World.block_lt_of_cell? _ _ d1)).trans d1, ((hQ e w' h1).cell (p := ⟨b2, o2, none⟩) (World.block_lt_of_cell? _ _ d2)).trans d2, ((hQ e w' h1).cell (p := ⟨b3, o3, none⟩) (World.block_lt_of_cell? _ _ d3)).trans d3, ((hQ e w' h1).cell (p := ⟨b4, o4, none⟩) (World.block_lt_of_cell? _ _ d4)).trans d4, ((hQ e w' h1).cell (p := ⟨b5, o5, none⟩) (World.block_lt_of_cell? _ _ d5)).trans d5, ((hQ e w' h1).cell (p := ⟨b6, o6, none⟩) (World.block_lt_of_cell? _ _ d6)).trans d6, ((hQ e w' h1).cell (p := ⟨b7, o7, none⟩) (World.block_lt_of_cell? _ _ d7)).trans d7, ((hQ e w' h1).cell (p := ⟨b8, o8, none⟩) (World.block_lt_of_cell? _ _ d8)).trans d8, hB.trans ((hQ e w' h1).mono hs)⟩
theorem holdQ9 {P : Program} {F : FuncId} {args : Array Value} {w w0 : World} {Q : Ending → World → Prop} {B b1 o1 b2 o2 b3 o3 b4 o4 b5 o5 b6 o6 b7 o7 b8 o8 b9 o9 : Nat} {x1 x2 x3 x4 x5 x6 x7 x8 x9 : Value} (h : Calls P F args w Q) (hQ : ∀ e w', Q e w' → Below w.heap.size w w')
    (hB : Below B w0 w) (hs : B ≤ w.heap.size) (d1 : w.cell? ⟨b1, o1, none⟩ = some x1) (d2 : w.cell? ⟨b2, o2, none⟩ = some x2) (d3 : w.cell? ⟨b3, o3, none⟩ = some x3) (d4 : w.cell? ⟨b4, o4, none⟩ = some x4) (d5 : w.cell? ⟨b5, o5, none⟩ = some x5) (d6 : w.cell? ⟨b6, o6, none⟩ = some x6) (d7 : w.cell? ⟨b7, o7, none⟩ = some x7) (d8 : w.cell? ⟨b8, o8, none⟩ = some x8) (d9 : w.cell? ⟨b9, o9, none⟩ = some x9) :
    Calls P F args w fun e w' => Q e w' ∧ w'.cell? ⟨b1, o1, none⟩ = some x1 ∧ w'.cell? ⟨b2, o2, none⟩ = some x2 ∧ w'.cell? ⟨b3, o3, none⟩ = some x3 ∧ w'.cell? ⟨b4, o4, none⟩ = some x4 ∧ w'.cell? ⟨b5, o5, none⟩ = some x5 ∧ w'.cell? ⟨b6, o6, none⟩ = some x6 ∧ w'.cell? ⟨b7, o7, none⟩ = some x7 ∧ w'.cell? ⟨b8, o8, none⟩ = some x8 ∧ w'.cell? ⟨b9, o9, none⟩ = some x9 ∧ Below B w0 w' :=
  h.mono fun e w' h1 => ⟨h1, ((hQ e w' h1).cell (p := ⟨b1, o1, none⟩) (World.block_lt_of_cell? _ _ d1)).trans d1, ((hQ e w' h1).cell (p := ⟨b2, o2, none⟩) (World.block_lt_of_cell? _ _ d2)).trans d2, ((hQ e w' h1).cell (p := ⟨b3, o3, none⟩) (World.block_lt_of_cell? _ _ d3)).trans d3, ((hQ e w' h1).cell (p := ⟨b4, o4, none⟩) (World.block_lt_of_cell? _ _ d4)).trans d4, ((hQ e w' h1).cell (p := ⟨b5, o5, none⟩) (World.block_lt_of_cell? _ _ d5)).trans d5, ((hQ e w' h1).cell (p := ⟨b6, o6, none⟩) (World.block_lt_of_cell? _ _ d6)).trans d6, ((hQ e w' h1).cell (p := ⟨b7, o7, none⟩) (World.block_lt_of_cell? _ _ d7)).trans d7, ((hQ e w' h1).cell (p := ⟨b8, o8, none⟩) (World.block_lt_of_cell? _ _ d8)).trans d8, ((hQ e w' h1).cell (p := ⟨b9, o9, none⟩) (World.block_lt_of_cell? _ _ d9)).trans d9, hB.trans ((hQ e w' h1).mono hs)⟩
theorem holdQ10 {P : Program} {F : FuncId} {args : Array Value} {w w0 : World} {Q : Ending → World → Prop} {B b1 o1 b2 o2 b3 o3 b4 o4 b5 o5 b6 o6 b7 o7 b8 o8 b9 o9 b10 o10 : Nat} {x1 x2 x3 x4 x5 x6 x7 x8 x9 x10 : Value} (h : Calls P F args w Q) (hQ : ∀ e w', Q e w' → Below w.heap.size w w')
    (hB : Below B w0 w) (hs : B ≤ w.heap.size) (d1 : w.cell? ⟨b1, o1, none⟩ = some x1) (d2 : w.cell? ⟨b2, o2, none⟩ = some x2) (d3 : w.cell? ⟨b3, o3, none⟩ = some x3) (d4 : w.cell? ⟨b4, o4, none⟩ = some x4) (d5 : w.cell? ⟨b5, o5, none⟩ = some x5) (d6 : w.cell? ⟨b6, o6, none⟩ = some x6) (d7 : w.cell? ⟨b7, o7, none⟩ = some x7) (d8 : w.cell? ⟨b8, o8, none⟩ = some x8) (d9 : w.cell? ⟨b9, o9, none⟩ = some x9) (d10 : w.cell? ⟨b10, o10, none⟩ = some x10) :
    Calls P F args w fun e w' => Q e w' ∧ w'.cell? ⟨b1, o1, none⟩ = some x1 ∧ w'.cell? ⟨b2, o2, none⟩ = some x2 ∧ w'.cell? ⟨b3, o3, none⟩ = some x3 ∧ w'.cell? ⟨b4, o4, none⟩ = some x4 ∧ w'.cell? ⟨b5, o5, none⟩ = some x5 ∧ w'.cell? ⟨b6, o6, none⟩ = some x6 ∧ w'.cell? ⟨b7, o7, none⟩ = some x7 ∧ w'.cell? ⟨b8, o8, none⟩ = some x8 ∧ w'.cell? ⟨b9, o9, none⟩ = some x9 ∧ w'.cell? ⟨b10, o10, none⟩ = some x10 ∧ Below B w0 w' :=
  h.mono fun e w' h1 => ⟨h1, ((hQ e w' h1).cell (p := ⟨b1, o1, none⟩) (World.block_lt_of_cell? _ _ d1)).trans d1, ((hQ e w' h1).cell (p := ⟨b2, o2, none⟩) (World.block_lt_of_cell? _ _ d2)).trans d2, ((hQ e w' h1).cell (p := ⟨b3, o3, none⟩) (World.block_lt_of_cell? _ _ d3)).trans d3, ((hQ e w' h1).cell (p := ⟨b4, o4, none⟩) (World.block_lt_of_cell? _ _ d4)).trans d4, ((hQ e w' h1).cell (p := ⟨b5, o5, none⟩) (World.block_lt_of_cell? _ _ d5)).trans d5, ((hQ e w' h1).cell (p := ⟨b6, o6, none⟩) (World.block_lt_of_cell? _ _ d6)).trans d6, ((hQ e w' h1).cell (p := ⟨b7, o7, none⟩) (World.block_lt_of_cell? _ _ d7)).trans d7, ((hQ e w' h1).cell (p := ⟨b8, o8, none⟩) (World.block_lt_of_cell? _ _ d8)).trans d8, ((hQ e w' h1).cell (p := ⟨b9, o9, none⟩) (World.block_lt_of_cell? _ _ d9)).trans d9, ((hQ e w' h1).cell (p := ⟨b10, o10, none⟩) (World.block_lt_of_cell? _ _ d10)).trans d10, hB.trans ((hQ e w' h1).mono hs)⟩
theorem holdQ11 {P : Program} {F : FuncId} {args : Array Value} {w w0 : World} {Q : Ending → World → Prop} {B b1 o1 b2 o2 b3 o3 b4 o4 b5 o5 b6 o6 b7 o7 b8 o8 b9 o9 b10 o10 b11 o11 : Nat} {x1 x2 x3 x4 x5 x6 x7 x8 x9 x10 x11 : Value} (h : Calls P F args w Q) (hQ : ∀ e w', Q e w' → Below w.heap.size w w')
    (hB : Below B w0 w) (hs : B ≤ w.heap.size) (d1 : w.cell? ⟨b1, o1, none⟩ = some x1) (d2 : w.cell? ⟨b2, o2, none⟩ = some x2) (d3 : w.cell? ⟨b3, o3, none⟩ = some x3) (d4 : w.cell? ⟨b4, o4, none⟩ = some x4) (d5 : w.cell? ⟨b5, o5, none⟩ = some x5) (d6 : w.cell? ⟨b6, o6, none⟩ = some x6) (d7 : w.cell? ⟨b7, o7, none⟩ = some x7) (d8 : w.cell? ⟨b8, o8, none⟩ = some x8) (d9 : w.cell? ⟨b9, o9, none⟩ = some x9) (d10 : w.cell? ⟨b10, o10, none⟩ = some x10) (d11 : w.cell? ⟨b11, o11, none⟩ = some x11) :
    Calls P F args w fun e w' => Q e w' ∧ w'.cell? ⟨b1, o1, none⟩ = some x1 ∧ w'.cell? ⟨b2, o2, none⟩ = some x2 ∧ w'.cell? ⟨b3, o3, none⟩ = some x3 ∧ w'.cell? ⟨b4, o4, none⟩ = some x4 ∧ w'.cell? ⟨b5, o5, none⟩ = some x5 ∧ w'.cell? ⟨b6, o6, none⟩ = some x6 ∧ w'.cell? ⟨b7, o7, none⟩ = some x7 ∧ w'.cell? ⟨b8, o8, none⟩ = some x8 ∧ w'.cell? ⟨b9, o9, none⟩ = some x9 ∧ w'.cell? ⟨b10, o10, none⟩ = some x10 ∧ w'.cell? ⟨b11, o11, none⟩ = some x11 ∧ Below B w0 w' :=
  h.mono fun e w' h1 => ⟨h1, ((hQ e w' h1).cell (p := ⟨b1, o1, none⟩) (World.block_lt_of_cell? _ _ d1)).trans d1, ((hQ e w' h1).cell (p := ⟨b2, o2, none⟩) (World.block_lt_of_cell? _ _ d2)).trans d2, ((hQ e w' h1).cell (p := ⟨b3, o3, none⟩) (World.block_lt_of_cell? _ _ d3)).trans d3, ((hQ e w' h1).cell (p := ⟨b4, o4, none⟩) (World.block_lt_of_cell? _ _ d4)).trans d4, ((hQ e w' h1).cell (p := ⟨b5, o5, none⟩) (World.block_lt_of_cell? _ _ d5)).trans d5, ((hQ e w' h1).cell (p := ⟨b6, o6, none⟩) (World.block_lt_of_cell? _ _ d6)).trans d6, ((hQ e w' h1).cell (p := ⟨b7, o7, none⟩) (World.block_lt_of_cell? _ _ d7)).trans d7, ((hQ e w' h1).cell (p := ⟨b8, o8, none⟩) (World.block_lt_of_cell? _ _ d8)).trans d8, ((hQ e w' h1).cell (p := ⟨b9, o9, none⟩) (World.block_lt_of_cell? _ _ d9)).trans d9, ((hQ e w' h1).cell (p := ⟨b10, o10, none⟩) (World.block_lt_of_cell? _ _ d10)).trans d10, ((hQ e w' h1).cell (p := ⟨b11, o11, none⟩) (World.block_lt_of_cell? _ _ d11)).trans d11, hB.trans ((hQ e w' h1).mono hs)⟩
theorem holdQ12 {P : Program} {F : FuncId} {args : Array Value} {w w0 : World} {Q : Ending → World → Prop} {B b1 o1 b2 o2 b3 o3 b4 o4 b5 o5 b6 o6 b7 o7 b8 o8 b9 o9 b10 o10 b11 o11 b12 o12 : Nat} {x1 x2 x3 x4 x5 x6 x7 x8 x9 x10 x11 x12 : Value} (h : Calls P F args w Q) (hQ : ∀ e w', Q e w' → Below w.heap.size w w')
    (hB : Below B w0 w) (hs : B ≤ w.heap.size) (d1 : w.cell? ⟨b1, o1, none⟩ = some x1) (d2 : w.cell? ⟨b2, o2, none⟩ = some x2) (d3 : w.cell? ⟨b3, o3, none⟩ = some x3) (d4 : w.cell? ⟨b4, o4, none⟩ = some x4) (d5 : w.cell? ⟨b5, o5, none⟩ = some x5) (d6 : w.cell? ⟨b6, o6, none⟩ = some x6) (d7 : w.cell? ⟨b7, o7, none⟩ = some x7) (d8 : w.cell? ⟨b8, o8, none⟩ = some x8) (d9 : w.cell? ⟨b9, o9, none⟩ = some x9) (d10 : w.cell? ⟨b10, o10, none⟩ = some x10) (d11 : w.cell? ⟨b11, o11, none⟩ = some x11) (d12 : w.cell? ⟨b12, o12, none⟩ = some x12) :
    Calls P F args w fun e w' => Q e w' ∧ w'.cell? ⟨b1, o1, none⟩ = some x1 ∧ w'.cell? ⟨b2, o2, none⟩ = some x2 ∧ w'.cell? ⟨b3, o3, none⟩ = some x3 ∧ w'.cell? ⟨b4, o4, none⟩ = some x4 ∧ w'.cell? ⟨b5, o5, none⟩ = some x5 ∧ w'.cell? ⟨b6, o6, none⟩ = some x6 ∧ w'.cell? ⟨b7, o7, none⟩ = some x7 ∧ w'.cell? ⟨b8, o8, none⟩ = some x8 ∧ w'.cell? ⟨b9, o9, none⟩ = some x9 ∧ w'.cell? ⟨b10, o10, none⟩ = some x10 ∧ w'.cell? ⟨b11, o11, none⟩ = some x11 ∧ w'.cell? ⟨b12, o12, none⟩ = some x12 ∧ Below B w0 w' :=
  h.mono fun e w' h1 => ⟨h1, ((hQ e w' h1).cell (p := ⟨b1, o1, none⟩) (World.block_lt_of_cell? _ _ d1)).trans d1, ((hQ e w' h1).cell (p := ⟨b2, o2, none⟩) (World.block_lt_of_cell? _ _ d2)).trans d2, ((hQ e w' h1).cell (p := ⟨b3, o3, none⟩) (World.block_lt_of_cell? _ _ d3)).trans d3, ((hQ e w' h1).cell (p := ⟨b4, o4, none⟩) (World.block_lt_of_cell? _ _ d4)).trans d4, ((hQ e w' h1).cell (p := ⟨b5, o5, none⟩) (World.block_lt_of_cell? _ _ d5)).trans d5, ((hQ e w' h1).cell (p := ⟨b6, o6, none⟩) (World.block_lt_of_cell? _ _ d6)).trans d6, ((hQ e w' h1).cell (p := ⟨b7, o7, none⟩) (World.block_lt_of_cell? _ _ d7)).trans d7, ((hQ e w' h1).cell (p := ⟨b8, o8, none⟩) (World.block_lt_of_cell? _ _ d8)).trans d8, ((hQ e w' h1).cell (p := ⟨b9, o9, none⟩) (World.block_lt_of_cell? _ _ d9)).trans d9, ((hQ e w' h1).cell (p := ⟨b10, o10, none⟩) (World.block_lt_of_cell? _ _ d10)).trans d10, ((hQ e w' h1).cell (p := ⟨b11, o11, none⟩) (World.block_lt_of_cell? _ _ d11)).trans d11, ((hQ e w' h1).cell (p := ⟨b12, o12, none⟩) (World.block_lt_of_cell? _ _ d12)).trans d12, hB.trans ((hQ e w' h1).mono hs)⟩
end Go.Proofs.YthabjihpjdlmoaaDoor
/- Layer 6: the lists of neighbours, as the statements call for them. -/
namespace Go.Proofs.YthabjihpjdlmoaaDoor
open Go.RowKit
set_option linter.unusedVariables false
/-- The reference's list of neighbours. -/
def RNearR (w : World) (xs : List Int) (e : Ending) (w' : World) : Prop := ∃ g c, e = .returned (.slice (some ⟨g, 0, none⟩) 8 c) ∧ Nq w' w'.heap.size (some ⟨g, 0, none⟩) 8 xs ∧ Below w.heap.size w w'
theorem rnear_q (W H t : Int) (s : Value) (w : World) (w1 : 1 ≤ W) (w2 : W ≤ 128) (h1 : 1 ≤ H) (h2 : H ≤ 128) (t0 : 0 ≤ t) (t1 : t ≤ 16384) :
    Calls Tryd.prog 34 #[.agg #[.int .i64 W, .int .i64 H, s], .int .i64 t] w (RNearR w (nbL W H t)) :=
  (rnear_any W H t s w w1 w2 h1 h2 t0 t1).mono fun e w' ⟨v, he, ho, hb⟩ => by
    have ho' := ho
    rcases ho.2 with ⟨rfl, h0⟩ | ⟨g, cap, cur, rfl, hg, hh, hc, hm, hs, ht⟩
    · omega
    · refine ⟨g, cap, he, ⟨rfl, fun _ => ⟨g, 0, rfl, lt_of_block hh, fun k hk => ?_⟩⟩, hb⟩
      have := ho'.cellAt k (by omega)
      rw [Nat.zero_add, this]
      have hl : (nbL W H t).length = 8 := rfl
      simp [List.getElem?_map, List.getD, List.getElem?_eq_getElem (show k < (nbL W H t).length by omega)]
theorem nq_drew {w : World} {B n : Nat} {a : Option Addr} {xs : List Int} (h : Nq w B a n xs) : Nq w.drew B a n xs := ⟨h.len, h.rd⟩
theorem rnearR_below {w w' : World} {xs : List Int} {e : Ending} (h : RNearR w xs e w') : Below w.heap.size w w' := by
  obtain ⟨_, _, _, _, h⟩ := h; exact h
theorem nearR_below {w w' : World} {xs : List Int} {e : Ending} (h : NearR w xs e w') : Below w.heap.size w w' := by
  obtain ⟨_, _, _, _, _, _, _, h⟩ := h; exact h
theorem rtile_as (r : Bool) (t W H : Int) (s : Value) (w : World) (w1 : 1 ≤ W) (w2 : W ≤ 128) (h1 : 1 ≤ H) (h2 : H ≤ 128) (R : Hk (decide (0 ≤ t ∧ t < W * H) = r)) :
    Calls Tryd.prog 25 #[.agg #[.int .i64 W, .int .i64 H, s], .int .i64 t] w fun e' w' => e' = .returned (.bool r) ∧ Below w.heap.size w w' := by
  obtain ⟨rfl⟩ := R; exact rtile_any t W H s w w1 w2 h1 h2
theorem near_a8 {w' wb : World} {xs : List Int} {g base m : Nat} (h : ∀ j, j < 8 → w'.cell? ⟨g, j, none⟩ = some (.int .i64 (xs.getD j 0))) (hf : ∀ j, w'.frozen? ⟨g, j, none⟩ = false) (hg : g < w'.heap.size) (hb : base ≤ g) (hB : Below base wb w') : A8 base g wb (w'.drewN m) (fun j => xs.getD j 0) :=
  ⟨h, hf, hg, hb, below_drewN hB m⟩
end Go.Proofs.YthabjihpjdlmoaaDoor
/- Layer 6: whether a number is in a list (the reference's In), for GroundBack. -/
namespace Go.Proofs.YthabjihpjdlmoaaDoor
open Go.RowKit
set_option linter.unusedVariables false
theorem dropg {xs : List Int} {k : Nat} (h : k < xs.length) : xs.drop k = xs.getD k 0 :: xs.drop (k + 1) := by
  rw [List.drop_eq_getElem_cons h]; simp [List.getD, List.getElem?_eq_getElem h]
set_option maxRecDepth 100000 in
theorem in_as (r : Bool) (N : Int) (a : Option Addr) (n c : Nat) (xs : List Int) (w : World) (h : Nq w w.heap.size a n xs) (hn : n ≤ 1099511627776) (E : Hk (decide (N ∈ xs) = r)) :
    Calls Tryd.prog 43 #[.slice a n c, .int .i64 N] w fun e w' => (∃ v : Int, e = .returned (.int .i64 v) ∧ decide (v < 0) = (!r) ∧ decide (0 ≤ v) = r) ∧ w = w' := by
  have H := Hk.mk h
  clear h
  go_enter Tryd.func43, Tryd.ntmps43
  go_wp2
  go_loop [5] (fun i => ∃ (k : Nat), i = .int .i64 k ∧ k ≤ n ∧ Hk (decide (N ∈ xs.drop k) = r)) (fun i => n - (intOf i).toNat)
  case atStart => exact ⟨0, rfl, Nat.zero_le _, ⟨by simpa using E.out⟩⟩
  case round =>
    obtain ⟨k, rfl, hk, HR⟩ := hrel
    by_cases hlt : k < n
    · obtain ⟨b, off, rfl, hbl, hc⟩ := H.out.rd (by omega)
      have hcx := hc k hlt
      clear hc
      have hr := HR.out
      rw [dropg (by rw [H.out.len]; exact hlt)] at hr
      generalize xs.getD k 0 = y at *
      have i1 : (0 : Int) ≤ (k : Int) := by omega
      have i2 : (k : Int) < (n : Int) := by omega
      by_cases q1 : y = N
      · have R : Hk (true = r) := ⟨by rw [← hr]; simp [q1]⟩
        clear hr
        subst q1
        go_wp2
        go_ret
        exact ⟨⟨_, rfl, by rw [← R.out]; simp, by rw [← R.out]; simp⟩, rfl⟩
      · have b1 : (y == N) = false := by simp [q1]
        have R : Hk (decide (N ∈ xs.drop (k + 1)) = r) := ⟨by rw [← hr]; simp [Ne.symm q1]⟩
        clear hr
        go_wp2
        go_round
        case rel => exact ⟨k + 1, by go_num, by omega, R⟩
        case measure => simp [intOf]; omega
    · have hkn : k = n := by omega
      subst hkn
      have R : Hk (false = r) := ⟨by have := HR.out; rw [List.drop_of_length_le (by rw [H.out.len]; omega)] at this; simpa using this⟩
      go_wp2
      go_ret
      exact ⟨⟨_, rfl, by rw [← R.out]; rfl, by rw [← R.out]; rfl⟩, rfl⟩
end Go.Proofs.YthabjihpjdlmoaaDoor
/- Layer 6, plain: neighbours are neighbours both ways, each once (for GroundBack). -/
namespace Go.Proofs.YthabjihpjdlmoaaDoor
open Go.RowKit
set_option linter.unusedVariables false
theorem nbS_inv {W H t dx dy u : Int} (hW : 1 ≤ W) (e : nbS W H t dx dy = u) (h : 0 ≤ u) :
    (0 ≤ t % W + dx ∧ t % W + dx < W ∧ 0 ≤ t / W + dy ∧ t / W + dy < H) ∧ u % W = t % W + dx ∧ u / W = t / W + dy ∧ u < W * H := by
  by_cases c : 0 ≤ t % W + dx ∧ t % W + dx < W ∧ 0 ≤ t / W + dy ∧ t / W + dy < H
  · obtain ⟨c1, c2, c3, c4⟩ := c
    rw [nbS_yes c1 c2 c3 c4] at e
    refine ⟨⟨c1, c2, c3, c4⟩, ?_, ?_, ?_⟩
    · rw [← e, Int.add_mul_emod_self_left, Int.emod_eq_of_lt c1 c2]
    · rw [← e, Int.add_mul_ediv_left _ _ (by omega), Int.ediv_eq_zero_of_lt c1 c2, Int.zero_add]
    · have h1 : W * (t / W + dy) ≤ W * (H - 1) := Int.mul_le_mul_of_nonneg_left (by omega) (by omega)
      have h2 : W * (H - 1) = W * H - W := by rw [Int.mul_sub, Int.mul_one]
      omega
  · rw [nbS_no c] at e; omega
theorem nbS_back {W H t dx dy u : Int} (hW : 1 ≤ W) (t0 : 0 ≤ t) (t1 : t < W * H) (e : nbS W H t dx dy = u) (h : 0 ≤ u) : nbS W H u (-dx) (-dy) = t := by
  obtain ⟨_, hm, hd, _⟩ := nbS_inv hW e h
  have m0 := Int.emod_nonneg t (show W ≠ 0 by omega)
  have m1 := Int.emod_lt_of_pos t (show 0 < W by omega)
  have d0 : 0 ≤ t / W := Int.ediv_nonneg t0 (by omega)
  have d1 : t / W < H := Int.ediv_lt_of_lt_mul (by omega) (by rw [Int.mul_comm]; exact t1)
  have em := Int.emod_add_mul_ediv t W
  rw [nbS_yes (by omega) (by omega) (by omega) (by omega), hm, hd, show t % W + dx + -dx = t % W by omega, show t / W + dy + -dy = t / W by omega]
  omega
theorem ways (k : Nat) (hk : k < 8) : ∃ j, j < 8 ∧ dxL.getD j 0 = -(dxL.getD k 0) ∧ dyL.getD j 0 = -(dyL.getD k 0) := by
  have h : ∀ k : Fin 8, ∃ j : Fin 8, dxL.getD j 0 = -(dxL.getD k 0) ∧ dyL.getD j 0 = -(dyL.getD k 0) := by decide
  obtain ⟨j, h1, h2⟩ := h ⟨k, hk⟩
  exact ⟨j, j.2, h1, h2⟩
theorem ways_once (i k : Nat) (hi : i < 8) (hk : k < 8) (h1 : dxL.getD i 0 = dxL.getD k 0) (h2 : dyL.getD i 0 = dyL.getD k 0) : i = k := by
  have h : ∀ i k : Fin 8, dxL.getD i 0 = dxL.getD k 0 → dyL.getD i 0 = dyL.getD k 0 → i = k := by decide
  have := h ⟨i, hi⟩ ⟨k, hk⟩ h1 h2
  simpa using this
theorem ways_not (k : Nat) (hk : k < 8) : ¬ (dxL.getD k 0 = 0 ∧ dyL.getD k 0 = 0) := by
  have h : ∀ k : Fin 8, ¬ (dxL.getD k 0 = 0 ∧ dyL.getD k 0 = 0) := by decide
  exact h ⟨k, hk⟩
theorem nb_getD (W H t : Int) (k : Nat) (hk : k < 8) : (nbL W H t).getD k 0 = nb W H t k := by
  unfold nbL; simp [List.getD, hk]
theorem nb_lt {W H t u : Int} {k : Nat} (hW : 1 ≤ W) (e : nb W H t k = u) (h : 0 ≤ u) : u < W * H := (nbS_inv hW e h).2.2.2
theorem nb_not {W H t u : Int} {k : Nat} (hW : 1 ≤ W) (hk : k < 8) (e : nb W H t k = u) (h : 0 ≤ u) : u ≠ t := by
  rintro rfl
  obtain ⟨_, hm, hd, _⟩ := nbS_inv hW e h
  exact ways_not k hk ⟨by omega, by omega⟩
theorem nb_back {W H t u : Int} {k : Nat} (hW : 1 ≤ W) (t0 : 0 ≤ t) (t1 : t < W * H) (hk : k < 8) (e : nb W H t k = u) (h : 0 ≤ u) : t ∈ nbL W H u := by
  obtain ⟨j, hj, h1, h2⟩ := ways k hk
  refine List.mem_map.2 ⟨j, List.mem_range.2 hj, ?_⟩
  unfold nb at e ⊢
  rw [h1, h2]
  exact nbS_back hW t0 t1 e h
theorem nb_once {W H t u : Int} {k : Nat} (hW : 1 ≤ W) (hk : k < 8) (e : nb W H t k = u) (h : 0 ≤ u) : u ∉ (nbL W H t).take k := by
  intro hm
  obtain ⟨i, hi, he⟩ := List.mem_iff_getElem.1 hm
  have hl : (nbL W H t).length = 8 := by unfold nbL; simp
  have hik : i < k := by rw [List.length_take] at hi; omega
  have he' : nb W H t i = u := by
    rw [← nb_getD W H t i (by omega), ← he, List.getElem_take]
    simp [List.getD, List.getElem?_eq_getElem (show i < (nbL W H t).length by omega)]
  obtain ⟨_, hm1, hd1, _⟩ := nbS_inv hW e h
  obtain ⟨_, hm2, hd2, _⟩ := nbS_inv hW he' h
  have := ways_once i k (by omega) hk (by omega) (by omega)
  omega
end Go.Proofs.YthabjihpjdlmoaaDoor
