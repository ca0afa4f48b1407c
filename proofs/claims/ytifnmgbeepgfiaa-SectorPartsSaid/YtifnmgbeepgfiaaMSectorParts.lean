import Derived.Deep.QuietTactic
import Derived.BigQuiet
import Derived.Deep.RegionWith
import Derived.Deep.RegionHeld3
import Derived.Deep.DeepCutAuto
import Derived.Deep.DeepFit
import Derived.Outline
import Derived.ProofKit
import Derived.OpenShut
import Derived.ChangeSame
import Derived.Test.YtifnmgbeepgfiaaBn
import Derived.Test.YtifnmgbeepgfiaaBh
/- For every argument, SectorParts answers true and leaves its argument as it was: which part each tile of any map is of is the page's, or refused. No condition. -/
namespace Go.Proofs.Ytifnmgbeepgfiaa
open Go.ChangeShapes Go.WideShapes Go.ChangeAt Go.RowKit Go.Deep
set_option linter.unusedVariables false
set_option linter.unusedSimpArgs false
theorem hszA {w X : World} {o : Obj} (h : Below (w.heap.size + 1) (w.alloc o) X) : w.heap.size ≤ X.heap.size := by have := h.size; simp at this; omega
theorem rd_to {w z : World} {B n m : Nat} {a : Option Addr} {f : Nat → Value} (h : Rd w B a n f) (e : z = w.drewN m) : Rd z B a n f := by subst e; exact h
theorem below_to {w0 w z : World} {B m : Nat} (h : Below B w0 w) (e : z = w.drewN m) : Below B w0 z := by subst e; exact below_drewN h m
theorem arr_to {w z : World} {g n m : Nat} {T : TypeId} {f : Nat → Value} (h : Arr w g n T f) (e : z = w.drewN m) : Arr z g n T f := by subst e; exact h.drewN m
theorem form10_yes (W H : Int) (a ta pa : Option Addr) (n c tn tc pn pc : Nat) (w : World) (R : Hk (mayS W H n = true)) :
    Calls Try.prog 7 #[.agg #[.int .i64 W, .int .i64 H, .slice a n c, .slice ta tn tc, .slice pa pn pc]] w fun e w' => e = .returned (.int .i64 0) ∧ Below w.heap.size w w' := form10_as true W H a ta pa n c tn tc pn pc w R
theorem form10_no (W H : Int) (a ta pa : Option Addr) (n c tn tc pn pc : Nat) (w : World) (R : Hk (mayS W H n = false)) :
    Calls Try.prog 7 #[.agg #[.int .i64 W, .int .i64 H, .slice a n c, .slice ta tn tc, .slice pa pn pc]] w fun e w' => e = .returned (.int .i64 1) ∧ Below w.heap.size w w' := form10_as false W H a ta pa n c tn tc pn pc w R
theorem numbers_none (w : World) : Calls Try.prog 14 #[.slice none 0 0] w fun e w' => e = .returned (.tuple #[]) ∧ Below w.heap.size w w' := by
  obtain ⟨ii, hii, hiz0, hiz1, hiz2⟩ := info_parts info_int
  have HO := Hk.mk (World.ownsRow_nil w w.heap.size 3 1)
  go_enter Try.func14, Try.ntmps14
  go_wp2
  go_loopw [2] (fun i wr => i = .int .i64 0 ∧ wr = w) (fun i _ => 0)
  case atStart => exact ⟨rfl, rfl⟩
  case round =>
    obtain ⟨rfl, rfl⟩ := hrel
    have hbase : wr.heap.size ≤ (wr.alloc (.cells #[.int .i64 5] 3)).heap.size := by simp
    go_wp2_with (at_builtin; refine wpList_append_own _ rfl _ _ 23 rfl wr.heap.size 3 ii (.int .i64 0) 1 8 Try.underlying23 hii hiz0 hiz1 hiz2 rfl (by decide) _ _ _ rfl (HO.out.alloc _) ⟨wr.heap.size, 0, none⟩ 1 1 [.int .i64 5] rfl rfl (one_new _ _ _) (one_it _) (by unfold maxLen; omega) (by omega) hbase ?_)
    intro v' w1 hown' hgrow _
    have HG := Hk.mk hgrow
    clear hgrow hown'
    go_wp2
    go_end0
    exact ⟨rfl, ((Below.refl _ _).alloc (Nat.le_refl _) _).grown HG.out (by simp) (fun g hg => by cases hg)⟩
set_option maxRecDepth 100000 in
theorem sectorParts_big (W H : Int) (fa : Option Addr) (fn fc : Nat) (fr : Nat → Bool) (ta : Option Addr) (tn tc : Nat) (ts : List Int) (pa : Option Addr) (pn pc : Nat) (ps : List Int) (w : World) (hfn : fn ≤ 9223372036854775807) (htn : tn ≤ 9223372036854775807) (hpn : pn ≤ 9223372036854775807) (hfr : Rd w w.heap.size fa fn (fun k => .bool (fr k))) (hts : Nq w w.heap.size ta tn ts) (hps : Nq w w.heap.size pa pn ps) (HV : Hk (heavyS fn tn pn = true)) :
    Calls Try.prog 3 #[.agg #[.int .i64 W, .int .i64 H, .slice fa fn fc, .slice ta tn tc, .slice pa pn pc]] w fun e w' => e = .returned (.bool true) ∧ Below w.heap.size w w' := by
  have HWB : Hk (Below w.heap.size w (w.alloc (.cells #[.int .i64 W, .int .i64 H, .slice fa fn fc, .slice ta tn tc, .slice pa pn pc] 25))) := ⟨(Below.refl _ _).alloc (Nat.le_refl _) _⟩
  have hNW : (w.heap.size + 1) ≤ (w.alloc (.cells #[.int .i64 W, .int .i64 H, .slice fa fn fc, .slice ta tn tc, .slice pa pn pc] 25)).heap.size := by simp
  have HB : Hk (Below (w.heap.size + 1) (w.alloc (.cells #[.int .i64 W, .int .i64 H, .slice fa fn fc, .slice ta tn tc, .slice pa pn pc] 25)) (w.alloc (.cells #[.int .i64 W, .int .i64 H, .slice fa fn fc, .slice ta tn tc, .slice pa pn pc] 25))) := ⟨Below.refl _ _⟩
  have HTR : Hk (∀ X, Below (w.heap.size + 1) (w.alloc (.cells #[.int .i64 W, .int .i64 H, .slice fa fn fc, .slice ta tn tc, .slice pa pn pc] 25)) X → Below w.heap.size w X) := ⟨fun X hX => HWB.out.trans (hX.mono (by omega))⟩
  clear hfr hts hps
  obtain ⟨hc, hf, hl, hn', hm⟩ := kw_rules HB.out hNW
  go_enter Try.func3, Try.ntmps3
  go_wp2_with (go_at_call 6; (with_reducible refine (heavy10_as true W H fa ta pa fn fc tn tc pn pc _ hfn htn hpn HV).mono ?_); rintro e z ⟨rfl, hb⟩; replace HB := Hk.mk (kw_step HB.out hNW hb); clear hb; clear hc hf hl hn' hm; obtain ⟨hc, hf, hl, hn', hm⟩ := kw_rules HB.out hNW)
  go_ret
  exact ⟨rfl, HTR.out _ HB.out⟩
set_option maxRecDepth 100000 in
theorem sectorParts_no (W H : Int) (fa : Option Addr) (fn fc : Nat) (fr : Nat → Bool) (ta : Option Addr) (tn tc : Nat) (ts : List Int) (pa : Option Addr) (pn pc : Nat) (ps : List Int) (w : World) (hfn : fn ≤ 9223372036854775807) (htn : tn ≤ 9223372036854775807) (hpn : pn ≤ 9223372036854775807) (hfr : Rd w w.heap.size fa fn (fun k => .bool (fr k))) (hts : Nq w w.heap.size ta tn ts) (hps : Nq w w.heap.size pa pn ps) (HV : Hk (heavyS fn tn pn = false)) (MM : Hk (mayS W H fn = false)) :
    Calls Try.prog 3 #[.agg #[.int .i64 W, .int .i64 H, .slice fa fn fc, .slice ta tn tc, .slice pa pn pc]] w fun e w' => e = .returned (.bool true) ∧ Below w.heap.size w w' := by
  have HWB : Hk (Below w.heap.size w (w.alloc (.cells #[.int .i64 W, .int .i64 H, .slice fa fn fc, .slice ta tn tc, .slice pa pn pc] 25))) := ⟨(Below.refl _ _).alloc (Nat.le_refl _) _⟩
  have hNW : (w.heap.size + 1) ≤ (w.alloc (.cells #[.int .i64 W, .int .i64 H, .slice fa fn fc, .slice ta tn tc, .slice pa pn pc] 25)).heap.size := by simp
  have HB : Hk (Below (w.heap.size + 1) (w.alloc (.cells #[.int .i64 W, .int .i64 H, .slice fa fn fc, .slice ta tn tc, .slice pa pn pc] 25)) (w.alloc (.cells #[.int .i64 W, .int .i64 H, .slice fa fn fc, .slice ta tn tc, .slice pa pn pc] 25))) := ⟨Below.refl _ _⟩
  have HTR : Hk (∀ X, Below (w.heap.size + 1) (w.alloc (.cells #[.int .i64 W, .int .i64 H, .slice fa fn fc, .slice ta tn tc, .slice pa pn pc] 25)) X → Below w.heap.size w X) := ⟨fun X hX => HWB.out.trans (hX.mono (by omega))⟩
  have hfs : fn ≤ 900 := by have := HV.out; unfold heavyS at this; simp at this; omega
  have HFR := Hk.mk (fun (X : World) (hX : Below (w.heap.size + 1) (w.alloc (.cells #[.int .i64 W, .int .i64 H, .slice fa fn fc, .slice ta tn tc, .slice pa pn pc] 25)) X) => hfr.below (HTR.out X hX) (Nat.le_refl _))
  clear hfr hts hps
  obtain ⟨hc, hf, hl, hn', hm⟩ := kw_rules HB.out hNW
  go_enter Try.func3, Try.ntmps3
  go_wp2_with (first
    | (go_at_call 6; (with_reducible refine (heavy10_as false W H fa ta pa fn fc tn tc pn pc _ hfn htn hpn HV).mono ?_); rintro e z ⟨rfl, hb⟩; replace HB := Hk.mk (kw_step HB.out hNW hb); clear hb; clear hc hf hl hn' hm; obtain ⟨hc, hf, hl, hn', hm⟩ := kw_rules HB.out hNW)
    | (go_at_call 7; (with_reducible refine (form10_no W H fa ta pa fn fc tn tc pn pc _ MM).mono ?_); rintro e z ⟨rfl, hb⟩; replace HB := Hk.mk (kw_step HB.out hNW hb); clear hb; clear hc hf hl hn' hm; obtain ⟨hc, hf, hl, hn', hm⟩ := kw_rules HB.out hNW)
    | (go_at_call 9; (with_reducible refine (copybl_any fa fn fc fr _ ?_ (by omega)).mono ?_); (exact fun hn => by obtain ⟨b, o, e1, h1, h2⟩ := HFR.out _ HB.out hn; exact ⟨b, o, e1, by have := hszA HB.out; omega, h2⟩); rintro e z ⟨a2, c2, rfl, hr2, hlo, hb⟩; have HR2 := Hk.mk hr2; clear hr2 hlo; replace HB := Hk.mk (kw_step HB.out hNW hb); clear hb; clear hc hf hl hn' hm; obtain ⟨hc, hf, hl, hn', hm⟩ := kw_rules HB.out hNW)
    | (go_at_call 10; (with_reducible refine (sparts_no W H a2 fn c2 _ MM).mono ?_); rintro e z ⟨rfl, hb⟩; replace HR2 := Hk.mk (HR2.out.below hb (Nat.le_refl _)); replace HB := Hk.mk (kw_step HB.out hNW hb); clear hb; clear hc hf hl hn' hm; obtain ⟨hc, hf, hl, hn', hm⟩ := kw_rules HB.out hNW)
    | (go_at_call 11; (with_reducible refine (num10_any _ _).mono ?_); rintro e z ⟨rfl, rfl⟩)
    | (go_at_call 12; (with_reducible refine (eqn_yes none none 0 0 0 0 0 [] _ (Nq.nil _ _ _) (Nq.nil _ _ _) (by omega)).mono ?_); rintro e z ⟨rfl, mm, hz⟩; replace HR2 := Hk.mk (rd_to HR2.out hz); replace HB := Hk.mk (below_to HB.out hz); clear hz; clear hc hf hl hn' hm; obtain ⟨hc, hf, hl, hn', hm⟩ := kw_rules HB.out hNW)
    | (go_at_call 13; (with_reducible refine (eqbl_yes a2 fa fn c2 fc _ _ fr _ HR2.out (HFR.out _ HB.out) (by omega)).mono ?_); rintro e z ⟨rfl, mm, hz⟩; replace HB := Hk.mk (below_to HB.out hz); clear hz; clear hc hf hl hn' hm; obtain ⟨hc, hf, hl, hn', hm⟩ := kw_rules HB.out hNW)
    | (go_at_call 14; (with_reducible refine (numbers_none _).mono ?_); rintro e z ⟨rfl, hb⟩; replace HB := Hk.mk (kw_step HB.out hNW hb); clear hb; clear hc hf hl hn' hm; obtain ⟨hc, hf, hl, hn', hm⟩ := kw_rules HB.out hNW)
    | (go_at_call 15; (with_reducible refine (wakes10_any _).mono ?_); rintro e z ⟨rfl, hb⟩; replace HB := Hk.mk (kw_step HB.out hNW hb); clear hb; clear hc hf hl hn' hm; obtain ⟨hc, hf, hl, hn', hm⟩ := kw_rules HB.out hNW))
  go_ret
  exact ⟨rfl, HTR.out _ HB.out⟩
set_option maxRecDepth 100000 in
theorem sectorParts_yes (W H : Int) (fb fo fc n : Nat) (fr : Nat → Bool) (ta : Option Addr) (tn tc : Nat) (pa : Option Addr) (pn pc : Nat) (w : World) (hfn : n ≤ 9223372036854775807) (htn : tn ≤ 9223372036854775807) (hpn : pn ≤ 9223372036854775807) (hfl : fb < w.heap.size) (hF : ∀ k, k < n → w.cell? ⟨fb, fo + k, none⟩ = some (.bool (fr k))) (hn0 : 0 < n) (HV : Hk (heavyS n tn pn = false)) (MM : Hk (mayS W H n = true)) :
    Calls Try.prog 3 #[.agg #[.int .i64 W, .int .i64 H, .slice (some ⟨fb, fo, none⟩) n fc, .slice ta tn tc, .slice pa pn pc]] w fun e w' => e = .returned (.bool true) ∧ Below w.heap.size w w' := by
  have HWB : Hk (Below w.heap.size w (w.alloc (.cells #[.int .i64 W, .int .i64 H, .slice (some ⟨fb, fo, none⟩) n fc, .slice ta tn tc, .slice pa pn pc] 25))) := ⟨(Below.refl _ _).alloc (Nat.le_refl _) _⟩
  have hNW : (w.heap.size + 1) ≤ (w.alloc (.cells #[.int .i64 W, .int .i64 H, .slice (some ⟨fb, fo, none⟩) n fc, .slice ta tn tc, .slice pa pn pc] 25)).heap.size := by simp
  have HB : Hk (Below (w.heap.size + 1) (w.alloc (.cells #[.int .i64 W, .int .i64 H, .slice (some ⟨fb, fo, none⟩) n fc, .slice ta tn tc, .slice pa pn pc] 25)) (w.alloc (.cells #[.int .i64 W, .int .i64 H, .slice (some ⟨fb, fo, none⟩) n fc, .slice ta tn tc, .slice pa pn pc] 25))) := ⟨Below.refl _ _⟩
  have HTR : Hk (∀ X, Below (w.heap.size + 1) (w.alloc (.cells #[.int .i64 W, .int .i64 H, .slice (some ⟨fb, fo, none⟩) n fc, .slice ta tn tc, .slice pa pn pc] 25)) X → Below w.heap.size w X) := ⟨fun X hX => HWB.out.trans (hX.mono (by omega))⟩
  have hfs : n ≤ 900 := by have := HV.out; unfold heavyS at this; simp at this; omega
  have HFR := Hk.mk (fun (X : World) (hX : Below (w.heap.size + 1) (w.alloc (.cells #[.int .i64 W, .int .i64 H, .slice (some ⟨fb, fo, none⟩) n fc, .slice ta tn tc, .slice pa pn pc] 25)) X) (k : Nat) (hk : k < n) => ((HTR.out X hX).cell (p := ⟨fb, fo + k, none⟩) hfl).trans (hF k hk))
  obtain ⟨⟨w1, w2, h1, h2⟩, hn⟩ := mayS_yes MM.out
  have HN := Hk.mk hn
  clear hF hn
  obtain ⟨hc, hf, hl, hn', hm⟩ := kw_rules HB.out hNW
  go_enter Try.func3, Try.ntmps3
  go_wp2_with (first
    | (go_at_call 6; (with_reducible refine (heavy10_as false W H _ ta pa n fc tn tc pn pc _ hfn htn hpn HV).mono ?_); rintro e z ⟨rfl, hb⟩; replace HB := Hk.mk (kw_step HB.out hNW hb); clear hb; clear hc hf hl hn' hm; obtain ⟨hc, hf, hl, hn', hm⟩ := kw_rules HB.out hNW)
    | (go_at_call 7; (with_reducible refine (form10_yes W H _ ta pa n fc tn tc pn pc _ MM).mono ?_); rintro e z ⟨rfl, hb⟩; replace HB := Hk.mk (kw_step HB.out hNW hb); clear hb; clear hc hf hl hn' hm; obtain ⟨hc, hf, hl, hn', hm⟩ := kw_rules HB.out hNW)
    | (go_at_call 8; (with_reducible refine (rparts_any W H fb fo n fc fr _ w1 w2 h1 h2 HN.out (HFR.out _ HB.out) (Nat.lt_of_lt_of_le hfl (hszA HB.out))).mono ?_); rintro e z ⟨I, P1, rfl, hg1, hA1, hp1, hb⟩; have HA1 := Hk.mk hA1; have HP1 := Hk.mk hp1; clear hA1 hp1 hg1; replace HB := Hk.mk (kw_step HB.out hNW hb); clear hb; clear hc hf hl hn' hm; obtain ⟨hc, hf, hl, hn', hm⟩ := kw_rules HB.out hNW)
    | (go_at_call 9; (with_reducible refine (copybl_any _ n fc fr _ ?_ (by omega)).mono ?_); (exact fun _ => ⟨fb, fo, rfl, Nat.lt_of_lt_of_le hfl (hszA HB.out), HFR.out _ HB.out⟩); rintro e z ⟨a2, c2, rfl, hr2, hlo, hb⟩; obtain ⟨b2, o2, rfl, hb2, hc2⟩ := hr2 hn0; replace HA1 := Hk.mk (HA1.out.later hb); have HR2 := Hk.mk (And.intro hb2 hc2); clear hr2 hlo hb2 hc2; replace HB := Hk.mk (kw_step HB.out hNW hb); clear hb; clear hc hf hl hn' hm; obtain ⟨hc, hf, hl, hn', hm⟩ := kw_rules HB.out hNW)
    | (go_at_call 10; (with_reducible refine (sparts_any W H b2 o2 n c2 fr _ w1 w2 h1 h2 HN.out HR2.out.2 HR2.out.1).mono ?_); rintro e z ⟨J, P2, rfl, hg2, hA2, hp2, hb⟩; replace HA1 := Hk.mk (HA1.out.later hb); replace HR2 := Hk.mk (And.intro (Nat.lt_of_lt_of_le HR2.out.1 hb.size) (fun k hk => (hb.cell (p := ⟨b2, o2 + k, none⟩) HR2.out.1).trans (HR2.out.2 k hk))); have HA2 : Hk (Arr _ J n 3 (fun k => .int .i64 (P1 k))) := ⟨hA2.congr fun k hk => by rw [HP1.out.eq hp2 hk]⟩; have HJ : Hk (w.heap.size + 1 ≤ J) := ⟨by have := kw_size HB.out hNW; omega⟩; clear hA2 hg2 hp2; replace HB := Hk.mk (kw_step HB.out hNW hb); clear hb; clear hc hf hl hn' hm; obtain ⟨hc, hf, hl, hn', hm⟩ := kw_rules HB.out hNW)
    | (go_at_call 11; (with_reducible refine (num10_any _ _).mono ?_); rintro e z ⟨rfl, rfl⟩)
    | (go_at_call 12; (with_reducible refine (eqn_yes _ _ n _ _ (J + 1) (I + 1) ((List.range n).map P1) _ (HA2.out.nq (Nat.lt_succ_self J)) (HA1.out.nq (Nat.lt_succ_self I)) (by omega)).mono ?_); rintro e z ⟨rfl, mm, hz⟩; replace HA2 := Hk.mk (arr_to HA2.out hz); replace HR2 := Hk.mk (And.intro (show b2 < z.heap.size by rw [hz]; exact HR2.out.1) (fun k hk => (show z.cell? ⟨b2, o2 + k, none⟩ = some (.bool (fr k)) by rw [hz]; exact HR2.out.2 k hk))); replace HB := Hk.mk (below_to HB.out hz); clear hz; clear hc hf hl hn' hm; obtain ⟨hc, hf, hl, hn', hm⟩ := kw_rules HB.out hNW)
    | (go_at_call 13; (with_reducible refine (eqbl_yes _ _ n _ _ (b2 + 1) (fb + 1) fr _ ?_ ?_ (by omega)).mono ?_); (exact fun _ => ⟨b2, o2, rfl, Nat.lt_succ_self _, HR2.out.2⟩); (exact fun _ => ⟨fb, fo, rfl, Nat.lt_succ_self _, HFR.out _ HB.out⟩); rintro e z ⟨rfl, mm, hz⟩; replace HA2 := Hk.mk (arr_to HA2.out hz); replace HR2 := Hk.mk (And.intro (show b2 < z.heap.size by rw [hz]; exact HR2.out.1) (fun k hk => (show z.cell? ⟨b2, o2 + k, none⟩ = some (.bool (fr k)) by rw [hz]; exact HR2.out.2 k hk))); replace HB := Hk.mk (below_to HB.out hz); clear hz; clear hc hf hl hn' hm; obtain ⟨hc, hf, hl, hn', hm⟩ := kw_rules HB.out hNW)
    | (go_at_call 14; (with_reducible refine (numbers_as n J P1 _ HA2.out (by omega)).mono ?_); rintro e z ⟨rfl, hb⟩; replace HB := Hk.mk (HB.out.trans (hb.mono HJ.out)); clear hb; clear hc hf hl hn' hm; obtain ⟨hc, hf, hl, hn', hm⟩ := kw_rules HB.out hNW)
    | (go_at_call 15; (with_reducible refine (wakes10_any _).mono ?_); rintro e z ⟨rfl, hb⟩; replace HB := Hk.mk (kw_step HB.out hNW hb); clear hb; clear hc hf hl hn' hm; obtain ⟨hc, hf, hl, hn', hm⟩ := kw_rules HB.out hNW))
  go_ret
  exact ⟨rfl, HTR.out _ HB.out⟩
theorem sectorParts_walk (v : Value) (w : World) (rows : Asks10b w v) :
    Calls Try.prog 3 #[v] w fun e w' => e = .returned (.bool true) ∧ Below w.heap.size w w' := by
  obtain ⟨W, H, fa, fn, fc, fr, ta, tn, tc, ts, pa, pn, pc, ps, rfl, hfn, htn, hpn, hfr, hts, hps⟩ := rows
  cases hv : heavyS fn tn pn
  · cases hm : mayS W H fn
    · exact sectorParts_no W H fa fn fc fr ta tn tc ts pa pn pc ps w hfn htn hpn hfr hts hps ⟨hv⟩ ⟨hm⟩
    · obtain ⟨⟨w1, w2, h1, h2⟩, hn⟩ := mayS_yes hm
      have hp : 1 * 1 ≤ W * H := Int.mul_le_mul w1 h1 (by omega) (by omega)
      have hn0 : 0 < fn := by omega
      obtain ⟨fb, fo, rfl, hfl, hF⟩ := hfr hn0
      exact sectorParts_yes W H fb fo fc fn fr ta tn tc pa pn pc w hfn htn hpn hfl hF hn0 ⟨hv⟩ ⟨hm⟩
  · exact sectorParts_big W H fa fn fc fr ta tn tc ts pa pn pc ps w hfn htn hpn hfr hts hps ⟨hv⟩

theorem sectorParts_own : ownKnob Try.prog.godebug = none := by kernel_rfl
theorem sectorParts_laidOut : laidOutB Try.prog = true := by kernel_rfl
set_option maxRecDepth 100000 in
theorem sectorParts_lifted (os : Os) (started : os.Started) (H : Type) (enc : TypeId × Value → H) :
    ReturnsInHanded {} Try.checked os 3 .any (Rows.sectorPartsSpec.pre6 enc Try.prog Try.f3 Rows.sectorPartsRow.domain false) (Rows.sectorPartsSpec.post enc Try.prog Try.f3 false true false false) := by
  refine returnsInHanded_of_change (C := Try.checked) sectorParts_own started (by kernel_rfl) Try.func3
    (ChangeSpec.witness6 (enc := enc) (C := Try.checked) false ⟨#[], #[.agg #[.int .i64 0, .int .i64 0, .slice none 0 0, .slice none 0 0, .slice none 0 0]], []⟩ 8 (by kernel_rfl) (by kernel_rfl) (by kernel_rfl) (by kernel_rfl)) ?_
  intro W base args ds gs before hval0 hW hcnd _
  have hval : ∀ (j : Nat) t v, Try.f3.params[j]? = some t → args[j]? = some v → Value.okWide Try.prog W .any base t v := hval0
  have hW' := hW
  obtain ⟨p, q, hA0, hV, rfl, hfz, hnd⟩ := hW
  have hA : DataW.TrodAll enc Try.prog W 0 (fun _ => true) true Try.f3.params.toList args.toList ds p := hA0
  rw [Try.params3] at hA hval
  obtain ⟨v0, vs0, d0, ds0, p0, q0, hargs, rfl, rfl, h0, r0⟩ := trodAll_cons hA
  obtain ⟨rfl, rfl, rfl⟩ := trodAll_nil r0
  obtain rfl : args = #[v0] := by cases args; simp_all
  obtain ⟨rfl, rfl⟩ := trodVars_none hV
  obtain ⟨cs0, rfl, hcs0⟩ := okWide_struct Try.underlying25 (hval 0 25 v0 rfl rfl)
  have k0 := h0
  have lt0 : ∀ x ∈ p0, x.block < W.heap.size := by obtain ⟨m, hm⟩ := k0; exact DataW.trod_lt m _ _ _ hm
  have rows : Asks10b W (.agg cs0) := by obtain ⟨fuel, hf⟩ := h0; exact asks10b_of hcs0 hf
  clear hA0 hval0
  refine (sectorParts_walk (.agg cs0) W rows).mono fun e W' ⟨he, bel⟩ => ?_
  subst he
  exact ⟨_, rfl, _, _, _, [], _, [], hW', trodAll_mk1 (shut_bool Try.underlying4 _), (trodAll_cons_mk (Below.trod sectorParts_laidOut (by kernel_rfl) (of_decide_eq_true (by kernel_rfl)) k0 bel lt0) trodAll_mk0), rfl, bel.frame _, fun h => by cases h⟩
theorem sectorParts_over : Rows.sectorPartsRow.holds Try.pinned (OpenSpec.ofChange Rows.sectorPartsSpec) :=
  OpenClaim.holds_of_wide 3 Try.f3 rfl rfl rfl rfl rfl rfl rfl ⟨rfl, rfl, rfl, rfl, rfl⟩ rfl rfl rfl rfl rfl (by kernel_rfl) Try.func3 (by kernel_rfl)
    (of_decide_eq_true (by kernel_rfl)) (by unfold Func.isWrapper; first | (rw [if_pos (by decide +kernel)]; kernel_rfl) | (rw [if_neg (by decide +kernel)]; exact ⟨rfl, rfl⟩))
    (fun os started H enc _ => sectorParts_lifted os started H enc)
/-- The given statement of SectorParts. -/
theorem sectorParts_holds : Rows.SectorPartsSaid := sectorParts_over
end Go.Proofs.Ytifnmgbeepgfiaa

