import Derived.Deep.QuietTactic
import Derived.BigQuiet
import Derived.Deep.RegionWith
import Derived.Deep.RegionHeld3
import Derived.Deep.DeepCutAuto
import Derived.Deep.DeepFit
import Derived.Outline
import Derived.Test.YthabjihpjdlmoaaDoorFkb
import Derived.Test.YthabjihpjdlmoaaDoorFkaa
import Derived.Test.YthabjihpjdlmoaaDoorFkn
/- Layer 13: back and forth: where tiles are asked for. -/
namespace Go.Proofs.YthabjihpjdlmoaaDoor
open Go.ChangeShapes Go.WideShapes Go.ChangeAt Go.RowKit Go.Deep
set_option linter.unusedVariables false
set_option linter.unusedSimpArgs false
theorem bk_new1 {w : World} {P : Nat} {v : Value} (h : Bk w P #[v]) : ∀ (j : Nat) (u : Value), [v][j]? = some u → w.cell? ((⟨P, 0, none⟩ : Addr).add j) = some u := by
  intro j u hj
  match j, hj with
  | 0, hj =>
    simp at hj
    subst hj
    have := h.c 0
    simpa [Addr.add] using this
theorem fok_more {n m g : Nat} {T C : Nat → Nat → Int} {gd : Nat → Bool} {G : Nat → Nat} {D : Nat → Nat → Int} {E : Nat → Int} (h : ∀ j, j < m → G j < n ∧ TabG n T C (G j) (gd (G j)) (D j)) (hg : g < n) (hT : TabG n T C g (gd g) E) :
    ∀ j, j < m + 1 → setF G m g j < n ∧ TabG n T C (setF G m g j) (gd (setF G m g j)) (setF D m E j) := fun j hj => by
  by_cases e : j = m
  · subst e
    rw [setF_at, setF_at]
    exact ⟨hg, hT⟩
  · rw [setF_far e, setF_far e]
    exact h j (by omega)
theorem step_append_own_at {P : Program} {w : World} {ops : Array Oper} {o : Oper} {a : Act} {K : Act → World → Prop} {Q : Exit → Act → World → Prop} {E : Prop} (hw : Region.wanted o (yielded ops a.tmps) = true) (s x : Operand) (t : TypeId)
    (ho : o.op = .call { callee := .builtin .append, args := #[s, x], argTypes := #[t, t] })
    (base : Nat) (e : TypeId) (i : TypeInfo) (z : Value) (size bytes : Nat) (ht : P.underlying t = some (.slice e)) (hi : P.info? e = some i) (hz : i.zero = some z)
    (hsize : i.size = size) (hby : i.bytes = bytes) (hzs : z.cells.size = size) (hsz : 0 < size)
    (v : Value) (n : Nat) (xs : List Value) (hs : a.eval s = v) (hown : w.ownsRow base e size v n xs)
    (ad : Addr) (m c : Nat) (news : List Value) (hx : a.eval x = .slice (some ad) m c) (hl : news.length = m * size) (hnews : ∀ j u, news[j]? = some u → w.cell? (ad.add j) = some u) (h1 : ∀ u ∈ news, u.oneCell' = true)
    (h63 : n + m ≤ maxLen) (hbytes : (n + m) * bytes ≤ 140737488355328) (hbase : base ≤ w.heap.size)
    (h : ∀ v' w', w'.ownsRow base e size v' (n + m) (xs ++ news) → w.grownBy w' v.ownBlock → (v' = .slice none 0 0 ↔ v = .slice none 0 0 ∧ m = 0) → (v'.ownBlock = v.ownBlock ∨ v'.ownBlock = some w.heap.size) → K (a.put o.dst v') w') :
    if Region.wanted o (yielded ops a.tmps) = true then Oper.wp P o a w K Q else E := by
  rw [if_pos hw]
  obtain ⟨v', w', hr, h2, h3, h4, h5⟩ := run_append_own_at (P := P) w base t o.type e i z size bytes ht hi hz hsize hby hzs hsz v n xs hown ad m c news hl hnews h1 h63 hbytes hbase
  unfold Oper.wp execOp
  simp only [ho, resolve, invoke, builtin, Sem.run_bind, Sem.run_pure, Result.andThen_ok, List.map_toArray, List.map_cons, List.map_nil, hs, hx, hr]
  exact h v' w' h2 h3 h4 h5
set_option maxRecDepth 1000000 in
set_option maxHeartbeats 20000000 in
theorem fieldTurned_in (W H : Int) (a : Option Addr) (n c : Nat) (xs : List Int) (la : Option Addr) (ln lc : Nat) (bs : List Bd) (cl s : Nat) (tb toff : Nat) (tn tc : Nat) (ts : List Int) (w : World) (hL : LF w) (h : By w w.heap.size a n xs) (hb0 : Bq w w.heap.size la ln bs) (hq : Nq w w.heap.size ((some ⟨tb, toff, none⟩)) tn ts) (hn : n ≤ 700) (hln : ln ≤ 30) (htn : tn ≤ 30) (hlc : ln ≤ lc) (HV : Hk (hv13 n ln tn = false)) (hc3 : cl < 3) (hs : s ≤ 3) (MM : Hk (MOk W H n xs bs)) :
    Calls Tryd.prog 7 #[.agg #[.int .i64 W, .int .i64 H, .slice a n c, .slice la ln lc, .int .i64 cl, .int .i64 s, .slice (some ⟨tb, toff, none⟩) tn tc]] w fun e w' => e = .returned (.bool true) ∧ Below w.heap.size w w' := by
  obtain ⟨fi, hfi, hfz0, hfz1, hfz2⟩ := info_parts info_sl
  obtain ⟨ii, hii, hiz0, hiz1, hiz2⟩ := info_parts info_int
  have HWB : Hk (Below w.heap.size w (w.alloc (.cells #[.int .i64 W, .int .i64 H, .slice a n c, .slice la ln lc, .int .i64 cl, .int .i64 s, .slice (some ⟨tb, toff, none⟩) tn tc] 28))) := ⟨(Below.refl _ _).alloc (Nat.le_refl _) _⟩
  have hNW : w.heap.size + 1 ≤ (w.alloc (.cells #[.int .i64 W, .int .i64 H, .slice a n c, .slice la ln lc, .int .i64 cl, .int .i64 s, .slice (some ⟨tb, toff, none⟩) tn tc] 28)).heap.size := by simp
  have HB : Hk (Below (w.heap.size + 1) (w.alloc (.cells #[.int .i64 W, .int .i64 H, .slice a n c, .slice la ln lc, .int .i64 cl, .int .i64 s, .slice (some ⟨tb, toff, none⟩) tn tc] 28)) (w.alloc (.cells #[.int .i64 W, .int .i64 H, .slice a n c, .slice la ln lc, .int .i64 cl, .int .i64 s, .slice (some ⟨tb, toff, none⟩) tn tc] 28))) := ⟨Below.refl _ _⟩
  have HTR : Hk (∀ X, Below (w.heap.size + 1) (w.alloc (.cells #[.int .i64 W, .int .i64 H, .slice a n c, .slice la ln lc, .int .i64 cl, .int .i64 s, .slice (some ⟨tb, toff, none⟩) tn tc] 28)) X → Below w.heap.size w X) := ⟨fun X hX => HWB.out.trans (hX.mono (by omega))⟩
  have HBY := Hk.mk (fun (X : World) (hX : Below (w.heap.size + 1) (w.alloc (.cells #[.int .i64 W, .int .i64 H, .slice a n c, .slice la ln lc, .int .i64 cl, .int .i64 s, .slice (some ⟨tb, toff, none⟩) tn tc] 28)) X) => h.below (HTR.out X hX) (Nat.le_refl _))
  have HBQ := Hk.mk (fun (X : World) (hX : Below (w.heap.size + 1) (w.alloc (.cells #[.int .i64 W, .int .i64 H, .slice a n c, .slice la ln lc, .int .i64 cl, .int .i64 s, .slice (some ⟨tb, toff, none⟩) tn tc] 28)) X) => hb0.below (HTR.out X hX) (Nat.le_refl _))
  have HNQT := Hk.mk (fun (X : World) (hX : Below (w.heap.size + 1) (w.alloc (.cells #[.int .i64 W, .int .i64 H, .slice a n c, .slice la ln lc, .int .i64 cl, .int .i64 s, .slice (some ⟨tb, toff, none⟩) tn tc] 28)) X) => hq.below (HTR.out X hX) (Nat.le_refl _))
  have HLF := Hk.mk (fun (X : World) (hX : Below (w.heap.size + 1) (w.alloc (.cells #[.int .i64 W, .int .i64 H, .slice a n c, .slice la ln lc, .int .i64 cl, .int .i64 s, .slice (some ⟨tb, toff, none⟩) tn tc] 28)) X) => hL.below (HTR.out X hX) (Nat.le_refl _))
  clear h hb0 hL
  obtain ⟨hc, hf, hl, hn', hm⟩ := kw_rules HB.out hNW
  have GG : Hk (GOk W H n xs) := ⟨MM.out.g⟩
  have SS : Hk (Stp n (tT W H (gdF W H xs bs cl s)) (tC W H (kcF cl xs))) := ⟨fd_stp GG.out bs cl s⟩
  have hn1 : n ≤ 140737488355328 := by omega
  have hln1 : ln ≤ 1099511627776 := by omega
  go_enter Tryd.func7, Tryd.ntmps7
  go_wp2_with (first
    | (go_at_call 17; (with_reducible refine (heavy13_as false W H cl s a la (some ⟨tb, toff, none⟩) n c ln lc tn tc _ (by omega) (by omega) (by omega) HV).mono ?_); rintro e z ⟨rfl, hb⟩; replace HB := Hk.mk (kw_step HB.out hNW hb); clear hb; clear hc hf hl hn' hm; obtain ⟨hc, hf, hl, hn', hm⟩ := kw_rules HB.out hNW)
    | (go_at_call 18; (with_reducible refine (form13_yes W H a n c xs la ln lc bs cl s (some ⟨tb, toff, none⟩) tn tc _ ?_ ?_ (by omega) (by omega) hc3 hs MM).mono ?_); (exact (HBY.out _ HB.out).mono (hsz1 HB.out)); (exact (HBQ.out _ HB.out).mono (hsz1 HB.out)); rintro e z ⟨rfl, hb⟩; replace HB := Hk.mk (kw_step HB.out hNW hb); clear hb; clear hc hf hl hn' hm; obtain ⟨hc, hf, hl, hn', hm⟩ := kw_rules HB.out hNW))
  have HB := HB
  clear hc hf hl hn' hm
  have HNT := Hk.mk hq
  go_loopw [3, 4, 5] (fun vf vt i wr => ∃ (k m : Nat) (G J : Nat → Nat) (D : Nat → Nat → Int), i = .int .i64 k ∧ k ≤ 5 ∧ k ≤ tn ∧ m ≤ k ∧ Hk (Fq wr (w.heap.size + 1) n vf vt m m G J D) ∧ Hk (∀ j, j < m → G j < n ∧ TabG n (tT W H (gdF W H xs bs cl s)) (tC W H (kcF cl xs)) (G j) ((gdF W H xs bs cl s) (G j)) (D j)) ∧ Hk (Below (w.heap.size + 1) (w.alloc (.cells #[.int .i64 W, .int .i64 H, .slice a n c, .slice la ln lc, .int .i64 cl, .int .i64 s, .slice (some ⟨tb, toff, none⟩) tn tc] 28)) wr)) (fun _ _ i _ => 5 - (intOf i).toNat)
  case atStart => exact ⟨0, 0, fun _ => 0, fun _ => 0, fun _ _ => 0, rfl, by omega, by omega, by omega, ⟨Fq.nil _ _ _ _ _ _⟩, ⟨fun j hj => absurd hj (by omega)⟩, HB⟩
  case round =>
    clear HB
    obtain ⟨k, m, G, J, D, rfl, hk5, hkt, hmk, HF, HFO, HB⟩ := hrel
    obtain ⟨hc, hf, hl, hn', hm⟩ := kw_rules HB.out hNW
    by_cases hlt : k < tn ∧ k < 5
    · obtain ⟨hlt, hl3⟩ := hlt
      have k0 : (0 : Int) ≤ (k : Int) := by omega
      have k1 : (k : Int) < (tn : Int) := by omega
      have k2 : (k : Int) < 5 := by omega
      have dk : decide ((k : Int) < (tn : Int)) = true := by simpa using hlt
      have dk3 : decide ((k : Int) < 5) = true := by simp; omega
      obtain ⟨tb', toff', hta, htb, hcell⟩ := HNT.out.rd (by omega)
      injection hta with hta
      injection hta with hta1 hta2
      subst hta1 hta2
      have tc0 := hcell k hlt
      have htb1 : tb < w.heap.size + 1 := by omega
      clear hcell
      obtain ⟨q, hqe⟩ : ∃ q, ts.getD k 0 = q := ⟨_, rfl⟩
      rw [hqe] at tc0
      clear hqe
      by_cases htl : 0 ≤ q ∧ q < W * H
      · have HTL : Hk (decide (0 ≤ q ∧ q < W * H) = true) := ⟨decide_eq_true htl⟩
        obtain ⟨goal, rfl⟩ : ∃ goal : Nat, q = goal := ⟨q.toNat, by omega⟩
        have hg : goal < n := by have := GG.out.nn; omega
        clear htl
        go_upto_region 8 with fail
        refine wp_region_held_drew (S := (fun X => (∀ b o, b < w.heap.size + 1 → X.cell? ⟨b, o, none⟩ = ((w.alloc (.cells #[.int .i64 W, .int .i64 H, .slice a n c, .slice la ln lc, .int .i64 cl, .int .i64 s, .slice (some ⟨tb, toff, none⟩) tn tc] 28))).cell? ⟨b, o, none⟩) ∧ Below (w.heap.size + 1) (w.alloc (.cells #[.int .i64 W, .int .i64 H, .slice a n c, .slice la ln lc, .int .i64 cl, .int .i64 s, .slice (some ⟨tb, toff, none⟩) tn tc] 28)) X)) (by kernel_rfl) ?_ (fun hHeld => ?_)
        · exact kw_S (kw_drew HB.out)
        refine wpAnyH_take (i := 0) (v := ?_) rfl (by kernel_rfl) (by kernel_rfl) (by kernel_rfl) (fun _ _ _ h => h) (Or.inl ⟨by rfl, fun wX hSw => ?_⟩) (by assumption) ?_
        rotate_left
        · (try dsimp only at hSw); go_simp; try with_reducible rfl
        (try simp only [Act.put, List.getElem_toArray, List.getElem_cons_succ, List.getElem_cons_zero, List.setIfInBounds_toArray, List.set_cons_zero, List.set_cons_succ])
        refine wpAnyH_take (i := 1) (v := ?_) rfl (by kernel_rfl) (by kernel_rfl) (by kernel_rfl) (fun _ _ _ h => h) (Or.inl ⟨by rfl, fun wX hSw => ?_⟩) (by assumption) ?_
        rotate_left
        · (try dsimp only at hSw); go_simp; try with_reducible rfl
        (try simp only [Act.put, List.getElem_toArray, List.getElem_cons_succ, List.getElem_cons_zero, List.setIfInBounds_toArray, List.set_cons_zero, List.set_cons_succ])
        refine wpAnyH_take (i := 2) (v := ?_) rfl (by kernel_rfl) (by kernel_rfl) (by kernel_rfl) (fun _ _ _ h => h) (Or.inl ⟨by rfl, fun wX hSw => ?_⟩) (by assumption) ?_
        rotate_left
        · (try dsimp only at hSw); go_simp; try with_reducible rfl
        (try simp only [Act.put, List.getElem_toArray, List.getElem_cons_succ, List.getElem_cons_zero, List.setIfInBounds_toArray, List.set_cons_zero, List.set_cons_succ])
        refine wpAnyH_take (i := 3) (v := ?_) rfl (by kernel_rfl) (by kernel_rfl) (by kernel_rfl) (fun _ _ _ h => h) (Or.inl ⟨by rfl, fun wX hSw => ?_⟩) (by assumption) ?_
        rotate_left
        · (try dsimp only at hSw); go_simp; try with_reducible rfl
        (try simp only [Act.put, List.getElem_toArray, List.getElem_cons_succ, List.getElem_cons_zero, List.setIfInBounds_toArray, List.set_cons_zero, List.set_cons_succ])
        refine wpAnyH_take (i := 4) (v := ?_) rfl (by kernel_rfl) (by kernel_rfl) (by kernel_rfl) (fun _ _ _ h => h) (Or.inl ⟨by rfl, fun wX hSw => ?_⟩) (by assumption) ?_
        rotate_left
        · (try dsimp only at hSw); go_simp; try with_reducible rfl
        (try simp only [Act.put, List.getElem_toArray, List.getElem_cons_succ, List.getElem_cons_zero, List.setIfInBounds_toArray, List.set_cons_zero, List.set_cons_succ])
        refine wpAnyH_take (i := 5) (v := ?_) rfl (by kernel_rfl) (by kernel_rfl) (by kernel_rfl) (fun _ _ _ h => h) (Or.inl ⟨by rfl, fun wX hSw => ?_⟩) (by assumption) ?_
        rotate_left
        · (try dsimp only at hSw); go_simp; try with_reducible rfl
        (try simp only [Act.put, List.getElem_toArray, List.getElem_cons_succ, List.getElem_cons_zero, List.setIfInBounds_toArray, List.set_cons_zero, List.set_cons_succ])
        refine wpAnyH_take (i := 6) (v := ?_) rfl (by kernel_rfl) (by kernel_rfl) (by kernel_rfl) (fun _ _ _ h => h) (Or.inl ⟨by rfl, fun wX hSw => ?_⟩) (by assumption) ?_
        rotate_left
        · (try dsimp only at hSw); go_simp; try with_reducible rfl
        (try simp only [Act.put, List.getElem_toArray, List.getElem_cons_succ, List.getElem_cons_zero, List.setIfInBounds_toArray, List.set_cons_zero, List.set_cons_succ])
        refine wpAnyH_ready (rs := [7]) (by kernel_rfl) (by simp) ?_
        refine AllReadyH.cons rfl (fun K hK => ?_) (AllReadyH.nil)
        go_simp
        (first | (go_at_call 25; (with_reducible refine (rtile_as true goal W H _ _ GG.out.w1 GG.out.w2 GG.out.h1 GG.out.h2 HTL).mono ?_); rintro e z ⟨rfl, hb⟩; have HF2 := Hk.mk (HF.out.drew.later hb); have hB2 : Hk (Below (w.heap.size + 1) (w.alloc (.cells #[.int .i64 W, .int .i64 H, .slice a n c, .slice la ln lc, .int .i64 cl, .int .i64 s, .slice (some ⟨tb, toff, none⟩) tn tc] 28)) z) := ⟨by first | exact kw_step HB.out hNW hb | exact kw_step HB.out.drew hNW hb⟩; clear hb; replace HB := hB2; clear hB2; clear hc hf hl hn' hm; obtain ⟨hc, hf, hl, hn', hm⟩ := kw_rules HB.out hNW))
        refine hK.out _ _ ?_ (fun hHeld => ?_)
        · exact kw_S HB.out
        clear hK K
        (try simp only [Act.put, List.getElem_toArray, List.getElem_cons_succ, List.getElem_cons_zero, List.setIfInBounds_toArray, List.set_cons_zero, List.set_cons_succ])
        refine wpAnyH_take (i := 8) (v := ?_) rfl (by kernel_rfl) (by kernel_rfl) (by kernel_rfl) (fun _ _ _ h => h) (Or.inl ⟨by rfl, fun wX hSw => ?_⟩) (by assumption) ?_
        rotate_left
        · (try dsimp only at hSw); go_simp; try with_reducible rfl
        (try simp only [Act.put, List.getElem_toArray, List.getElem_cons_succ, List.getElem_cons_zero, List.setIfInBounds_toArray, List.set_cons_zero, List.set_cons_succ])
        refine wpAnyH_done (by kernel_rfl) ?_ _
        as_aux_lemma =>
          clear HF
          have HF := HF2
          go_upto_region 9 with fail
          refine wp_region_held_drew (S := (fun X => (∀ b o, b < w.heap.size + 1 → X.cell? ⟨b, o, none⟩ = ((w.alloc (.cells #[.int .i64 W, .int .i64 H, .slice a n c, .slice la ln lc, .int .i64 cl, .int .i64 s, .slice (some ⟨tb, toff, none⟩) tn tc] 28))).cell? ⟨b, o, none⟩) ∧ Below (w.heap.size + 1) (w.alloc (.cells #[.int .i64 W, .int .i64 H, .slice a n c, .slice la ln lc, .int .i64 cl, .int .i64 s, .slice (some ⟨tb, toff, none⟩) tn tc] 28)) X)) (by kernel_rfl) ?_ (fun hHeld => ?_)
          · exact kw_S (kw_drew HB.out)
          refine wpAnyH_take (i := 0) (v := ?_) rfl (by kernel_rfl) (by kernel_rfl) (by kernel_rfl) (fun _ _ _ h => h) (Or.inl ⟨by rfl, fun wX hSw => ?_⟩) (by assumption) ?_
          rotate_left
          · (try dsimp only at hSw); go_simp; try with_reducible rfl
          (try simp only [Act.put, List.getElem_toArray, List.getElem_cons_succ, List.getElem_cons_zero, List.setIfInBounds_toArray, List.set_cons_zero, List.set_cons_succ])
          refine wpAnyH_take (i := 1) (v := ?_) rfl (by kernel_rfl) (by kernel_rfl) (by kernel_rfl) (fun _ _ _ h => h) (Or.inl ⟨by rfl, fun wX hSw => ?_⟩) (by assumption) ?_
          rotate_left
          · (try dsimp only at hSw); go_simp; try with_reducible rfl
          (try simp only [Act.put, List.getElem_toArray, List.getElem_cons_succ, List.getElem_cons_zero, List.setIfInBounds_toArray, List.set_cons_zero, List.set_cons_succ])
          refine wpAnyH_take (i := 2) (v := ?_) rfl (by kernel_rfl) (by kernel_rfl) (by kernel_rfl) (fun _ _ _ h => h) (Or.inl ⟨by rfl, fun wX hSw => ?_⟩) (by assumption) ?_
          rotate_left
          · (try dsimp only at hSw); go_simp; try with_reducible rfl
          (try simp only [Act.put, List.getElem_toArray, List.getElem_cons_succ, List.getElem_cons_zero, List.setIfInBounds_toArray, List.set_cons_zero, List.set_cons_succ])
          refine wpAnyH_take (i := 3) (v := ?_) rfl (by kernel_rfl) (by kernel_rfl) (by kernel_rfl) (fun _ _ _ h => h) (Or.inl ⟨by rfl, fun wX hSw => ?_⟩) (by assumption) ?_
          rotate_left
          · (try dsimp only at hSw); go_simp; try with_reducible rfl
          (try simp only [Act.put, List.getElem_toArray, List.getElem_cons_succ, List.getElem_cons_zero, List.setIfInBounds_toArray, List.set_cons_zero, List.set_cons_succ])
          refine wpAnyH_take (i := 4) (v := ?_) rfl (by kernel_rfl) (by kernel_rfl) (by kernel_rfl) (fun _ _ _ h => h) (Or.inl ⟨by rfl, fun wX hSw => ?_⟩) (by assumption) ?_
          rotate_left
          · (try dsimp only at hSw); go_simp; try with_reducible rfl
          (try simp only [Act.put, List.getElem_toArray, List.getElem_cons_succ, List.getElem_cons_zero, List.setIfInBounds_toArray, List.set_cons_zero, List.set_cons_succ])
          refine wpAnyH_take (i := 5) (v := ?_) rfl (by kernel_rfl) (by kernel_rfl) (by kernel_rfl) (fun _ _ _ h => h) (Or.inl ⟨by rfl, fun wX hSw => ?_⟩) (by assumption) ?_
          rotate_left
          · (try dsimp only at hSw); go_simp; try with_reducible rfl
          (try simp only [Act.put, List.getElem_toArray, List.getElem_cons_succ, List.getElem_cons_zero, List.setIfInBounds_toArray, List.set_cons_zero, List.set_cons_succ])
          refine wpAnyH_take (i := 6) (v := ?_) rfl (by kernel_rfl) (by kernel_rfl) (by kernel_rfl) (fun _ _ _ h => h) (Or.inl ⟨by rfl, fun wX hSw => ?_⟩) (by assumption) ?_
          rotate_left
          · (try dsimp only at hSw); go_simp; try with_reducible rfl
          (try simp only [Act.put, List.getElem_toArray, List.getElem_cons_succ, List.getElem_cons_zero, List.setIfInBounds_toArray, List.set_cons_zero, List.set_cons_succ])
          refine wpAnyH_take (i := 7) (v := ?_) rfl (by kernel_rfl) (by kernel_rfl) (by kernel_rfl) (fun _ _ _ h => h) (Or.inl ⟨by rfl, fun wX hSw => ?_⟩) (by assumption) ?_
          rotate_left
          · (try dsimp only at hSw); go_simp; try with_reducible rfl
          (try simp only [Act.put, List.getElem_toArray, List.getElem_cons_succ, List.getElem_cons_zero, List.setIfInBounds_toArray, List.set_cons_zero, List.set_cons_succ])
          refine wpAnyH_take (i := 8) (v := ?_) rfl (by kernel_rfl) (by kernel_rfl) (by kernel_rfl) (fun _ _ _ h => h) (Or.inl ⟨by rfl, fun wX hSw => ?_⟩) (by assumption) ?_
          rotate_left
          · (try dsimp only at hSw); go_simp; try with_reducible rfl
          (try simp only [Act.put, List.getElem_toArray, List.getElem_cons_succ, List.getElem_cons_zero, List.setIfInBounds_toArray, List.set_cons_zero, List.set_cons_succ])
          refine wpAnyH_take (i := 9) (v := ?_) rfl (by kernel_rfl) (by kernel_rfl) (by kernel_rfl) (fun _ _ _ h => h) (Or.inl ⟨by rfl, fun wX hSw => ?_⟩) (by assumption) ?_
          rotate_left
          · (try dsimp only at hSw); go_simp; try with_reducible rfl
          (try simp only [Act.put, List.getElem_toArray, List.getElem_cons_succ, List.getElem_cons_zero, List.setIfInBounds_toArray, List.set_cons_zero, List.set_cons_succ])
          refine wpAnyH_take (i := 10) (v := ?_) rfl (by kernel_rfl) (by kernel_rfl) (by kernel_rfl) (fun _ _ _ h => h) (Or.inl ⟨by rfl, fun wX hSw => ?_⟩) (by assumption) ?_
          rotate_left
          · (try dsimp only at hSw); go_simp; try with_reducible rfl
          (try simp only [Act.put, List.getElem_toArray, List.getElem_cons_succ, List.getElem_cons_zero, List.setIfInBounds_toArray, List.set_cons_zero, List.set_cons_succ])
          refine wpAnyH_take (i := 11) (v := ?_) rfl (by kernel_rfl) (by kernel_rfl) (by kernel_rfl) (fun _ _ _ h => h) (Or.inl ⟨by rfl, fun wX hSw => ?_⟩) (by assumption) ?_
          rotate_left
          · (try dsimp only at hSw); go_simp; try with_reducible rfl
          (try simp only [Act.put, List.getElem_toArray, List.getElem_cons_succ, List.getElem_cons_zero, List.setIfInBounds_toArray, List.set_cons_zero, List.set_cons_succ])
          refine wpAnyH_take (i := 12) (v := ?_) rfl (by kernel_rfl) (by kernel_rfl) (by kernel_rfl) (fun _ _ _ h => h) (Or.inl ⟨by rfl, fun wX hSw => ?_⟩) (by assumption) ?_
          rotate_left
          · (try dsimp only at hSw); go_simp; try with_reducible rfl
          (try simp only [Act.put, List.getElem_toArray, List.getElem_cons_succ, List.getElem_cons_zero, List.setIfInBounds_toArray, List.set_cons_zero, List.set_cons_succ])
          refine wpAnyH_ready (rs := [13]) (by kernel_rfl) (by simp) ?_
          refine AllReadyH.cons rfl (fun K hK => ?_) (AllReadyH.nil)
          go_simp
          (first | (go_at_call 28; (with_reducible refine (make_yes W H a n c xs la ln lc bs cl s goal _ ?_ ?_ ?_ hn1 hln1 hc3 hs MM hg).mono ?_); (first | exact HLF.out _ HB.out | exact HLF.out _ HB.out.drew); (first | exact (HBY.out _ HB.out).mono (hsz1 HB.out) | exact (HBY.out _ HB.out.drew).mono (hsz1 HB.out.drew)); (first | exact (HBQ.out _ HB.out).mono (hsz1 HB.out) | exact (HBQ.out _ HB.out.drew).mono (hsz1 HB.out.drew)); rintro e z ⟨J1, D1, rfl, hJ, hA, hT, hb⟩; have HI := Hk.mk (FqI.of HF.out.drew hb hJ hA); have HT1 := Hk.mk hT; clear hJ hA hT; have hB2 : Hk (Below (w.heap.size + 1) (w.alloc (.cells #[.int .i64 W, .int .i64 H, .slice a n c, .slice la ln lc, .int .i64 cl, .int .i64 s, .slice (some ⟨tb, toff, none⟩) tn tc] 28)) z) := ⟨by first | exact kw_step HB.out hNW hb | exact kw_step HB.out.drew hNW hb⟩; clear hb; replace HB := hB2; clear hB2; clear hc hf hl hn' hm; obtain ⟨hc, hf, hl, hn', hm⟩ := kw_rules HB.out hNW))
          refine hK.out _ _ ?_ (fun hHeld => ?_)
          · exact kw_S HB.out
          clear hK K
          (try simp only [Act.put, List.getElem_toArray, List.getElem_cons_succ, List.getElem_cons_zero, List.setIfInBounds_toArray, List.set_cons_zero, List.set_cons_succ])
          refine wpAnyH_take (i := 14) (v := ?_) rfl (by kernel_rfl) (by kernel_rfl) (by kernel_rfl) (fun _ _ _ h => h) (Or.inl ⟨by rfl, fun wX hSw => ?_⟩) (by assumption) ?_
          rotate_left
          · (try dsimp only at hSw); go_simp; try with_reducible rfl
          (try simp only [Act.put, List.getElem_toArray, List.getElem_cons_succ, List.getElem_cons_zero, List.setIfInBounds_toArray, List.set_cons_zero, List.set_cons_succ])
          refine wpAnyH_take (i := 15) (v := ?_) rfl (by kernel_rfl) (by kernel_rfl) (by kernel_rfl) (fun _ _ _ h => h) (Or.inl ⟨by rfl, fun wX hSw => ?_⟩) (by assumption) ?_
          rotate_left
          · (try dsimp only at hSw); go_simp; try with_reducible rfl
          (try simp only [Act.put, List.getElem_toArray, List.getElem_cons_succ, List.getElem_cons_zero, List.setIfInBounds_toArray, List.set_cons_zero, List.set_cons_succ])
          refine wpAnyH_take (i := 16) (v := ?_) rfl (by kernel_rfl) (by kernel_rfl) (by kernel_rfl) (fun _ _ _ h => h) (Or.inl ⟨by rfl, fun wX hSw => ?_⟩) (by assumption) ?_
          rotate_left
          · (try dsimp only at hSw); go_simp; try with_reducible rfl
          (try simp only [Act.put, List.getElem_toArray, List.getElem_cons_succ, List.getElem_cons_zero, List.setIfInBounds_toArray, List.set_cons_zero, List.set_cons_succ])
          refine wpAnyH_take (i := 17) (v := ?_) rfl (by kernel_rfl) (by kernel_rfl) (by kernel_rfl) (fun _ _ _ h => h) (Or.inl ⟨by rfl, fun wX hSw => ?_⟩) (by assumption) ?_
          rotate_left
          · (try dsimp only at hSw); go_simp; try with_reducible rfl
          (try simp only [Act.put, List.getElem_toArray, List.getElem_cons_succ, List.getElem_cons_zero, List.setIfInBounds_toArray, List.set_cons_zero, List.set_cons_succ])
          refine wpAnyH_take (i := 18) (v := ?_) rfl (by kernel_rfl) (by kernel_rfl) (by kernel_rfl) (fun _ _ _ h => h) (Or.inl ⟨by rfl, fun wX hSw => ?_⟩) (by assumption) ?_
          rotate_left
          · (try dsimp only at hSw); go_simp; try with_reducible rfl
          (try simp only [Act.put, List.getElem_toArray, List.getElem_cons_succ, List.getElem_cons_zero, List.setIfInBounds_toArray, List.set_cons_zero, List.set_cons_succ])
          refine wpAnyH_done (by kernel_rfl) ?_ _
          as_aux_lemma =>
            clear HF
            go_upto_region 12 with (go_at_call 21; (with_reducible refine (num13_any _ _).mono ?_); rintro e z ⟨rfl, rfl⟩)
            clear HF2
            clear hc hf hl hn' hm
            obtain ⟨wz, rfl⟩ : ∃ wz : World, wz = z := ⟨z, rfl⟩
            have x6 : ((w.alloc (.cells #[.int .i64 W, .int .i64 H, .slice a n c, .slice la ln lc, .int .i64 cl, .int .i64 s, .slice (some ⟨tb, toff, none⟩) tn tc] 28))).cell? ⟨w.heap.size, 6, none⟩ = some (.slice (some ⟨tb, toff, none⟩) tn tc) := by go_simp
            have tc1 : ((w.alloc (.cells #[.int .i64 W, .int .i64 H, .slice a n c, .slice la ln lc, .int .i64 cl, .int .i64 s, .slice (some ⟨tb, toff, none⟩) tn tc] 28))).cell? ⟨tb, toff + k, none⟩ = some (.int .i64 (goal : Nat)) := by go_simp
            have hVs : ((w.alloc (.cells #[.int .i64 W, .int .i64 H, .slice a n c, .slice la ln lc, .int .i64 cl, .int .i64 s, .slice (some ⟨tb, toff, none⟩) tn tc] 28))).heap.size = w.heap.size + 1 := by simp
            obtain ⟨V0, hV0⟩ : ∃ V0 : World, (w.alloc (.cells #[.int .i64 W, .int .i64 H, .slice a n c, .slice la ln lc, .int .i64 cl, .int .i64 s, .slice (some ⟨tb, toff, none⟩) tn tc] 28)) = V0 := ⟨_, rfl⟩
            rw [hV0] at x6 tc1 hVs
            replace hVs := hVs.symm
            have bX : w.heap.size < V0.heap.size := by omega
            have bT : tb < V0.heap.size := by omega
            have HBS : Hk (Below V0.heap.size V0 wz) := ⟨by rw [← hVs, ← hV0]; exact HB.out⟩
            have HF := Hk.mk HI.out
            rw [hVs] at HF
            have HVV := Hk.mk (And.intro hV0 hVs)
            clear HB HI tc0 hV0 hVs
            have L0V : V0.heap.size ≤ V0.heap.size := Nat.le_refl _
            apply reg_merge
            intro HG6
            apply reg_merge
            intro HG5
            apply reg_merge
            intro HG4
            apply reg_merge
            intro HG3
            apply reg_merge
            intro HG2
            apply reg_merge
            intro HG1
            refine wp_region_held_drew (S := fun Z => (∀ b o, b < V0.heap.size → Z.cell? ⟨b, o, none⟩ = V0.cell? ⟨b, o, none⟩)) (by kernel_rfl) (kw_s HBS.out.drew) (fun hHeld => ?_)
            have HB := Hk.mk HBS.out.drew
            have hb := (Below.refl wz.heap.size wz).drew
            replace HF := Hk.mk (HF.out.later hb)
            clear hb
            obtain ⟨WZ, hWe⟩ : ∃ WZ, wz.drew = WZ := ⟨_, rfl⟩
            rw [hWe] at HB hHeld HF ⊢
            clear hWe
            refine wpAnyH_take (i := 0) (v := ?_) rfl (by kernel_rfl) (by kernel_rfl) (by kernel_rfl) (fun _ _ _ h => h) (Or.inl ⟨by rfl, fun wX hSw => ?_⟩) (by assumption) ?_
            rotate_left
            · (try dsimp only at hSw); go_simp; try with_reducible rfl
            (try simp only [Act.put, List.getElem_toArray, List.getElem_cons_succ, List.getElem_cons_zero, List.setIfInBounds_toArray, List.set_cons_zero, List.set_cons_succ])
            refine wpAnyH_take (i := 1) (v := ?_) rfl (by kernel_rfl) (by kernel_rfl) (by kernel_rfl) (fun _ _ _ h => h) (Or.inl ⟨by rfl, fun wX hSw => ?_⟩) (by assumption) ?_
            rotate_left
            · (try dsimp only at hSw); go_simp; try with_reducible rfl
            (try simp only [Act.put, List.getElem_toArray, List.getElem_cons_succ, List.getElem_cons_zero, List.setIfInBounds_toArray, List.set_cons_zero, List.set_cons_succ])
            refine wpAnyH_take (i := 4) (v := ?_) rfl (by kernel_rfl) (by kernel_rfl) (by kernel_rfl) (fun _ _ _ h => h) (Or.inl ⟨by rfl, fun wX hSw => ?_⟩) (by assumption) ?_
            rotate_left
            · (try dsimp only at hSw); go_simp; try with_reducible rfl
            (try simp only [Act.put, List.getElem_toArray, List.getElem_cons_succ, List.getElem_cons_zero, List.setIfInBounds_toArray, List.set_cons_zero, List.set_cons_succ])
            refine wpAnyH_take (i := 5) (v := ?_) rfl (by kernel_rfl) (by kernel_rfl) (by kernel_rfl) (fun _ _ _ h => h) (Or.inl ⟨by rfl, fun wX hSw => ?_⟩) (by assumption) ?_
            rotate_left
            · (try dsimp only at hSw); go_simp; try with_reducible rfl
            (try simp only [Act.put, List.getElem_toArray, List.getElem_cons_succ, List.getElem_cons_zero, List.setIfInBounds_toArray, List.set_cons_zero, List.set_cons_succ])
            refine wpAnyH_take (i := 6) (v := ?_) rfl (by kernel_rfl) (by kernel_rfl) (by kernel_rfl) (fun _ _ _ h => h) (Or.inl ⟨by rfl, fun wX hSw => ?_⟩) (by assumption) ?_
            rotate_left
            · (try dsimp only at hSw); go_simp; try with_reducible rfl
            (try simp only [Act.put, List.getElem_toArray, List.getElem_cons_succ, List.getElem_cons_zero, List.setIfInBounds_toArray, List.set_cons_zero, List.set_cons_succ])
            refine wpAnyH_take (i := 7) (v := ?_) rfl (by kernel_rfl) (by kernel_rfl) (by kernel_rfl) (fun _ _ _ h => h) (Or.inl ⟨by rfl, fun wX hSw => ?_⟩) (by assumption) ?_
            rotate_left
            · (try dsimp only at hSw); go_simp; try with_reducible rfl
            (try simp only [Act.put, List.getElem_toArray, List.getElem_cons_succ, List.getElem_cons_zero, List.setIfInBounds_toArray, List.set_cons_zero, List.set_cons_succ])
            refine wpAnyH_take (i := 8) (v := ?_) rfl (by kernel_rfl) (by kernel_rfl) (by kernel_rfl) (fun _ _ _ h => h) (Or.inl ⟨by rfl, fun wX hSw => ?_⟩) (by assumption) ?_
            rotate_left
            · (try dsimp only at hSw); go_simp; try with_reducible rfl
            (try simp only [Act.put, List.getElem_toArray, List.getElem_cons_succ, List.getElem_cons_zero, List.setIfInBounds_toArray, List.set_cons_zero, List.set_cons_succ])
            refine wpAnyH_take (i := 9) (v := ?_) rfl (by kernel_rfl) (by kernel_rfl) (by kernel_rfl) (fun _ _ _ h => h) (Or.inl ⟨by rfl, fun wX hSw => ?_⟩) (by assumption) ?_
            rotate_left
            · (try dsimp only at hSw); go_simp; try with_reducible rfl
            (try simp only [Act.put, List.getElem_toArray, List.getElem_cons_succ, List.getElem_cons_zero, List.setIfInBounds_toArray, List.set_cons_zero, List.set_cons_succ])
            refine wpAnyH_ready (rs := [2, 10]) (by kernel_rfl) (by simp) ?_
            refine AllReadyH.cons rfl (fun K hK => ?_) (AllReadyH.cons rfl (fun K hK => ?_) (AllReadyH.nil))
            · skip
              go_simp
              have hb := kw_al (Below.refl WZ.heap.size WZ) (Nat.le_refl _) (.cells #[.slice (some ⟨J1, 0, none⟩) n n] 26)
              replace HF := Hk.mk (HF.out.later hb)
              clear hb
              have L_P := kw_le HB.out L0V
              have HT_P := Hk.mk (Ty.new WZ #[.slice (some ⟨J1, 0, none⟩) n n] 26)
              have HP_P : Hk (Bk _ _ #[.slice (some ⟨J1, 0, none⟩) n n]) := ⟨Bk.new WZ #[.slice (some ⟨J1, 0, none⟩) n n] 26⟩
              replace HB := Hk.mk (kw_al HB.out L0V (.cells #[.slice (some ⟨J1, 0, none⟩) n n] 26))
              refine hK.out _ _ ?_ (fun hHeld2 => ?_)
              · exact kw_s HB.out
              clear hK K hHeld
              have hHeld := hHeld2
              clear hHeld2
              (try simp only [Act.put, List.getElem_toArray, List.getElem_cons_succ, List.getElem_cons_zero, List.setIfInBounds_toArray, List.set_cons_zero, List.set_cons_succ])
              generalize WZ.heap.size = P at *
              generalize WZ.alloc (.cells #[.slice (some ⟨J1, 0, none⟩) n n] 26) = WZx at *
              refine reg_cast (l' := #[true, true, true, false, true, true, true, true, true, true, false, false, false, false]) (by kernel_rfl) ?_
              revert hHeld
              revert HF
              revert L_P
              revert HT_P
              revert HP_P
              revert HB
              revert P
              revert WZx
              exact HG1.out
            · skip
              go_simp
              have hb := kw_al (Below.refl WZ.heap.size WZ) (Nat.le_refl _) (.cells #[.int .i64 (goal : Nat)] 3)
              replace HF := Hk.mk (HF.out.later hb)
              clear hb
              have L_R := kw_le HB.out L0V
              have HT_R := Hk.mk (Ty.new WZ #[.int .i64 (goal : Nat)] 3)
              have HP_R : Hk (Bk _ _ #[.int .i64 (goal : Nat)]) := ⟨Bk.new WZ #[.int .i64 (goal : Nat)] 3⟩
              replace HB := Hk.mk (kw_al HB.out L0V (.cells #[.int .i64 (goal : Nat)] 3))
              refine hK.out _ _ ?_ (fun hHeld2 => ?_)
              · exact kw_s HB.out
              clear hK K hHeld
              have hHeld := hHeld2
              clear hHeld2
              (try simp only [Act.put, List.getElem_toArray, List.getElem_cons_succ, List.getElem_cons_zero, List.setIfInBounds_toArray, List.set_cons_zero, List.set_cons_succ])
              generalize WZ.heap.size = R at *
              generalize WZ.alloc (.cells #[.int .i64 (goal : Nat)] 3) = WZx at *
              refine reg_cast (l' := #[true, true, false, false, true, true, true, true, true, true, true, false, false, false]) (by kernel_rfl) ?_
              revert hHeld
              revert HF
              revert L_R
              revert HT_R
              revert HP_R
              revert HB
              revert R
              revert WZx
              exact HG2.out
            intro WZ P HB HP_P HT_P L_P HF hHeld
            refine wpAnyH_ready (rs := [3, 10]) (by kernel_rfl) (by simp) ?_
            refine AllReadyH.cons rfl (fun K hK => ?_) (AllReadyH.cons rfl (fun K hK => ?_) (AllReadyH.nil))
            · skip
              (refine step_append_own_at (by rfl) (.tmp 70) (.tmp 72) 50 (by rfl) V0.heap.size 26 fi (.slice none 0 0) 1 24 Tryd.underlying50 hfi hfz0 hfz1 hfz2 (by rfl) (by decide) u3 m (lFq J n m) (by rfl) HF.out.rf ⟨P, 0, none⟩ 1 1 [.slice (some ⟨J1, 0, none⟩) n n] (by rfl) (by rfl) (bk_new1 HP_P.out) (one_sl _ _ _) (by unfold maxLen; omega) (by omega) (kw_le HB.out L0V) ?_; intro v2 z hown hgrow hnil hat; replace HB := Hk.mk (HB.out.grown hgrow (kw_le HB.out L0V) (fun g hg => (HF.out.rf.lt g hg).1)); (try (have hne := row_ty_ne HF.out.rf HT_R.out (by decide); replace HP_R := Hk.mk (HP_R.out.grown hgrow hne); replace HT_R := Hk.mk (HT_R.out.grown hgrow hne); clear hne)); replace HF := Hk.mk (HF.out.step1 hown hgrow hat); clear hown hgrow hnil hat)
              refine hK.out _ _ ?_ (fun hHeld2 => ?_)
              · exact kw_s HB.out
              clear hK K hHeld
              have hHeld := hHeld2
              clear hHeld2
              (try simp only [Act.put, List.getElem_toArray, List.getElem_cons_succ, List.getElem_cons_zero, List.setIfInBounds_toArray, List.set_cons_zero, List.set_cons_succ])
              clear HP_P L_P  HT_P
              refine reg_cast (l' := #[true, true, true, true, true, true, true, true, true, true, false, false, false, false]) (by kernel_rfl) ?_
              revert hHeld
              revert HF
              revert HB
              revert v2
              revert P
              revert z
              exact HG3.out
            · skip
              go_simp
              have N_P_R := HP_P.out.ne
              have N_R_P := HP_P.out.ne'
              have hb := kw_al (Below.refl WZ.heap.size WZ) (Nat.le_refl _) (.cells #[.int .i64 (goal : Nat)] 3)
              replace HF := Hk.mk (HF.out.later hb)
              clear hb
              have L_R := kw_le HB.out L0V
              replace HP_P := Hk.mk (HP_P.out.al (.cells #[.int .i64 (goal : Nat)] 3))
              replace HT_P := Hk.mk (HT_P.out.al (.cells #[.int .i64 (goal : Nat)] 3))
              have HT_R := Hk.mk (Ty.new WZ #[.int .i64 (goal : Nat)] 3)
              have HP_R : Hk (Bk _ _ #[.int .i64 (goal : Nat)]) := ⟨Bk.new WZ #[.int .i64 (goal : Nat)] 3⟩
              replace HB := Hk.mk (kw_al HB.out L0V (.cells #[.int .i64 (goal : Nat)] 3))
              refine hK.out _ _ ?_ (fun hHeld2 => ?_)
              · exact kw_s HB.out
              clear hK K hHeld
              have hHeld := hHeld2
              clear hHeld2
              (try simp only [Act.put, List.getElem_toArray, List.getElem_cons_succ, List.getElem_cons_zero, List.setIfInBounds_toArray, List.set_cons_zero, List.set_cons_succ])
              generalize WZ.heap.size = R at *
              generalize WZ.alloc (.cells #[.int .i64 (goal : Nat)] 3) = WZx at *
              refine reg_cast (l' := #[true, true, true, false, true, true, true, true, true, true, true, false, false, false]) (by kernel_rfl) ?_
              revert hHeld
              revert HF
              revert N_R_P
              revert N_P_R
              revert L_R
              revert L_P
              revert HT_R
              revert HT_P
              revert HP_R
              revert HP_P
              revert HB
              revert R
              revert P
              revert WZx
              exact HG4.out
            intro WZ R HB HP_R HT_R L_R HF hHeld
            refine wpAnyH_ready (rs := [2]) (by kernel_rfl) (by simp) ?_
            refine AllReadyH.cons rfl (fun K hK => ?_) (AllReadyH.nil)
            · skip
              go_simp
              have N_R_P := HP_R.out.ne
              have N_P_R := HP_R.out.ne'
              have hb := kw_al (Below.refl WZ.heap.size WZ) (Nat.le_refl _) (.cells #[.slice (some ⟨J1, 0, none⟩) n n] 26)
              replace HF := Hk.mk (HF.out.later hb)
              clear hb
              have L_P := kw_le HB.out L0V
              replace HP_R := Hk.mk (HP_R.out.al (.cells #[.slice (some ⟨J1, 0, none⟩) n n] 26))
              replace HT_R := Hk.mk (HT_R.out.al (.cells #[.slice (some ⟨J1, 0, none⟩) n n] 26))
              have HT_P := Hk.mk (Ty.new WZ #[.slice (some ⟨J1, 0, none⟩) n n] 26)
              have HP_P : Hk (Bk _ _ #[.slice (some ⟨J1, 0, none⟩) n n]) := ⟨Bk.new WZ #[.slice (some ⟨J1, 0, none⟩) n n] 26⟩
              replace HB := Hk.mk (kw_al HB.out L0V (.cells #[.slice (some ⟨J1, 0, none⟩) n n] 26))
              refine hK.out _ _ ?_ (fun hHeld2 => ?_)
              · exact kw_s HB.out
              clear hK K hHeld
              have hHeld := hHeld2
              clear hHeld2
              (try simp only [Act.put, List.getElem_toArray, List.getElem_cons_succ, List.getElem_cons_zero, List.setIfInBounds_toArray, List.set_cons_zero, List.set_cons_succ])
              generalize WZ.heap.size = P at *
              generalize WZ.alloc (.cells #[.slice (some ⟨J1, 0, none⟩) n n] 26) = WZx at *
              refine reg_cast (l' := #[true, true, true, false, true, true, true, true, true, true, true, false, false, false]) (by kernel_rfl) ?_
              revert hHeld
              revert HF
              revert N_R_P
              revert N_P_R
              revert L_R
              revert L_P
              revert HT_R
              revert HT_P
              revert HP_R
              revert HP_P
              revert HB
              revert R
              revert P
              revert WZx
              exact HG4.out
            intro WZ P v2 HB HF hHeld
            refine wpAnyH_ready (rs := [10]) (by kernel_rfl) (by simp) ?_
            refine AllReadyH.cons rfl (fun K hK => ?_) (AllReadyH.nil)
            · skip
              go_simp
              have hb := kw_al (Below.refl WZ.heap.size WZ) (Nat.le_refl _) (.cells #[.int .i64 (goal : Nat)] 3)
              replace HF := Hk.mk (HF.out.later hb)
              clear hb
              have L_R := kw_le HB.out L0V
              have HT_R := Hk.mk (Ty.new WZ #[.int .i64 (goal : Nat)] 3)
              have HP_R : Hk (Bk _ _ #[.int .i64 (goal : Nat)]) := ⟨Bk.new WZ #[.int .i64 (goal : Nat)] 3⟩
              replace HB := Hk.mk (kw_al HB.out L0V (.cells #[.int .i64 (goal : Nat)] 3))
              refine hK.out _ _ ?_ (fun hHeld2 => ?_)
              · exact kw_s HB.out
              clear hK K hHeld
              have hHeld := hHeld2
              clear hHeld2
              (try simp only [Act.put, List.getElem_toArray, List.getElem_cons_succ, List.getElem_cons_zero, List.setIfInBounds_toArray, List.set_cons_zero, List.set_cons_succ])
              generalize WZ.heap.size = R at *
              generalize WZ.alloc (.cells #[.int .i64 (goal : Nat)] 3) = WZx at *
              refine reg_cast (l' := #[true, true, true, true, true, true, true, true, true, true, true, false, false, false]) (by kernel_rfl) ?_
              revert hHeld
              revert HF
              revert L_R
              revert HT_R
              revert HP_R
              revert HB
              revert v2
              revert R
              revert P
              revert WZx
              exact HG5.out
            intro WZ P R HB HP_P HP_R HT_P HT_R L_P L_R N_P_R N_R_P HF hHeld
            refine wpAnyH_ready (rs := [3]) (by kernel_rfl) (by simp) ?_
            refine AllReadyH.cons rfl (fun K hK => ?_) (AllReadyH.nil)
            · skip
              (refine step_append_own_at (by rfl) (.tmp 70) (.tmp 72) 50 (by rfl) V0.heap.size 26 fi (.slice none 0 0) 1 24 Tryd.underlying50 hfi hfz0 hfz1 hfz2 (by rfl) (by decide) u3 m (lFq J n m) (by rfl) HF.out.rf ⟨P, 0, none⟩ 1 1 [.slice (some ⟨J1, 0, none⟩) n n] (by rfl) (by rfl) (bk_new1 HP_P.out) (one_sl _ _ _) (by unfold maxLen; omega) (by omega) (kw_le HB.out L0V) ?_; intro v2 z hown hgrow hnil hat; replace HB := Hk.mk (HB.out.grown hgrow (kw_le HB.out L0V) (fun g hg => (HF.out.rf.lt g hg).1)); (try (have hne := row_ty_ne HF.out.rf HT_R.out (by decide); replace HP_R := Hk.mk (HP_R.out.grown hgrow hne); replace HT_R := Hk.mk (HT_R.out.grown hgrow hne); clear hne)); replace HF := Hk.mk (HF.out.step1 hown hgrow hat); clear hown hgrow hnil hat)
              refine hK.out _ _ ?_ (fun hHeld2 => ?_)
              · exact kw_s HB.out
              clear hK K hHeld
              have hHeld := hHeld2
              clear hHeld2
              (try simp only [Act.put, List.getElem_toArray, List.getElem_cons_succ, List.getElem_cons_zero, List.setIfInBounds_toArray, List.set_cons_zero, List.set_cons_succ])
              clear HP_P L_P N_P_R N_R_P HT_P
              refine reg_cast (l' := #[true, true, true, true, true, true, true, true, true, true, true, false, false, false]) (by kernel_rfl) ?_
              revert hHeld
              revert HF
              revert L_R
              revert HT_R
              revert HP_R
              revert HB
              revert v2
              revert R
              revert P
              revert z
              exact HG5.out
            intro WZ P R v2 HB HP_R HT_R L_R HF hHeld
            refine wpAnyH_ready (rs := [11]) (by kernel_rfl) (by simp) ?_
            refine AllReadyH.cons rfl (fun K hK => ?_) (AllReadyH.nil)
            · skip
              (refine step_append_own_at (by rfl) (.tmp 74) (.tmp 80) 26 (by rfl) V0.heap.size 3 ii (.int .i64 0) 1 8 Tryd.underlying26 hii hiz0 hiz1 hiz2 (by rfl) (by decide) u4 m (lTq G m) (by rfl) HF.out.rt ⟨R, 0, none⟩ 1 1 [.int .i64 (goal : Nat)] (by rfl) (by rfl) (bk_new1 HP_R.out) (one_it _) (by unfold maxLen; omega) (by omega) (kw_le HB.out L0V) ?_; intro u2 z hown hgrow hnil hat; replace HB := Hk.mk (HB.out.grown hgrow (kw_le HB.out L0V) (fun g hg => (HF.out.rt.lt g hg).1)); (try (have hne := row_ty_ne HF.out.rt HT_P.out (by decide); replace HP_P := Hk.mk (HP_P.out.grown hgrow hne); replace HT_P := Hk.mk (HT_P.out.grown hgrow hne); clear hne)); replace HF := Hk.mk (HF.out.step2 hown hgrow hat); clear hown hgrow hnil hat)
              refine hK.out _ _ ?_ (fun hHeld2 => ?_)
              · exact kw_s HB.out
              clear hK K hHeld
              have hHeld := hHeld2
              clear hHeld2
              (try simp only [Act.put, List.getElem_toArray, List.getElem_cons_succ, List.getElem_cons_zero, List.setIfInBounds_toArray, List.set_cons_zero, List.set_cons_succ])
              clear HP_R L_R  HT_R
              refine wpAnyH_take (i := 12) (v := ?_) rfl (by kernel_rfl) (by kernel_rfl) (by kernel_rfl) (fun _ _ _ h => h) (Or.inl ⟨by rfl, fun wX hSw => ?_⟩) (by assumption) ?_
              rotate_left
              · (try dsimp only at hSw); go_simp; try with_reducible rfl
              (try simp only [Act.put, List.getElem_toArray, List.getElem_cons_succ, List.getElem_cons_zero, List.setIfInBounds_toArray, List.set_cons_zero, List.set_cons_succ])
              refine wpAnyH_take (i := 13) (v := ?_) rfl (by kernel_rfl) (by kernel_rfl) (by kernel_rfl) (fun _ _ _ h => h) (Or.inl ⟨by rfl, fun wX hSw => ?_⟩) (by assumption) ?_
              rotate_left
              · (try dsimp only at hSw); go_simp; try with_reducible rfl
              (try simp only [Act.put, List.getElem_toArray, List.getElem_cons_succ, List.getElem_cons_zero, List.setIfInBounds_toArray, List.set_cons_zero, List.set_cons_succ])
              refine reg_cast (l' := #[true, true, true, true, true, true, true, true, true, true, true, true, true, true]) (by kernel_rfl) ?_
              revert hHeld
              revert HF
              revert HB
              revert u2
              revert v2
              revert R
              revert P
              revert z
              exact HG6.out
            intro WZ P R v2 u2 HB HF hHeld
            refine wpAnyH_done (by kernel_rfl) ?_ _
            obtain ⟨hV0, hVs⟩ := HVV.out
            rw [← hVs] at HB HF
            rw [← hV0] at HB
            clear hHeld HBS x6 tc1 bX bT L0V
            clear hV0 hVs HVV
            obtain ⟨hc, hf, hl, hn', hm⟩ := kw_rules HB.out hNW
            go_wp2_with fail
            exact ⟨⟨k + 1, m + 1, setF G m goal, setF J m J1, setF D m D1, by go_num, by omega, by omega, by omega, HF, ⟨fok_more HFO.out hg HT1.out⟩, HB⟩, by simp [intOf]; omega⟩
      · have HTL : Hk (decide (0 ≤ q ∧ q < W * H) = false) := ⟨decide_eq_false htl⟩
        clear htl
        as_aux_lemma =>
          go_upto_region 8 with fail
          refine wp_region_held_drew (S := (fun X => (∀ b o, b < w.heap.size + 1 → X.cell? ⟨b, o, none⟩ = ((w.alloc (.cells #[.int .i64 W, .int .i64 H, .slice a n c, .slice la ln lc, .int .i64 cl, .int .i64 s, .slice (some ⟨tb, toff, none⟩) tn tc] 28))).cell? ⟨b, o, none⟩) ∧ Below (w.heap.size + 1) (w.alloc (.cells #[.int .i64 W, .int .i64 H, .slice a n c, .slice la ln lc, .int .i64 cl, .int .i64 s, .slice (some ⟨tb, toff, none⟩) tn tc] 28)) X)) (by kernel_rfl) ?_ (fun hHeld => ?_)
          · exact kw_S (kw_drew HB.out)
          refine wpAnyH_take (i := 0) (v := ?_) rfl (by kernel_rfl) (by kernel_rfl) (by kernel_rfl) (fun _ _ _ h => h) (Or.inl ⟨by rfl, fun wX hSw => ?_⟩) (by assumption) ?_
          rotate_left
          · (try dsimp only at hSw); go_simp; try with_reducible rfl
          (try simp only [Act.put, List.getElem_toArray, List.getElem_cons_succ, List.getElem_cons_zero, List.setIfInBounds_toArray, List.set_cons_zero, List.set_cons_succ])
          refine wpAnyH_take (i := 1) (v := ?_) rfl (by kernel_rfl) (by kernel_rfl) (by kernel_rfl) (fun _ _ _ h => h) (Or.inl ⟨by rfl, fun wX hSw => ?_⟩) (by assumption) ?_
          rotate_left
          · (try dsimp only at hSw); go_simp; try with_reducible rfl
          (try simp only [Act.put, List.getElem_toArray, List.getElem_cons_succ, List.getElem_cons_zero, List.setIfInBounds_toArray, List.set_cons_zero, List.set_cons_succ])
          refine wpAnyH_take (i := 2) (v := ?_) rfl (by kernel_rfl) (by kernel_rfl) (by kernel_rfl) (fun _ _ _ h => h) (Or.inl ⟨by rfl, fun wX hSw => ?_⟩) (by assumption) ?_
          rotate_left
          · (try dsimp only at hSw); go_simp; try with_reducible rfl
          (try simp only [Act.put, List.getElem_toArray, List.getElem_cons_succ, List.getElem_cons_zero, List.setIfInBounds_toArray, List.set_cons_zero, List.set_cons_succ])
          refine wpAnyH_take (i := 3) (v := ?_) rfl (by kernel_rfl) (by kernel_rfl) (by kernel_rfl) (fun _ _ _ h => h) (Or.inl ⟨by rfl, fun wX hSw => ?_⟩) (by assumption) ?_
          rotate_left
          · (try dsimp only at hSw); go_simp; try with_reducible rfl
          (try simp only [Act.put, List.getElem_toArray, List.getElem_cons_succ, List.getElem_cons_zero, List.setIfInBounds_toArray, List.set_cons_zero, List.set_cons_succ])
          refine wpAnyH_take (i := 4) (v := ?_) rfl (by kernel_rfl) (by kernel_rfl) (by kernel_rfl) (fun _ _ _ h => h) (Or.inl ⟨by rfl, fun wX hSw => ?_⟩) (by assumption) ?_
          rotate_left
          · (try dsimp only at hSw); go_simp; try with_reducible rfl
          (try simp only [Act.put, List.getElem_toArray, List.getElem_cons_succ, List.getElem_cons_zero, List.setIfInBounds_toArray, List.set_cons_zero, List.set_cons_succ])
          refine wpAnyH_take (i := 5) (v := ?_) rfl (by kernel_rfl) (by kernel_rfl) (by kernel_rfl) (fun _ _ _ h => h) (Or.inl ⟨by rfl, fun wX hSw => ?_⟩) (by assumption) ?_
          rotate_left
          · (try dsimp only at hSw); go_simp; try with_reducible rfl
          (try simp only [Act.put, List.getElem_toArray, List.getElem_cons_succ, List.getElem_cons_zero, List.setIfInBounds_toArray, List.set_cons_zero, List.set_cons_succ])
          refine wpAnyH_take (i := 6) (v := ?_) rfl (by kernel_rfl) (by kernel_rfl) (by kernel_rfl) (fun _ _ _ h => h) (Or.inl ⟨by rfl, fun wX hSw => ?_⟩) (by assumption) ?_
          rotate_left
          · (try dsimp only at hSw); go_simp; try with_reducible rfl
          (try simp only [Act.put, List.getElem_toArray, List.getElem_cons_succ, List.getElem_cons_zero, List.setIfInBounds_toArray, List.set_cons_zero, List.set_cons_succ])
          refine wpAnyH_ready (rs := [7]) (by kernel_rfl) (by simp) ?_
          refine AllReadyH.cons rfl (fun K hK => ?_) (AllReadyH.nil)
          go_simp
          (first | (go_at_call 25; (with_reducible refine (rtile_as false q W H _ _ GG.out.w1 GG.out.w2 GG.out.h1 GG.out.h2 HTL).mono ?_); rintro e z ⟨rfl, hb⟩; have HF2 := Hk.mk (HF.out.drew.later hb); have hB2 : Hk (Below (w.heap.size + 1) (w.alloc (.cells #[.int .i64 W, .int .i64 H, .slice a n c, .slice la ln lc, .int .i64 cl, .int .i64 s, .slice (some ⟨tb, toff, none⟩) tn tc] 28)) z) := ⟨by first | exact kw_step HB.out hNW hb | exact kw_step HB.out.drew hNW hb⟩; clear hb; replace HB := hB2; clear hB2; clear hc hf hl hn' hm; obtain ⟨hc, hf, hl, hn', hm⟩ := kw_rules HB.out hNW))
          refine hK.out _ _ ?_ (fun hHeld => ?_)
          · exact kw_S HB.out
          clear hK K
          (try simp only [Act.put, List.getElem_toArray, List.getElem_cons_succ, List.getElem_cons_zero, List.setIfInBounds_toArray, List.set_cons_zero, List.set_cons_succ])
          refine wpAnyH_take (i := 8) (v := ?_) rfl (by kernel_rfl) (by kernel_rfl) (by kernel_rfl) (fun _ _ _ h => h) (Or.inl ⟨by rfl, fun wX hSw => ?_⟩) (by assumption) ?_
          rotate_left
          · (try dsimp only at hSw); go_simp; try with_reducible rfl
          (try simp only [Act.put, List.getElem_toArray, List.getElem_cons_succ, List.getElem_cons_zero, List.setIfInBounds_toArray, List.set_cons_zero, List.set_cons_succ])
          refine wpAnyH_done (by kernel_rfl) ?_ _
          go_wp2_with fail
          exact ⟨⟨k + 1, m, G, J, D, by go_num, by omega, by omega, by omega, HF2, HFO, HB⟩, by simp [intOf]; omega⟩
    · have HBD : Hk (∀ j, j < m → ∀ t, t < n → -1 ≤ D j t ∧ D j t ≤ 1400000) := ⟨fun j hj => tabG_bd (HFO.out j hj).2 SS.out (HFO.out j hj).1 (by omega)⟩
      obtain ⟨a3, c3, a4, c4, rfl, rfl, hne⟩ := HF.out.form
      have hor : (¬ k < tn) ∨ (k < tn ∧ ¬ k < 5) := by omega
      rcases hor with h1 | ⟨h1, h3⟩
      · have dk : decide ((k : Int) < (tn : Int)) = false := by simp; omega
        go_upto_region 13 with fail
        clear hc hf hl hn' hm
        go_wp2_with fail
        obtain ⟨wo, rfl⟩ : ∃ wo : World, wo = wr := ⟨wr, rfl⟩
        as_aux_lemma =>
          rcases Nat.eq_zero_or_pos m with hm0 | hm0
          · subst hm0
            as_aux_lemma =>
              go_loopw [8] (fun i wr => i = .int .i64 0 ∧ Hk (Below (w.heap.size + 1) (w.alloc (.cells #[.int .i64 W, .int .i64 H, .slice a n c, .slice la ln lc, .int .i64 cl, .int .i64 s, .slice (some ⟨tb, toff, none⟩) tn tc] 28)) wr)) (fun i _ => 0)
              case atStart => exact ⟨rfl, HB⟩
              case round =>
                clear HB
                obtain ⟨rfl, HB⟩ := hrel
                obtain ⟨hc, hf, hl, hn', hm⟩ := kw_rules HB.out hNW
                go_wp2_with (go_at_call 24; (with_reducible refine (wakes13_any _ (HLF.out _ HB.out)).mono ?_); rintro e z ⟨rfl, hb⟩; replace HB := Hk.mk (kw_step HB.out hNW hb); clear hb; clear hc hf hl hn' hm; obtain ⟨hc, hf, hl, hn', hm⟩ := kw_rules HB.out hNW)
                go_ret
                exact ⟨rfl, HTR.out _ HB.out⟩
          · obtain ⟨g3, g4, rfl, rfl⟩ := hne hm0
            clear hne
            go_loopw [8] (fun i wr => ∃ p : Nat, i = .int .i64 p ∧ p ≤ m ∧ Hk (Fq wr (w.heap.size + 1) n (.slice (some ⟨g3, 0, none⟩) m c3) (.slice (some ⟨g4, 0, none⟩) m c4) m m G J D) ∧ Hk (Below (w.heap.size + 1) (w.alloc (.cells #[.int .i64 W, .int .i64 H, .slice a n c, .slice la ln lc, .int .i64 cl, .int .i64 s, .slice (some ⟨tb, toff, none⟩) tn tc] 28)) wr)) (fun i _ => m - (intOf i).toNat)
            case atStart => exact ⟨0, rfl, by omega, HF, HB⟩
            case round =>
              clear HF HB
              obtain ⟨p, rfl, hpm, HF, HB⟩ := hrel
              by_cases hlp : p < m
              · skip
                have c3p := HF.out.c1 hlp
                have c4p := HF.out.c2 hlp
                have l3p : (0 : Int) ≤ (p : Int) := by omega
                have m3p : (p : Int) < (m : Int) := by omega
                have n3p : ((G p : Nat) : Int) < (n : Int) := by have := (HFO.out p hlp).1; omega
                have o3p : (0 : Int) ≤ ((G p : Nat) : Int) := by omega
                have e1 := HF.out.c3 hlp (HFO.out p hlp).1
                have x1 := tabG_self (HFO.out p hlp).2 (HFO.out p hlp).1
                have d1 : decide (0 < D p (G p)) = false := by simp; omega
                generalize D p (G p) = x at *
                as_aux_lemma =>
                  go_upto_region 16 with fail
                  go_quiet (fail)
                  go_wp2_with fail
                  obtain ⟨wo, rfl⟩ : ∃ wo : World, wo = wr := ⟨wr, rfl⟩
                  have HF := Hk.mk (HF.out.drewN nq)
                  have HB := Hk.mk (below_drewN HB.out nq)
                  clear c3p c4p e1 x1 d1
                  go_loopw [9] (fun i wr => ∃ q : Nat, i = .int .i64 q ∧ q ≤ m ∧ Hk (Fq wr (w.heap.size + 1) n (.slice (some ⟨g3, 0, none⟩) m c3) (.slice (some ⟨g4, 0, none⟩) m c4) m m G J D) ∧ Hk (Below (w.heap.size + 1) (w.alloc (.cells #[.int .i64 W, .int .i64 H, .slice a n c, .slice la ln lc, .int .i64 cl, .int .i64 s, .slice (some ⟨tb, toff, none⟩) tn tc] 28)) wr)) (fun i _ => m - (intOf i).toNat)
                  case atStart => exact ⟨0, rfl, by omega, HF, HB⟩
                  case round =>
                    clear HF HB
                    obtain ⟨q, rfl, hqm, HF, HB⟩ := hrel
                    by_cases hlq : q < m
                    · as_aux_lemma =>
                        have c3p := HF.out.c1 hlp
                        have c4p := HF.out.c2 hlp
                        have c3q := HF.out.c1 hlq
                        have c4q := HF.out.c2 hlq
                        have l3q : (0 : Int) ≤ (q : Int) := by omega
                        have m3q : (q : Int) < (m : Int) := by omega
                        have n3q : ((G q : Nat) : Int) < (n : Int) := by have := (HFO.out q hlq).1; omega
                        have o3q : (0 : Int) ≤ ((G q : Nat) : Int) := by omega
                        have e1 := HF.out.c3 hlp (HFO.out q hlq).1
                        have e2 := HF.out.c3 hlq (HFO.out p hlp).1
                        have hsy := tabG_sym GG.out.w1 GG.out.nn SS.out (HFO.out p hlp).2 (HFO.out q hlq).2 (HFO.out p hlp).1 (HFO.out q hlq).1
                        rw [← hsy] at e2
                        generalize D p (G q) = x at *
                        go_upto_region 21 with fail
                        go_quiet (fail)
                        go_wp2_with fail
                        obtain ⟨wo, rfl⟩ : ∃ wo : World, wo = wr := ⟨wr, rfl⟩
                        have HF := Hk.mk (HF.out.drewN nq)
                        have HB := Hk.mk (below_drewN HB.out nq)
                        clear c3p c4p c3q c4q e1 e2 hsy
                        go_loopw [10] (fun i wr => ∃ r : Nat, i = .int .i64 r ∧ r ≤ m ∧ Hk (Fq wr (w.heap.size + 1) n (.slice (some ⟨g3, 0, none⟩) m c3) (.slice (some ⟨g4, 0, none⟩) m c4) m m G J D) ∧ Hk (Below (w.heap.size + 1) (w.alloc (.cells #[.int .i64 W, .int .i64 H, .slice a n c, .slice la ln lc, .int .i64 cl, .int .i64 s, .slice (some ⟨tb, toff, none⟩) tn tc] 28)) wr)) (fun i _ => m - (intOf i).toNat)
                        case atStart => exact ⟨0, rfl, by omega, HF, HB⟩
                        case round =>
                          clear HF HB
                          obtain ⟨r, rfl, hrm, HF, HB⟩ := hrel
                          by_cases hlr : r < m
                          · as_aux_lemma =>
                              have c3p := HF.out.c1 hlp
                              have c4p := HF.out.c2 hlp
                              have c3q := HF.out.c1 hlq
                              have c4q := HF.out.c2 hlq
                              have c3r := HF.out.c1 hlr
                              have c4r := HF.out.c2 hlr
                              have l3r : (0 : Int) ≤ (r : Int) := by omega
                              have m3r : (r : Int) < (m : Int) := by omega
                              have n3r : ((G r : Nat) : Int) < (n : Int) := by have := (HFO.out r hlr).1; omega
                              have o3r : (0 : Int) ≤ ((G r : Nat) : Int) := by omega
                              have e1 := HF.out.c3 hlp (HFO.out q hlq).1
                              have e2 := HF.out.c3 hlp (HFO.out r hlr).1
                              have e3 := HF.out.c3 hlr (HFO.out q hlq).1
                              have htr := fun h0 h1 => tabG_tri (HFO.out p hlp).2 (HFO.out r hlr).2 (HFO.out r hlr).1 (HFO.out q hlq).1 h0 h1
                              have b2 := HBD.out p hlp _ (HFO.out r hlr).1
                              have b3 := HBD.out r hlr _ (HFO.out q hlq).1
                              generalize D p (G q) = x at *
                              generalize D p (G r) = y at *
                              generalize D r (G q) = z at *
                              go_upto_region 26 with fail
                              go_quiet (fail)
                              by_cases hy : 0 ≤ y
                              · have dy : decide (0 ≤ y) = true := by simpa using hy
                                by_cases hz : 0 ≤ z
                                · have dz : decide (0 ≤ z) = true := by simpa using hz
                                  obtain ⟨t1, t2⟩ := htr hy hz
                                  have dx : decide (x < 0) = false := by simp; omega
                                  have dw : decide (y + z < x) = false := by simp; omega
                                  clear htr
                                  go_wp2_with fail
                                  exact ⟨⟨r + 1, by go_num, by omega, ⟨HF.out.drewN _⟩, ⟨below_drewN HB.out _⟩⟩, by simp [intOf]; omega⟩
                                · have dz : decide (0 ≤ z) = false := by simpa using hz
                                  clear htr
                                  go_wp2_with fail
                                  exact ⟨⟨r + 1, by go_num, by omega, ⟨HF.out.drewN _⟩, ⟨below_drewN HB.out _⟩⟩, by simp [intOf]; omega⟩
                              · have dy : decide (0 ≤ y) = false := by simpa using hy
                                clear htr
                                go_wp2_with fail
                                exact ⟨⟨r + 1, by go_num, by omega, ⟨HF.out.drewN _⟩, ⟨below_drewN HB.out _⟩⟩, by simp [intOf]; omega⟩
                          · obtain rfl : r = m := by omega
                            go_wp2_with fail
                            exact ⟨⟨q + 1, by go_num, by omega, HF, HB⟩, by simp [intOf]; omega⟩
                    · obtain rfl : q = m := by omega
                      go_wp2_with fail
                      exact ⟨⟨p + 1, by go_num, by omega, HF, HB⟩, by simp [intOf]; omega⟩
              · obtain rfl : p = m := by omega
                obtain ⟨hc, hf, hl, hn', hm⟩ := kw_rules HB.out hNW
                as_aux_lemma =>
                  go_wp2_with (go_at_call 24; (with_reducible refine (wakes13_any _ (HLF.out _ HB.out)).mono ?_); rintro e z ⟨rfl, hb⟩; replace HB := Hk.mk (kw_step HB.out hNW hb); clear hb; clear hc hf hl hn' hm; obtain ⟨hc, hf, hl, hn', hm⟩ := kw_rules HB.out hNW)
                  go_ret
                  exact ⟨rfl, HTR.out _ HB.out⟩
      · have dk : decide ((k : Int) < (tn : Int)) = true := by simpa using h1
        have dk3 : decide ((k : Int) < 5) = false := by simp; omega
        go_upto_region 13 with fail
        clear hc hf hl hn' hm
        go_wp2_with fail
        obtain ⟨wo, rfl⟩ : ∃ wo : World, wo = wr := ⟨wr, rfl⟩
        as_aux_lemma =>
          rcases Nat.eq_zero_or_pos m with hm0 | hm0
          · subst hm0
            as_aux_lemma =>
              go_loopw [8] (fun i wr => i = .int .i64 0 ∧ Hk (Below (w.heap.size + 1) (w.alloc (.cells #[.int .i64 W, .int .i64 H, .slice a n c, .slice la ln lc, .int .i64 cl, .int .i64 s, .slice (some ⟨tb, toff, none⟩) tn tc] 28)) wr)) (fun i _ => 0)
              case atStart => exact ⟨rfl, HB⟩
              case round =>
                clear HB
                obtain ⟨rfl, HB⟩ := hrel
                obtain ⟨hc, hf, hl, hn', hm⟩ := kw_rules HB.out hNW
                go_wp2_with (go_at_call 24; (with_reducible refine (wakes13_any _ (HLF.out _ HB.out)).mono ?_); rintro e z ⟨rfl, hb⟩; replace HB := Hk.mk (kw_step HB.out hNW hb); clear hb; clear hc hf hl hn' hm; obtain ⟨hc, hf, hl, hn', hm⟩ := kw_rules HB.out hNW)
                go_ret
                exact ⟨rfl, HTR.out _ HB.out⟩
          · obtain ⟨g3, g4, rfl, rfl⟩ := hne hm0
            clear hne
            go_loopw [8] (fun i wr => ∃ p : Nat, i = .int .i64 p ∧ p ≤ m ∧ Hk (Fq wr (w.heap.size + 1) n (.slice (some ⟨g3, 0, none⟩) m c3) (.slice (some ⟨g4, 0, none⟩) m c4) m m G J D) ∧ Hk (Below (w.heap.size + 1) (w.alloc (.cells #[.int .i64 W, .int .i64 H, .slice a n c, .slice la ln lc, .int .i64 cl, .int .i64 s, .slice (some ⟨tb, toff, none⟩) tn tc] 28)) wr)) (fun i _ => m - (intOf i).toNat)
            case atStart => exact ⟨0, rfl, by omega, HF, HB⟩
            case round =>
              clear HF HB
              obtain ⟨p, rfl, hpm, HF, HB⟩ := hrel
              by_cases hlp : p < m
              · skip
                have c3p := HF.out.c1 hlp
                have c4p := HF.out.c2 hlp
                have l3p : (0 : Int) ≤ (p : Int) := by omega
                have m3p : (p : Int) < (m : Int) := by omega
                have n3p : ((G p : Nat) : Int) < (n : Int) := by have := (HFO.out p hlp).1; omega
                have o3p : (0 : Int) ≤ ((G p : Nat) : Int) := by omega
                have e1 := HF.out.c3 hlp (HFO.out p hlp).1
                have x1 := tabG_self (HFO.out p hlp).2 (HFO.out p hlp).1
                have d1 : decide (0 < D p (G p)) = false := by simp; omega
                generalize D p (G p) = x at *
                as_aux_lemma =>
                  go_upto_region 16 with fail
                  go_quiet (fail)
                  go_wp2_with fail
                  obtain ⟨wo, rfl⟩ : ∃ wo : World, wo = wr := ⟨wr, rfl⟩
                  have HF := Hk.mk (HF.out.drewN nq)
                  have HB := Hk.mk (below_drewN HB.out nq)
                  clear c3p c4p e1 x1 d1
                  go_loopw [9] (fun i wr => ∃ q : Nat, i = .int .i64 q ∧ q ≤ m ∧ Hk (Fq wr (w.heap.size + 1) n (.slice (some ⟨g3, 0, none⟩) m c3) (.slice (some ⟨g4, 0, none⟩) m c4) m m G J D) ∧ Hk (Below (w.heap.size + 1) (w.alloc (.cells #[.int .i64 W, .int .i64 H, .slice a n c, .slice la ln lc, .int .i64 cl, .int .i64 s, .slice (some ⟨tb, toff, none⟩) tn tc] 28)) wr)) (fun i _ => m - (intOf i).toNat)
                  case atStart => exact ⟨0, rfl, by omega, HF, HB⟩
                  case round =>
                    clear HF HB
                    obtain ⟨q, rfl, hqm, HF, HB⟩ := hrel
                    by_cases hlq : q < m
                    · as_aux_lemma =>
                        have c3p := HF.out.c1 hlp
                        have c4p := HF.out.c2 hlp
                        have c3q := HF.out.c1 hlq
                        have c4q := HF.out.c2 hlq
                        have l3q : (0 : Int) ≤ (q : Int) := by omega
                        have m3q : (q : Int) < (m : Int) := by omega
                        have n3q : ((G q : Nat) : Int) < (n : Int) := by have := (HFO.out q hlq).1; omega
                        have o3q : (0 : Int) ≤ ((G q : Nat) : Int) := by omega
                        have e1 := HF.out.c3 hlp (HFO.out q hlq).1
                        have e2 := HF.out.c3 hlq (HFO.out p hlp).1
                        have hsy := tabG_sym GG.out.w1 GG.out.nn SS.out (HFO.out p hlp).2 (HFO.out q hlq).2 (HFO.out p hlp).1 (HFO.out q hlq).1
                        rw [← hsy] at e2
                        generalize D p (G q) = x at *
                        go_upto_region 21 with fail
                        go_quiet (fail)
                        go_wp2_with fail
                        obtain ⟨wo, rfl⟩ : ∃ wo : World, wo = wr := ⟨wr, rfl⟩
                        have HF := Hk.mk (HF.out.drewN nq)
                        have HB := Hk.mk (below_drewN HB.out nq)
                        clear c3p c4p c3q c4q e1 e2 hsy
                        go_loopw [10] (fun i wr => ∃ r : Nat, i = .int .i64 r ∧ r ≤ m ∧ Hk (Fq wr (w.heap.size + 1) n (.slice (some ⟨g3, 0, none⟩) m c3) (.slice (some ⟨g4, 0, none⟩) m c4) m m G J D) ∧ Hk (Below (w.heap.size + 1) (w.alloc (.cells #[.int .i64 W, .int .i64 H, .slice a n c, .slice la ln lc, .int .i64 cl, .int .i64 s, .slice (some ⟨tb, toff, none⟩) tn tc] 28)) wr)) (fun i _ => m - (intOf i).toNat)
                        case atStart => exact ⟨0, rfl, by omega, HF, HB⟩
                        case round =>
                          clear HF HB
                          obtain ⟨r, rfl, hrm, HF, HB⟩ := hrel
                          by_cases hlr : r < m
                          · as_aux_lemma =>
                              have c3p := HF.out.c1 hlp
                              have c4p := HF.out.c2 hlp
                              have c3q := HF.out.c1 hlq
                              have c4q := HF.out.c2 hlq
                              have c3r := HF.out.c1 hlr
                              have c4r := HF.out.c2 hlr
                              have l3r : (0 : Int) ≤ (r : Int) := by omega
                              have m3r : (r : Int) < (m : Int) := by omega
                              have n3r : ((G r : Nat) : Int) < (n : Int) := by have := (HFO.out r hlr).1; omega
                              have o3r : (0 : Int) ≤ ((G r : Nat) : Int) := by omega
                              have e1 := HF.out.c3 hlp (HFO.out q hlq).1
                              have e2 := HF.out.c3 hlp (HFO.out r hlr).1
                              have e3 := HF.out.c3 hlr (HFO.out q hlq).1
                              have htr := fun h0 h1 => tabG_tri (HFO.out p hlp).2 (HFO.out r hlr).2 (HFO.out r hlr).1 (HFO.out q hlq).1 h0 h1
                              have b2 := HBD.out p hlp _ (HFO.out r hlr).1
                              have b3 := HBD.out r hlr _ (HFO.out q hlq).1
                              generalize D p (G q) = x at *
                              generalize D p (G r) = y at *
                              generalize D r (G q) = z at *
                              go_upto_region 26 with fail
                              go_quiet (fail)
                              by_cases hy : 0 ≤ y
                              · have dy : decide (0 ≤ y) = true := by simpa using hy
                                by_cases hz : 0 ≤ z
                                · have dz : decide (0 ≤ z) = true := by simpa using hz
                                  obtain ⟨t1, t2⟩ := htr hy hz
                                  have dx : decide (x < 0) = false := by simp; omega
                                  have dw : decide (y + z < x) = false := by simp; omega
                                  clear htr
                                  go_wp2_with fail
                                  exact ⟨⟨r + 1, by go_num, by omega, ⟨HF.out.drewN _⟩, ⟨below_drewN HB.out _⟩⟩, by simp [intOf]; omega⟩
                                · have dz : decide (0 ≤ z) = false := by simpa using hz
                                  clear htr
                                  go_wp2_with fail
                                  exact ⟨⟨r + 1, by go_num, by omega, ⟨HF.out.drewN _⟩, ⟨below_drewN HB.out _⟩⟩, by simp [intOf]; omega⟩
                              · have dy : decide (0 ≤ y) = false := by simpa using hy
                                clear htr
                                go_wp2_with fail
                                exact ⟨⟨r + 1, by go_num, by omega, ⟨HF.out.drewN _⟩, ⟨below_drewN HB.out _⟩⟩, by simp [intOf]; omega⟩
                          · obtain rfl : r = m := by omega
                            go_wp2_with fail
                            exact ⟨⟨q + 1, by go_num, by omega, HF, HB⟩, by simp [intOf]; omega⟩
                    · obtain rfl : q = m := by omega
                      go_wp2_with fail
                      exact ⟨⟨p + 1, by go_num, by omega, HF, HB⟩, by simp [intOf]; omega⟩
              · obtain rfl : p = m := by omega
                obtain ⟨hc, hf, hl, hn', hm⟩ := kw_rules HB.out hNW
                as_aux_lemma =>
                  go_wp2_with (go_at_call 24; (with_reducible refine (wakes13_any _ (HLF.out _ HB.out)).mono ?_); rintro e z ⟨rfl, hb⟩; replace HB := Hk.mk (kw_step HB.out hNW hb); clear hb; clear hc hf hl hn' hm; obtain ⟨hc, hf, hl, hn', hm⟩ := kw_rules HB.out hNW)
                  go_ret
                  exact ⟨rfl, HTR.out _ HB.out⟩
end Go.Proofs.YthabjihpjdlmoaaDoor
