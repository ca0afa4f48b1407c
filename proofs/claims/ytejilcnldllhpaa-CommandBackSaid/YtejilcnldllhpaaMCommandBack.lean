import Derived.ChangeSame
import Derived.Deep.QuietTactic
import Derived.BigQuiet
import Derived.Deep.RegionWith
import Derived.Deep.RegionHeld3
import Derived.Deep.DeepCutAuto
import Derived.Deep.DeepFit
import Derived.Outline
import Derived.Test.YtejilcnldllhpaaUg
import Derived.Test.YtejilcnldllhpaaUh
import Derived.Test.YtejilcnldllhpaaUf
/- For every list, CommandBack answers true and leaves its argument as it was: a command's bytes are read as it, whatever stands behind them; each true beginning is cut off; what is read has just these bytes. No condition. -/
namespace Go.Proofs.Ytejilcnldllhpaa
open Go.ChangeShapes Go.WideShapes Go.ChangeAt Go.RowKit Go.Deep
set_option linter.unusedVariables false
set_option linter.unusedSimpArgs false
theorem own_by22 {w : World} {base n c : Nat} {a : Option Addr} {xs : List Int} (h : OwnB w base (.slice a n c) n xs) : By w w.heap.size a n xs := by
  obtain ⟨a', c', e, _, hb, _⟩ := h.by_
  injection e with e1 e2 e3
  subst e1
  exact hb
theorem own_nq22 {w : World} {base n c : Nat} {a : Option Addr} {xs : List Int} (h : OwnI w base (.slice a n c) n xs) : Nq w w.heap.size a n xs := by
  obtain ⟨a', c', e, _, hb⟩ := h.nq
  injection e with e1 e2 e3
  subst e1
  exact hb
/-- What Bytes tells. -/
def BytR (w w' : World) (p s k : Int) (f : CF) (a : Option Addr) (L c : Nat) (E : Int) : Prop := (E = 0 ∧ okC p s k f = true ∧ (bytesC p s k f).length = L ∧ L ≤ c ∧ OwnB w' w.heap.size (.slice a L c) L (bytesC p s k f)) ∨ (E = 1 ∧ okC p s k f = false)
theorem bytes_all (p s k n : Int) (a : Option Addr) (m c : Nat) (u : List Int) (t wd h x y : Int) (w : World) (hN : Nq w w.heap.size a m u) (hm : m ≤ 1099511627776) :
    Calls Try.prog 17 #[.agg #[.int .i64 p, .int .i64 s, .int .i64 k, .int .i64 n, .slice a m c, .int .i64 t, .int .i64 wd, .int .i64 h, .int .i64 x, .int .i64 y]] w fun e w' => ∃ a0 L c0 E, e = .returned (.tuple #[.slice a0 L c0, .int .i64 E]) ∧ BytR w w' p s k ⟨n, u, t, wd, h, x, y⟩ a0 L c0 E ∧ Below w.heap.size w w' := by
  cases hk : okC p s k ⟨n, u, t, wd, h, x, y⟩
  · refine (bytes22_no p s k n a m c u t wd h x y w hN hm ⟨hk⟩).mono ?_
    rintro e w' ⟨rfl, hb⟩
    exact ⟨none, 0, 0, 1, rfl, Or.inr ⟨rfl, hk⟩, hb⟩
  · refine (bytes22_as p s k n a m c u t wd h x y _ _ w hN hm ⟨hk⟩ ⟨rfl⟩ ⟨rfl⟩).mono ?_
    rintro e w' ⟨v, rfl, ho, hb⟩
    obtain ⟨a0, c0, rfl, hlc, _, _⟩ := ho.by_
    exact ⟨a0, _, c0, 0, rfl, Or.inl ⟨rfl, hk, rfl, hlc, ho⟩, hb⟩
/-- A true beginning is cut off. -/
theorem parse_cut22 (p s k : Int) (f : CF) (bs : List Int) (L j : Nat) (a : Option Addr) (c : Nat) (w : World) (OK : Hk (okC p s k f = true)) (HBS : Hk (bytesC p s k f = bs)) (HBL : Hk (bs.length = L)) (hj : j < L) (hby : By w w.heap.size a L bs) (hlc : L ≤ c) (hcm : c ≤ 9223372036854775807) (hL : L ≤ 1099511627776) (han : a = none → c = 0) :
    Calls Try.prog 25 #[.slice a j c] w fun o w' => o = .returned (.tuple #[.agg #[.int .i64 0, .int .i64 0, .int .i64 0, .int .i64 0, .slice none 0 0, .int .i64 0, .int .i64 0, .int .i64 0, .int .i64 0, .int .i64 0], .int .i64 0, .int .i64 11]) ∧ Below w.heap.size w w' := by
  refine (parse_any a j c (bs.take j) w (hby.head (by omega)) (by omega) hcm (by omega) han).mono ?_
  rintro o w' ⟨hb, ⟨e, he, h1, rfl⟩ | ⟨p', s', k', n', a', m', c', u', t', wd', h', x', y', at', h1, _⟩⟩
  · have h2 := par_cut (j := j) OK.out (by rw [HBS.out, HBL.out]; exact hj)
    rw [HBS.out, h1] at h2
    subst h2
    exact ⟨rfl, hb⟩
  · have h2 := par_cut (j := j) OK.out (by rw [HBS.out, HBL.out]; exact hj)
    rw [HBS.out, h1] at h2
    cases h2
theorem rdV_at {xs : List Int} (hx : ∀ b ∈ xs, Fn.Byt b) (sg : Bool) (lo hi : Int) {at_ : Nat} (e : Int) (h : at_ ≤ xs.length) : (rdV sg xs lo hi at_ e).2.1 ≤ xs.length := by
  obtain ⟨k1, k2⟩ := getS_k (xs := xs.drop at_) (fun b hb => hx b (List.mem_of_mem_drop hb))
  rw [List.length_drop] at k2
  unfold rdV stpC
  (repeat' split) <;> simp <;> omega
theorem rdU_at {xs : List Int} (hx : ∀ b ∈ xs, Fn.Byt b) : ∀ (k : Nat) (last : Int) (at_ : Nat) (e : Int), at_ ≤ xs.length → (rdU xs k last at_ e).2.1 ≤ xs.length
  | 0, _, _, _, h => h
  | k + 1, last, at_, e, h => rdU_at hx k _ _ _ (rdV_at hx false _ _ e h)
theorem rdP_at {xs : List Int} (hx : ∀ b ∈ xs, Fn.Byt b) (q : Int) (f : CF) {at_ : Nat} (e : Int) (h : at_ ≤ xs.length) : (rdP xs q f at_ e).2.1 ≤ xs.length := by
  unfold rdP
  (repeat' split)
  · exact rdV_at hx false _ _ e h
  · exact rdV_at hx false _ _ e h
  · exact rdU_at hx _ _ _ _ (rdV_at hx false _ _ e h)
  · exact rdV_at hx false _ _ e h
  · exact rdV_at hx false _ _ _ (rdV_at hx false _ _ e h)
  · exact rdV_at hx true _ _ _ (rdV_at hx true _ _ e h)
theorem rdL_at {xs : List Int} (hx : ∀ b ∈ xs, Fn.Byt b) : ∀ (l : List Int) (f : CF) (at_ : Nat) (e : Int), at_ ≤ xs.length → (rdL xs l f at_ e).2.1 ≤ xs.length
  | [], _, _, _, h => h
  | q :: l, f, at_, e, h => rdL_at hx l _ _ _ (rdP_at hx q f e h)
theorem parC_at {xs : List Int} (hx : ∀ b ∈ xs, Fn.Byt b) : (parC xs).2.2.2.2.1 ≤ xs.length :=
  rdL_at hx _ _ _ _ (rdV_at hx false _ _ _ (rdV_at hx false _ _ _ (rdV_at hx false _ _ _ (Nat.zero_le _))))
theorem qb22 {P : Program} {F : FuncId} {args : Array Value} {w : World} {r : Ending} (h : Calls P F args w fun e w' => e = r ∧ w = w') : Calls P F args w fun e w' => e = r ∧ Below w.heap.size w w' := h.mono fun _ _ h => ⟨h.1, h.2 ▸ Below.refl _ _⟩
/-- What any bytes are read as, and that what is read has just these bytes. -/
theorem parse_fwd22 (a0 : Option Addr) (n0 c0 : Nat) (xs : List Int) (w : World) (hby : By w w.heap.size a0 n0 xs) (hnc : n0 ≤ c0) (hcm : c0 ≤ 9223372036854775807) (hnm : n0 ≤ 1099511627776) (han : a0 = none → c0 = 0) :
    Calls Try.prog 25 #[.slice a0 n0 c0] w fun o w' => ∃ (p s k n : Int) (a : Option Addr) (m c : Nat) (u : List Int) (t wd h x y : Int) (at' : Nat) (E : Int),
      o = .returned (.tuple #[.agg #[.int .i64 p, .int .i64 s, .int .i64 k, .int .i64 n, .slice a m c, .int .i64 t, .int .i64 wd, .int .i64 h, .int .i64 x, .int .i64 y], .int .i64 (at' : Nat), .int .i64 E]) ∧ Below w.heap.size w w' ∧ (E = 0 → OwnI w' w.heap.size (.slice a m c) m u ∧ okC p s k ⟨n, u, t, wd, h, x, y⟩ = true ∧ bytesC p s k ⟨n, u, t, wd, h, x, y⟩ = xs.take at' ∧ at' ≤ n0) := by
  refine (parse_any a0 n0 c0 xs w hby hnc hcm hnm han).mono ?_
  rintro o w' ⟨hb, ⟨e, he, h1, rfl⟩ | ⟨p, s, k, n, a, m, c, u, t, wd, h, x, y, at', h1, h2, h3, rfl⟩⟩
  · exact ⟨0, 0, 0, 0, none, 0, 0, [], 0, 0, 0, 0, 0, 0, e, rfl, hb, fun h => absurd h he⟩
  · have hp := par_ok hby.byt h1
    have ha := parC_at hby.byt
    rw [h1, hby.len] at ha
    exact ⟨p, s, k, n, a, m, c, u, t, wd, h, x, y, at', 0, rfl, hb, fun _ => ⟨h2, hp.1, hp.2, ha⟩⟩
set_option maxRecDepth 100000 in
set_option maxHeartbeats 6400000 in
theorem commandBack_walk (a0 : Option Addr) (len cap : Nat) (w : World) (rows : Asks22 w a0 len cap) :
    Calls Try.prog 4 #[.slice a0 len cap] w fun e w' => e = .returned (.bool true) ∧ Below w.heap.size w w' := by
  obtain ⟨hl, hm, hall⟩ := rows
  have HALL := Hk.mk hall
  have L0 : w.heap.size ≤ w.heap.size := Nat.le_refl _
  clear hall
  go_enter Try.func4, Try.ntmps4
  go_wp2
  go_loopw [3] (fun i wr => ∃ (j : Nat), i = .int .i64 j ∧ j ≤ len ∧ j ≤ 10 ∧ Hk (Below w.heap.size w wr)) (fun i _ => 10 - (intOf i).toNat)
  case atStart => exact ⟨0, rfl, by omega, by omega, ⟨Below.refl _ _⟩⟩
  case round =>
    obtain ⟨j, rfl, hj, hj2, HB⟩ := hrel
    by_cases hlt : j < len ∧ j < 10
    · obtain ⟨g1, g2⟩ := hlt
      obtain ⟨b, off, p, s, k, n, a, m, c, u, t, wd, h, x, y, ax, nx, cx, ys, rfl, hbl, hmm, hnq, ⟨hnx, hcx, hxn, hbx⟩, k0, k1, k2, k3, k4, k5, k6, k7, k8, k9, k10⟩ := HALL.out j (by omega)
      have HCE : Hk (∀ X, Below w.heap.size w X → X.cell? ⟨b, off + j * 11, none⟩ = some (.int .i64 p) ∧ X.cell? ⟨b, off + j * 11 + 1, none⟩ = some (.int .i64 s) ∧ X.cell? ⟨b, off + j * 11 + 2, none⟩ = some (.int .i64 k) ∧ X.cell? ⟨b, off + j * 11 + 3, none⟩ = some (.int .i64 n) ∧ X.cell? ⟨b, off + j * 11 + 4, none⟩ = some (.slice a m c) ∧ X.cell? ⟨b, off + j * 11 + 5, none⟩ = some (.int .i64 t) ∧ X.cell? ⟨b, off + j * 11 + 6, none⟩ = some (.int .i64 wd) ∧ X.cell? ⟨b, off + j * 11 + 7, none⟩ = some (.int .i64 h) ∧ X.cell? ⟨b, off + j * 11 + 8, none⟩ = some (.int .i64 x) ∧ X.cell? ⟨b, off + j * 11 + 9, none⟩ = some (.int .i64 y) ∧ X.cell? ⟨b, off + j * 11 + 10, none⟩ = some (.slice ax nx cx)) := ⟨fun X hX => ⟨(hX.cell (p := ⟨b, off + j * 11, none⟩) hbl).trans k0, (hX.cell (p := ⟨b, off + j * 11 + 1, none⟩) hbl).trans k1, (hX.cell (p := ⟨b, off + j * 11 + 2, none⟩) hbl).trans k2, (hX.cell (p := ⟨b, off + j * 11 + 3, none⟩) hbl).trans k3, (hX.cell (p := ⟨b, off + j * 11 + 4, none⟩) hbl).trans k4, (hX.cell (p := ⟨b, off + j * 11 + 5, none⟩) hbl).trans k5, (hX.cell (p := ⟨b, off + j * 11 + 6, none⟩) hbl).trans k6, (hX.cell (p := ⟨b, off + j * 11 + 7, none⟩) hbl).trans k7, (hX.cell (p := ⟨b, off + j * 11 + 8, none⟩) hbl).trans k8, (hX.cell (p := ⟨b, off + j * 11 + 9, none⟩) hbl).trans k9, (hX.cell (p := ⟨b, off + j * 11 + 10, none⟩) hbl).trans k10⟩⟩
      have HBX : Hk (∀ X, Below w.heap.size w X → By X w.heap.size ax nx ys) := ⟨fun X hX => hbx.below hX (Nat.le_refl _)⟩
      have HNQ : Hk (∀ X, Below w.heap.size w X → Nq X X.heap.size a m u) := ⟨fun X hX => (hnq.below hX (Nat.le_refl _)).mono hX.size⟩
      have HBYT := Hk.mk hbx.byt
      have HXL := Hk.mk hbx.len
      have HUL := Hk.mk hnq.len
      clear k0 k1 k2 k3 k4 k5 k6 k7 k8 k9 k10 hnq hbx
      obtain ⟨d0, d1, d2, d3, d4, d5, d6, d7, d8, d9, d10⟩ := HCE.out _ HB.out
      have i1 : (0 : Int) ≤ (j : Int) := by omega
      have i2 : (j : Int) < (len : Int) := by omega
      cases hv : decide (300 < m ∨ 3000 < nx)
      case true =>
        have HV := Hk.mk hv
        clear hv
        go_wp2_with (go_at_call 15; (with_reducible refine (heavy22_as true p s k n a m c t wd h x y ax nx cx _ HV).mono ?_); rintro e w2 ⟨rfl, hb⟩)
        go_ret
        exact ⟨rfl, kw_step HB.out L0 hb⟩
      have HV := Hk.mk hv
      have hx3 : nx ≤ 3000 := by simp at hv; omega
      have hm3 : m ≤ 300 := by simp at hv; omega
      clear hv
      go_upto_if 44 with (first
        | (go_at_call 15; (with_reducible refine (heavy22_as false p s k n a m c t wd h x y ax nx cx _ HV).mono ?_); rintro e z ⟨rfl, hb⟩; replace HB := Hk.mk (kw_step HB.out L0 hb); clear hb d0 d1 d2 d3 d4 d5 d6 d7 d8 d9 d10; obtain ⟨d0, d1, d2, d3, d4, d5, d6, d7, d8, d9, d10⟩ := HCE.out _ HB.out)
        | (go_at_call 17; (with_reducible refine (bytes_all p s k n a m c u t wd h x y _ (HNQ.out _ HB.out) (by omega)).mono ?_); rintro e VA ⟨a0, L, c0, E, rfl, hr, hb⟩; have HR := Hk.mk hr; clear hr; replace HB := Hk.mk (kw_step HB.out L0 hb); clear hb d0 d1 d2 d3 d4 d5 d6 d7 d8 d9 d10; obtain ⟨d0, d1, d2, d3, d4, d5, d6, d7, d8, d9, d10⟩ := HCE.out _ HB.out)
        | (go_at_call 19; (with_reducible refine (lawnum22_any _ _).mono ?_); rintro e w' ⟨rfl, rfl⟩))
      go_cut [] (fun wx => Hk (Below w.heap.size w wx))
      case first =>
        rcases HR.out with ⟨rfl, hok, hL, hLc, ho⟩ | ⟨rfl, hno⟩
        case inr =>
          go_wp2_with fail
          go_meet
          case rel => exact HB
        have OK := Hk.mk hok
        obtain ⟨hh1, hh2, hh3⟩ := bytes_head hok
        obtain ⟨bs, hbs⟩ : ∃ bs, bytesC p s k ⟨n, u, t, wd, h, x, y⟩ = bs := ⟨_, rfl⟩
        rw [hbs] at hh2 hh3 hL ho
        have HBS := Hk.mk hbs
        have HBL := Hk.mk hL
        have hL1 : 1 ≤ L := by omega
        have hL2 : L ≤ 2000 := by omega
        have HVA := HB
        have HY : Hk (∀ X, Below VA.heap.size VA X → By X X.heap.size a0 L bs) := ⟨fun X hX => ((own_by22 ho).below hX (Nat.le_refl _)).mono hX.size⟩
        have hc9 : c0 ≤ 9223372036854775807 := ho.cap23
        have HAN := Hk.mk ho.an23
        have bX : b < VA.heap.size := Nat.lt_of_lt_of_le hbl HB.out.size
        clear ho hL hbs hok hh1 hh2 hh3 HR
        go_upto_region 8 with (fail)
        have L0V : VA.heap.size ≤ VA.heap.size := Nat.le_refl _
        apply reg_merge
        intro HG8
        apply reg_merge
        intro HG7
        apply reg_merge
        intro HG6
        apply reg_merge
        intro HG5
        apply reg_merge
        intro HG4
        apply reg_merge
        intro HG3
        apply reg_merge
        intro HG2
        apply reg_merge
        intro HG1
        refine wp_region_held_drew (S := fun Z => (∀ b o, b < VA.heap.size → Z.cell? ⟨b, o, none⟩ = VA.cell? ⟨b, o, none⟩)) (by kernel_rfl) (fun _ _ _ => rfl) (fun hHeld => ?_)
        have HB : Hk (Below VA.heap.size VA VA.drew) := ⟨(Below.refl _ _).drew⟩
        obtain ⟨W8, hWe⟩ : ∃ W8, VA.drew = W8 := ⟨_, rfl⟩
        rw [hWe] at HB hHeld ⊢
        clear hWe
        refine wpAnyH_take (i := 0) (v := ?_) rfl (by kernel_rfl) (by kernel_rfl) (by kernel_rfl) (fun _ _ _ h => h) (Or.inl ⟨by rfl, fun wX hSw => ?_⟩) (by assumption) ?_
        rotate_left
        · (try dsimp only at hSw); go_simp; try with_reducible rfl
        (try simp only [Act.put, List.getElem_toArray, List.getElem_cons_succ, List.getElem_cons_zero, List.setIfInBounds_toArray, List.set_cons_zero, List.set_cons_succ])
        refine wpAnyH_take (i := 2) (v := ?_) rfl (by kernel_rfl) (by kernel_rfl) (by kernel_rfl) (fun _ _ _ h => h) (Or.inl ⟨by rfl, fun wX hSw => ?_⟩) (by assumption) ?_
        rotate_left
        · (try dsimp only at hSw); go_simp; try with_reducible rfl
        (try simp only [Act.put, List.getElem_toArray, List.getElem_cons_succ, List.getElem_cons_zero, List.setIfInBounds_toArray, List.set_cons_zero, List.set_cons_succ])
        refine wpAnyH_take (i := 3) (v := ?_) rfl (by kernel_rfl) (by kernel_rfl) (by kernel_rfl) (fun _ _ _ h => h) (Or.inl ⟨by rfl, fun wX hSw => ?_⟩) (by assumption) ?_
        rotate_left
        · (try dsimp only at hSw); go_simp; try with_reducible rfl
        (try simp only [Act.put, List.getElem_toArray, List.getElem_cons_succ, List.getElem_cons_zero, List.setIfInBounds_toArray, List.set_cons_zero, List.set_cons_succ])
        refine wpAnyH_take (i := 4) (v := ?_) rfl (by kernel_rfl) (by kernel_rfl) (by kernel_rfl) (fun _ _ _ h => h) (Or.inl ⟨by rfl, fun wX hSw => ?_⟩) (by assumption) ?_
        rotate_left
        · (try dsimp only at hSw); go_simp; try with_reducible rfl
        (try simp only [Act.put, List.getElem_toArray, List.getElem_cons_succ, List.getElem_cons_zero, List.setIfInBounds_toArray, List.set_cons_zero, List.set_cons_succ])
        refine wpAnyH_take (i := 5) (v := ?_) rfl (by kernel_rfl) (by kernel_rfl) (by kernel_rfl) (fun _ _ _ h => h) (Or.inl ⟨by rfl, fun wX hSw => ?_⟩) (by assumption) ?_
        rotate_left
        · (try dsimp only at hSw); go_simp; try with_reducible rfl
        (try simp only [Act.put, List.getElem_toArray, List.getElem_cons_succ, List.getElem_cons_zero, List.setIfInBounds_toArray, List.set_cons_zero, List.set_cons_succ])
        refine wpAnyH_take (i := 6) (v := ?_) rfl (by kernel_rfl) (by kernel_rfl) (by kernel_rfl) (fun _ _ _ h => h) (Or.inl ⟨by rfl, fun wX hSw => ?_⟩) (by assumption) ?_
        rotate_left
        · (try dsimp only at hSw); go_simp; try with_reducible rfl
        (try simp only [Act.put, List.getElem_toArray, List.getElem_cons_succ, List.getElem_cons_zero, List.setIfInBounds_toArray, List.set_cons_zero, List.set_cons_succ])
        refine wpAnyH_ready (rs := [1, 13]) (by kernel_rfl) (by simp) ?_
        refine AllReadyH.cons rfl (fun K hK => ?_) (AllReadyH.cons rfl (fun K hK => ?_) (AllReadyH.nil))
        · skip
          go_simp
          (first
        | (go_at_call 26; (with_reducible refine (copy_any a0 L c0 bs _ (HY.out _ HB.out) (by omega)).mono ?_); rintro e z ⟨v4, rfl, ho4, hb⟩; obtain ⟨a4, c4, rfl, hlc4, hby4, hat4⟩ := ho4.by_; have HO4 := Hk.mk (ho4.weak (kw_le HB.out L0V)); clear ho4 hby4 hat4 hlc4)
        | (go_at_call 25; (with_reducible refine (parse_back_as p s k n m u t wd h x y a5 (L + nx) c5 bs ys L _ OK HBS HBL HUL (own_by22 HO5.out.1) HO5.out.2.1 HO5.out.2.2 (by omega) HO5.out.1.an23).mono ?_); rintro o z ⟨hb, a6, c6, rfl, ho6⟩; have HO6 := Hk.mk (ho6.weak (kw_le HB.out L0V)); clear ho6))
          replace HB := Hk.mk (kw_step HB.out L0V hb)
          clear hb
          refine hK.out _ _ ?_ (fun hHeld2 => ?_)
          · exact kw_s HB.out
          clear hK K hHeld
          have hHeld := hHeld2
          clear hHeld2
          (try simp only [Act.put, List.getElem_toArray, List.getElem_cons_succ, List.getElem_cons_zero, List.setIfInBounds_toArray, List.set_cons_zero, List.set_cons_succ])
          refine reg_cast (l' := #[true, true, true, true, true, true, true, false, false, false, false, false, false, false, false, false, false]) (by kernel_rfl) ?_
          revert hHeld
          revert HO4
          revert HB
          revert c4
          revert a4
          revert z
          exact HG1.out
        · skip
          go_simp
          have L_Q := kw_le HB.out L0V
          have HT_Q := Hk.mk (Ty.new W8 #[.int .i64 0, .int .i64 0, .int .i64 0, .int .i64 0, .slice none 0 0, .int .i64 0, .int .i64 0, .int .i64 0, .int .i64 0, .int .i64 0] 28)
          have HP_Q : Hk (Bk _ _ #[.int .i64 0, .int .i64 0, .int .i64 0, .int .i64 0, .slice none 0 0, .int .i64 0, .int .i64 0, .int .i64 0, .int .i64 0, .int .i64 0]) := ⟨Bk.new W8 #[.int .i64 0, .int .i64 0, .int .i64 0, .int .i64 0, .slice none 0 0, .int .i64 0, .int .i64 0, .int .i64 0, .int .i64 0, .int .i64 0] 28⟩
          replace HB := Hk.mk (kw_al HB.out L0V (.cells #[.int .i64 0, .int .i64 0, .int .i64 0, .int .i64 0, .slice none 0 0, .int .i64 0, .int .i64 0, .int .i64 0, .int .i64 0, .int .i64 0] 28))
          refine hK.out _ _ ?_ (fun hHeld2 => ?_)
          · exact kw_s HB.out
          clear hK K hHeld
          have hHeld := hHeld2
          clear hHeld2
          (try simp only [Act.put, List.getElem_toArray, List.getElem_cons_succ, List.getElem_cons_zero, List.setIfInBounds_toArray, List.set_cons_zero, List.set_cons_succ])
          generalize W8.heap.size = Q at *
          generalize W8.alloc (.cells #[.int .i64 0, .int .i64 0, .int .i64 0, .int .i64 0, .slice none 0 0, .int .i64 0, .int .i64 0, .int .i64 0, .int .i64 0, .int .i64 0] 28) = W8x at *
          refine reg_cast (l' := #[true, false, true, true, true, true, true, false, false, false, false, false, false, true, false, false, false]) (by kernel_rfl) ?_
          revert hHeld
          revert L_Q
          revert HT_Q
          revert HP_Q
          revert HB
          revert Q
          revert W8x
          exact HG2.out
        intro W8 a4 c4 HB HO4 hHeld
        refine wpAnyH_ready (rs := [7, 13]) (by kernel_rfl) (by simp) ?_
        refine AllReadyH.cons rfl (fun K hK => ?_) (AllReadyH.cons rfl (fun K hK => ?_) (AllReadyH.nil))
        · skip
          (refine step_append_by _ (by rfl) (.tmp 47) (.tmp 52) (by rfl) VA.heap.size (.slice a4 L c4) L bs (by rfl) HO4.out w.heap.size ax nx cx ys (by rfl) (HBX.out _ (HVA.out.trans (HB.out.mono HVA.out.size))) hxn (by omega) (kw_le HB.out L0V) ?_; intro v5 z ho5 hg5; obtain ⟨a5, c5, rfl, hlc5, -, -⟩ := ho5.by_; have hcm5 := ho5.cap23; have HO5 := Hk.mk (And.intro ho5 (And.intro hlc5 hcm5)); (try (have hne := row_ty_ne HO4.out.2.2 HT_Q.out (by decide); replace HP_Q := Hk.mk (HP_Q.out.grown hg5 hne); replace HT_Q := Hk.mk (HT_Q.out.grown hg5 hne); clear hne)); replace HB := Hk.mk (HB.out.grown hg5 (kw_le HB.out L0V) (fun g hg => (HO4.out.lt g hg).1)); clear ho5 hg5 hlc5 hcm5)
          refine hK.out _ _ ?_ (fun hHeld2 => ?_)
          · exact kw_s HB.out
          clear hK K hHeld
          have hHeld := hHeld2
          clear hHeld2
          (try simp only [Act.put, List.getElem_toArray, List.getElem_cons_succ, List.getElem_cons_zero, List.setIfInBounds_toArray, List.set_cons_zero, List.set_cons_succ])
          clear HO4
          refine reg_cast (l' := #[true, true, true, true, true, true, true, true, false, false, false, false, false, false, false, false, false]) (by kernel_rfl) ?_
          revert hHeld
          revert HO5
          revert HB
          revert c5
          revert a5
          revert c4
          revert a4
          revert z
          exact HG3.out
        · skip
          go_simp
          have hb := kw_al (Below.refl W8.heap.size W8) (Nat.le_refl _) (.cells #[.int .i64 0, .int .i64 0, .int .i64 0, .int .i64 0, .slice none 0 0, .int .i64 0, .int .i64 0, .int .i64 0, .int .i64 0, .int .i64 0] 28)
          replace HO4 := Hk.mk (HO4.out.below hb)
          clear hb
          have L_Q := kw_le HB.out L0V
          have HT_Q := Hk.mk (Ty.new W8 #[.int .i64 0, .int .i64 0, .int .i64 0, .int .i64 0, .slice none 0 0, .int .i64 0, .int .i64 0, .int .i64 0, .int .i64 0, .int .i64 0] 28)
          have HP_Q : Hk (Bk _ _ #[.int .i64 0, .int .i64 0, .int .i64 0, .int .i64 0, .slice none 0 0, .int .i64 0, .int .i64 0, .int .i64 0, .int .i64 0, .int .i64 0]) := ⟨Bk.new W8 #[.int .i64 0, .int .i64 0, .int .i64 0, .int .i64 0, .slice none 0 0, .int .i64 0, .int .i64 0, .int .i64 0, .int .i64 0, .int .i64 0] 28⟩
          replace HB := Hk.mk (kw_al HB.out L0V (.cells #[.int .i64 0, .int .i64 0, .int .i64 0, .int .i64 0, .slice none 0 0, .int .i64 0, .int .i64 0, .int .i64 0, .int .i64 0, .int .i64 0] 28))
          refine hK.out _ _ ?_ (fun hHeld2 => ?_)
          · exact kw_s HB.out
          clear hK K hHeld
          have hHeld := hHeld2
          clear hHeld2
          (try simp only [Act.put, List.getElem_toArray, List.getElem_cons_succ, List.getElem_cons_zero, List.setIfInBounds_toArray, List.set_cons_zero, List.set_cons_succ])
          generalize W8.heap.size = Q at *
          generalize W8.alloc (.cells #[.int .i64 0, .int .i64 0, .int .i64 0, .int .i64 0, .slice none 0 0, .int .i64 0, .int .i64 0, .int .i64 0, .int .i64 0, .int .i64 0] 28) = W8x at *
          refine reg_cast (l' := #[true, true, true, true, true, true, true, false, false, false, false, false, false, true, false, false, false]) (by kernel_rfl) ?_
          revert hHeld
          revert HO4
          revert L_Q
          revert HT_Q
          revert HP_Q
          revert HB
          revert c4
          revert a4
          revert Q
          revert W8x
          exact HG4.out
        intro W8 Q HB HP_Q HT_Q L_Q hHeld
        refine wpAnyH_ready (rs := [1]) (by kernel_rfl) (by simp) ?_
        refine AllReadyH.cons rfl (fun K hK => ?_) (AllReadyH.nil)
        · skip
          go_simp
          (first
        | (go_at_call 26; (with_reducible refine (copy_any a0 L c0 bs _ (HY.out _ HB.out) (by omega)).mono ?_); rintro e z ⟨v4, rfl, ho4, hb⟩; obtain ⟨a4, c4, rfl, hlc4, hby4, hat4⟩ := ho4.by_; have HO4 := Hk.mk (ho4.weak (kw_le HB.out L0V)); clear ho4 hby4 hat4 hlc4)
        | (go_at_call 25; (with_reducible refine (parse_back_as p s k n m u t wd h x y a5 (L + nx) c5 bs ys L _ OK HBS HBL HUL (own_by22 HO5.out.1) HO5.out.2.1 HO5.out.2.2 (by omega) HO5.out.1.an23).mono ?_); rintro o z ⟨hb, a6, c6, rfl, ho6⟩; have HO6 := Hk.mk (ho6.weak (kw_le HB.out L0V)); clear ho6))
          replace HP_Q := Hk.mk (HP_Q.out.below hb)
          replace HT_Q := Hk.mk (HT_Q.out.below hb)
          replace HB := Hk.mk (kw_step HB.out L0V hb)
          clear hb
          refine hK.out _ _ ?_ (fun hHeld2 => ?_)
          · exact kw_s HB.out
          clear hK K hHeld
          have hHeld := hHeld2
          clear hHeld2
          (try simp only [Act.put, List.getElem_toArray, List.getElem_cons_succ, List.getElem_cons_zero, List.setIfInBounds_toArray, List.set_cons_zero, List.set_cons_succ])
          refine reg_cast (l' := #[true, true, true, true, true, true, true, false, false, false, false, false, false, true, false, false, false]) (by kernel_rfl) ?_
          revert hHeld
          revert HO4
          revert L_Q
          revert HT_Q
          revert HP_Q
          revert HB
          revert c4
          revert a4
          revert Q
          revert z
          exact HG4.out
        intro W8 a4 c4 a5 c5 HB HO5 hHeld
        refine wpAnyH_ready (rs := [8, 13]) (by kernel_rfl) (by simp) ?_
        refine AllReadyH.cons rfl (fun K hK => ?_) (AllReadyH.cons rfl (fun K hK => ?_) (AllReadyH.nil))
        · skip
          go_simp
          (first
        | (go_at_call 26; (with_reducible refine (copy_any a0 L c0 bs _ (HY.out _ HB.out) (by omega)).mono ?_); rintro e z ⟨v4, rfl, ho4, hb⟩; obtain ⟨a4, c4, rfl, hlc4, hby4, hat4⟩ := ho4.by_; have HO4 := Hk.mk (ho4.weak (kw_le HB.out L0V)); clear ho4 hby4 hat4 hlc4)
        | (go_at_call 25; (with_reducible refine (parse_back_as p s k n m u t wd h x y a5 (L + nx) c5 bs ys L _ OK HBS HBL HUL (own_by22 HO5.out.1) HO5.out.2.1 HO5.out.2.2 (by omega) HO5.out.1.an23).mono ?_); rintro o z ⟨hb, a6, c6, rfl, ho6⟩; have HO6 := Hk.mk (ho6.weak (kw_le HB.out L0V)); clear ho6))
          replace HO5 := Hk.mk (And.intro (HO5.out.1.below hb) HO5.out.2)
          replace HB := Hk.mk (kw_step HB.out L0V hb)
          clear hb
          refine hK.out _ _ ?_ (fun hHeld2 => ?_)
          · exact kw_s HB.out
          clear hK K hHeld
          have hHeld := hHeld2
          clear hHeld2
          (try simp only [Act.put, List.getElem_toArray, List.getElem_cons_succ, List.getElem_cons_zero, List.setIfInBounds_toArray, List.set_cons_zero, List.set_cons_succ])
          clear HO5
          refine wpAnyH_take (i := 9) (v := ?_) rfl (by kernel_rfl) (by kernel_rfl) (by kernel_rfl) (fun _ _ _ h => h) (Or.inl ⟨by rfl, fun wX hSw => ?_⟩) (by assumption) ?_
          rotate_left
          · (try dsimp only at hSw); go_simp; try with_reducible rfl
          (try simp only [Act.put, List.getElem_toArray, List.getElem_cons_succ, List.getElem_cons_zero, List.setIfInBounds_toArray, List.set_cons_zero, List.set_cons_succ])
          refine wpAnyH_take (i := 10) (v := ?_) rfl (by kernel_rfl) (by kernel_rfl) (by kernel_rfl) (fun _ _ _ h => h) (Or.inl ⟨by rfl, fun wX hSw => ?_⟩) (by assumption) ?_
          rotate_left
          · (try dsimp only at hSw); go_simp; try with_reducible rfl
          (try simp only [Act.put, List.getElem_toArray, List.getElem_cons_succ, List.getElem_cons_zero, List.setIfInBounds_toArray, List.set_cons_zero, List.set_cons_succ])
          refine wpAnyH_take (i := 11) (v := ?_) rfl (by kernel_rfl) (by kernel_rfl) (by kernel_rfl) (fun _ _ _ h => h) (Or.inl ⟨by rfl, fun wX hSw => ?_⟩) (by assumption) ?_
          rotate_left
          · (try dsimp only at hSw); go_simp; try with_reducible rfl
          (try simp only [Act.put, List.getElem_toArray, List.getElem_cons_succ, List.getElem_cons_zero, List.setIfInBounds_toArray, List.set_cons_zero, List.set_cons_succ])
          refine wpAnyH_take (i := 12) (v := ?_) rfl (by kernel_rfl) (by kernel_rfl) (by kernel_rfl) (fun _ _ _ h => h) (Or.inl ⟨by rfl, fun wX hSw => ?_⟩) (by assumption) ?_
          rotate_left
          · (try dsimp only at hSw); go_simp; try with_reducible rfl
          (try simp only [Act.put, List.getElem_toArray, List.getElem_cons_succ, List.getElem_cons_zero, List.setIfInBounds_toArray, List.set_cons_zero, List.set_cons_succ])
          refine reg_cast (l' := #[true, true, true, true, true, true, true, true, true, true, true, true, true, false, false, false, false]) (by kernel_rfl) ?_
          revert hHeld
          revert HO6
          revert HB
          revert c6
          revert a6
          revert c5
          revert a5
          revert c4
          revert a4
          revert z
          exact HG5.out
        · skip
          go_simp
          have hb := kw_al (Below.refl W8.heap.size W8) (Nat.le_refl _) (.cells #[.int .i64 0, .int .i64 0, .int .i64 0, .int .i64 0, .slice none 0 0, .int .i64 0, .int .i64 0, .int .i64 0, .int .i64 0, .int .i64 0] 28)
          replace HO5 := Hk.mk (And.intro (HO5.out.1.below hb) HO5.out.2)
          clear hb
          have L_Q := kw_le HB.out L0V
          have HT_Q := Hk.mk (Ty.new W8 #[.int .i64 0, .int .i64 0, .int .i64 0, .int .i64 0, .slice none 0 0, .int .i64 0, .int .i64 0, .int .i64 0, .int .i64 0, .int .i64 0] 28)
          have HP_Q : Hk (Bk _ _ #[.int .i64 0, .int .i64 0, .int .i64 0, .int .i64 0, .slice none 0 0, .int .i64 0, .int .i64 0, .int .i64 0, .int .i64 0, .int .i64 0]) := ⟨Bk.new W8 #[.int .i64 0, .int .i64 0, .int .i64 0, .int .i64 0, .slice none 0 0, .int .i64 0, .int .i64 0, .int .i64 0, .int .i64 0, .int .i64 0] 28⟩
          replace HB := Hk.mk (kw_al HB.out L0V (.cells #[.int .i64 0, .int .i64 0, .int .i64 0, .int .i64 0, .slice none 0 0, .int .i64 0, .int .i64 0, .int .i64 0, .int .i64 0, .int .i64 0] 28))
          refine hK.out _ _ ?_ (fun hHeld2 => ?_)
          · exact kw_s HB.out
          clear hK K hHeld
          have hHeld := hHeld2
          clear hHeld2
          (try simp only [Act.put, List.getElem_toArray, List.getElem_cons_succ, List.getElem_cons_zero, List.setIfInBounds_toArray, List.set_cons_zero, List.set_cons_succ])
          generalize W8.heap.size = Q at *
          generalize W8.alloc (.cells #[.int .i64 0, .int .i64 0, .int .i64 0, .int .i64 0, .slice none 0 0, .int .i64 0, .int .i64 0, .int .i64 0, .int .i64 0, .int .i64 0] 28) = W8x at *
          refine reg_cast (l' := #[true, true, true, true, true, true, true, true, false, false, false, false, false, true, false, false, false]) (by kernel_rfl) ?_
          revert hHeld
          revert HO5
          revert L_Q
          revert HT_Q
          revert HP_Q
          revert HB
          revert c5
          revert a5
          revert c4
          revert a4
          revert Q
          revert W8x
          exact HG6.out
        intro W8 Q a4 c4 HB HP_Q HT_Q L_Q HO4 hHeld
        refine wpAnyH_ready (rs := [7]) (by kernel_rfl) (by simp) ?_
        refine AllReadyH.cons rfl (fun K hK => ?_) (AllReadyH.nil)
        · skip
          (refine step_append_by _ (by rfl) (.tmp 47) (.tmp 52) (by rfl) VA.heap.size (.slice a4 L c4) L bs (by rfl) HO4.out w.heap.size ax nx cx ys (by rfl) (HBX.out _ (HVA.out.trans (HB.out.mono HVA.out.size))) hxn (by omega) (kw_le HB.out L0V) ?_; intro v5 z ho5 hg5; obtain ⟨a5, c5, rfl, hlc5, -, -⟩ := ho5.by_; have hcm5 := ho5.cap23; have HO5 := Hk.mk (And.intro ho5 (And.intro hlc5 hcm5)); (try (have hne := row_ty_ne HO4.out.2.2 HT_Q.out (by decide); replace HP_Q := Hk.mk (HP_Q.out.grown hg5 hne); replace HT_Q := Hk.mk (HT_Q.out.grown hg5 hne); clear hne)); replace HB := Hk.mk (HB.out.grown hg5 (kw_le HB.out L0V) (fun g hg => (HO4.out.lt g hg).1)); clear ho5 hg5 hlc5 hcm5)
          refine hK.out _ _ ?_ (fun hHeld2 => ?_)
          · exact kw_s HB.out
          clear hK K hHeld
          have hHeld := hHeld2
          clear hHeld2
          (try simp only [Act.put, List.getElem_toArray, List.getElem_cons_succ, List.getElem_cons_zero, List.setIfInBounds_toArray, List.set_cons_zero, List.set_cons_succ])
          clear HO4
          refine reg_cast (l' := #[true, true, true, true, true, true, true, true, false, false, false, false, false, true, false, false, false]) (by kernel_rfl) ?_
          revert hHeld
          revert HO5
          revert L_Q
          revert HT_Q
          revert HP_Q
          revert HB
          revert c5
          revert a5
          revert c4
          revert a4
          revert Q
          revert z
          exact HG6.out
        intro W8 a4 c4 a5 c5 a6 c6 HB HO6 hHeld
        refine wpAnyH_ready (rs := [13]) (by kernel_rfl) (by simp) ?_
        refine AllReadyH.cons rfl (fun K hK => ?_) (AllReadyH.nil)
        · skip
          go_simp
          have hb := kw_al (Below.refl W8.heap.size W8) (Nat.le_refl _) (.cells #[.int .i64 0, .int .i64 0, .int .i64 0, .int .i64 0, .slice none 0 0, .int .i64 0, .int .i64 0, .int .i64 0, .int .i64 0, .int .i64 0] 28)
          replace HO6 := Hk.mk (HO6.out.below hb)
          clear hb
          have L_Q := kw_le HB.out L0V
          have HT_Q := Hk.mk (Ty.new W8 #[.int .i64 0, .int .i64 0, .int .i64 0, .int .i64 0, .slice none 0 0, .int .i64 0, .int .i64 0, .int .i64 0, .int .i64 0, .int .i64 0] 28)
          have HP_Q : Hk (Bk _ _ #[.int .i64 0, .int .i64 0, .int .i64 0, .int .i64 0, .slice none 0 0, .int .i64 0, .int .i64 0, .int .i64 0, .int .i64 0, .int .i64 0]) := ⟨Bk.new W8 #[.int .i64 0, .int .i64 0, .int .i64 0, .int .i64 0, .slice none 0 0, .int .i64 0, .int .i64 0, .int .i64 0, .int .i64 0, .int .i64 0] 28⟩
          replace HB := Hk.mk (kw_al HB.out L0V (.cells #[.int .i64 0, .int .i64 0, .int .i64 0, .int .i64 0, .slice none 0 0, .int .i64 0, .int .i64 0, .int .i64 0, .int .i64 0, .int .i64 0] 28))
          refine hK.out _ _ ?_ (fun hHeld2 => ?_)
          · exact kw_s HB.out
          clear hK K hHeld
          have hHeld := hHeld2
          clear hHeld2
          (try simp only [Act.put, List.getElem_toArray, List.getElem_cons_succ, List.getElem_cons_zero, List.setIfInBounds_toArray, List.set_cons_zero, List.set_cons_succ])
          generalize W8.heap.size = Q at *
          generalize W8.alloc (.cells #[.int .i64 0, .int .i64 0, .int .i64 0, .int .i64 0, .slice none 0 0, .int .i64 0, .int .i64 0, .int .i64 0, .int .i64 0, .int .i64 0] 28) = W8x at *
          refine reg_cast (l' := #[true, true, true, true, true, true, true, true, true, true, true, true, true, true, false, false, false]) (by kernel_rfl) ?_
          revert hHeld
          revert HO6
          revert L_Q
          revert HT_Q
          revert HP_Q
          revert HB
          revert c6
          revert a6
          revert c5
          revert a5
          revert c4
          revert a4
          revert Q
          revert W8x
          exact HG7.out
        intro W8 Q a4 c4 a5 c5 HB HP_Q HT_Q L_Q HO5 hHeld
        refine wpAnyH_ready (rs := [8]) (by kernel_rfl) (by simp) ?_
        refine AllReadyH.cons rfl (fun K hK => ?_) (AllReadyH.nil)
        · skip
          go_simp
          (first
        | (go_at_call 26; (with_reducible refine (copy_any a0 L c0 bs _ (HY.out _ HB.out) (by omega)).mono ?_); rintro e z ⟨v4, rfl, ho4, hb⟩; obtain ⟨a4, c4, rfl, hlc4, hby4, hat4⟩ := ho4.by_; have HO4 := Hk.mk (ho4.weak (kw_le HB.out L0V)); clear ho4 hby4 hat4 hlc4)
        | (go_at_call 25; (with_reducible refine (parse_back_as p s k n m u t wd h x y a5 (L + nx) c5 bs ys L _ OK HBS HBL HUL (own_by22 HO5.out.1) HO5.out.2.1 HO5.out.2.2 (by omega) HO5.out.1.an23).mono ?_); rintro o z ⟨hb, a6, c6, rfl, ho6⟩; have HO6 := Hk.mk (ho6.weak (kw_le HB.out L0V)); clear ho6))
          replace HO5 := Hk.mk (And.intro (HO5.out.1.below hb) HO5.out.2)
          replace HP_Q := Hk.mk (HP_Q.out.below hb)
          replace HT_Q := Hk.mk (HT_Q.out.below hb)
          replace HB := Hk.mk (kw_step HB.out L0V hb)
          clear hb
          refine hK.out _ _ ?_ (fun hHeld2 => ?_)
          · exact kw_s HB.out
          clear hK K hHeld
          have hHeld := hHeld2
          clear hHeld2
          (try simp only [Act.put, List.getElem_toArray, List.getElem_cons_succ, List.getElem_cons_zero, List.setIfInBounds_toArray, List.set_cons_zero, List.set_cons_succ])
          clear HO5
          refine wpAnyH_take (i := 9) (v := ?_) rfl (by kernel_rfl) (by kernel_rfl) (by kernel_rfl) (fun _ _ _ h => h) (Or.inl ⟨by rfl, fun wX hSw => ?_⟩) (by assumption) ?_
          rotate_left
          · (try dsimp only at hSw); go_simp; try with_reducible rfl
          (try simp only [Act.put, List.getElem_toArray, List.getElem_cons_succ, List.getElem_cons_zero, List.setIfInBounds_toArray, List.set_cons_zero, List.set_cons_succ])
          refine wpAnyH_take (i := 10) (v := ?_) rfl (by kernel_rfl) (by kernel_rfl) (by kernel_rfl) (fun _ _ _ h => h) (Or.inl ⟨by rfl, fun wX hSw => ?_⟩) (by assumption) ?_
          rotate_left
          · (try dsimp only at hSw); go_simp; try with_reducible rfl
          (try simp only [Act.put, List.getElem_toArray, List.getElem_cons_succ, List.getElem_cons_zero, List.setIfInBounds_toArray, List.set_cons_zero, List.set_cons_succ])
          refine wpAnyH_take (i := 11) (v := ?_) rfl (by kernel_rfl) (by kernel_rfl) (by kernel_rfl) (fun _ _ _ h => h) (Or.inl ⟨by rfl, fun wX hSw => ?_⟩) (by assumption) ?_
          rotate_left
          · (try dsimp only at hSw); go_simp; try with_reducible rfl
          (try simp only [Act.put, List.getElem_toArray, List.getElem_cons_succ, List.getElem_cons_zero, List.setIfInBounds_toArray, List.set_cons_zero, List.set_cons_succ])
          refine wpAnyH_take (i := 12) (v := ?_) rfl (by kernel_rfl) (by kernel_rfl) (by kernel_rfl) (fun _ _ _ h => h) (Or.inl ⟨by rfl, fun wX hSw => ?_⟩) (by assumption) ?_
          rotate_left
          · (try dsimp only at hSw); go_simp; try with_reducible rfl
          (try simp only [Act.put, List.getElem_toArray, List.getElem_cons_succ, List.getElem_cons_zero, List.setIfInBounds_toArray, List.set_cons_zero, List.set_cons_succ])
          refine reg_cast (l' := #[true, true, true, true, true, true, true, true, true, true, true, true, true, true, false, false, false]) (by kernel_rfl) ?_
          revert hHeld
          revert HO6
          revert L_Q
          revert HT_Q
          revert HP_Q
          revert HB
          revert c6
          revert a6
          revert c5
          revert a5
          revert c4
          revert a4
          revert Q
          revert z
          exact HG7.out
        intro W8 Q a4 c4 a5 c5 a6 c6 HB HP_Q HT_Q L_Q HO6 hHeld
        refine wpAnyH_ready (rs := [14]) (by kernel_rfl) (by simp) ?_
        refine AllReadyH.cons rfl (fun K hK => ?_) (AllReadyH.nil)
        · skip
          have st_c0 : W8.cell? ⟨Q, 0, none⟩ = some (.int .i64 0) := HP_Q.out.c 0
          have st_f0 : W8.frozen? ⟨Q, 0, none⟩ = false := HP_Q.out.f 0
          have st_c1 : W8.cell? ⟨Q, 1, none⟩ = some (.int .i64 0) := HP_Q.out.c 1
          have st_f1 : W8.frozen? ⟨Q, 1, none⟩ = false := HP_Q.out.f 1
          have st_c2 : W8.cell? ⟨Q, 2, none⟩ = some (.int .i64 0) := HP_Q.out.c 2
          have st_f2 : W8.frozen? ⟨Q, 2, none⟩ = false := HP_Q.out.f 2
          have st_c3 : W8.cell? ⟨Q, 3, none⟩ = some (.int .i64 0) := HP_Q.out.c 3
          have st_f3 : W8.frozen? ⟨Q, 3, none⟩ = false := HP_Q.out.f 3
          have st_c4 : W8.cell? ⟨Q, 4, none⟩ = some (.slice none 0 0) := HP_Q.out.c 4
          have st_f4 : W8.frozen? ⟨Q, 4, none⟩ = false := HP_Q.out.f 4
          have st_c5 : W8.cell? ⟨Q, 5, none⟩ = some (.int .i64 0) := HP_Q.out.c 5
          have st_f5 : W8.frozen? ⟨Q, 5, none⟩ = false := HP_Q.out.f 5
          have st_c6 : W8.cell? ⟨Q, 6, none⟩ = some (.int .i64 0) := HP_Q.out.c 6
          have st_f6 : W8.frozen? ⟨Q, 6, none⟩ = false := HP_Q.out.f 6
          have st_c7 : W8.cell? ⟨Q, 7, none⟩ = some (.int .i64 0) := HP_Q.out.c 7
          have st_f7 : W8.frozen? ⟨Q, 7, none⟩ = false := HP_Q.out.f 7
          have st_c8 : W8.cell? ⟨Q, 8, none⟩ = some (.int .i64 0) := HP_Q.out.c 8
          have st_f8 : W8.frozen? ⟨Q, 8, none⟩ = false := HP_Q.out.f 8
          have st_c9 : W8.cell? ⟨Q, 9, none⟩ = some (.int .i64 0) := HP_Q.out.c 9
          have st_f9 : W8.frozen? ⟨Q, 9, none⟩ = false := HP_Q.out.f 9
          go_simp
          clear st_c0 st_f0
          clear st_c1 st_f1
          clear st_c2 st_f2
          clear st_c3 st_f3
          clear st_c4 st_f4
          clear st_c5 st_f5
          clear st_c6 st_f6
          clear st_c7 st_f7
          clear st_c8 st_f8
          clear st_c9 st_f9
          have hbk0 : Bk _ Q #[.int .i64 p, .int .i64 0, .int .i64 0, .int .i64 0, .slice none 0 0, .int .i64 0, .int .i64 0, .int .i64 0, .int .i64 0, .int .i64 0] := (HP_Q.out).set 0 (.int .i64 p)
          have hbk1 : Bk _ Q #[.int .i64 p, .int .i64 s, .int .i64 0, .int .i64 0, .slice none 0 0, .int .i64 0, .int .i64 0, .int .i64 0, .int .i64 0, .int .i64 0] := (hbk0).set 1 (.int .i64 s)
          have hbk2 : Bk _ Q #[.int .i64 p, .int .i64 s, .int .i64 k, .int .i64 0, .slice none 0 0, .int .i64 0, .int .i64 0, .int .i64 0, .int .i64 0, .int .i64 0] := (hbk1).set 2 (.int .i64 k)
          have hbk3 : Bk _ Q #[.int .i64 p, .int .i64 s, .int .i64 k, .int .i64 n, .slice none 0 0, .int .i64 0, .int .i64 0, .int .i64 0, .int .i64 0, .int .i64 0] := (hbk2).set 3 (.int .i64 n)
          have hbk4 : Bk _ Q #[.int .i64 p, .int .i64 s, .int .i64 k, .int .i64 n, .slice a6 m c6, .int .i64 0, .int .i64 0, .int .i64 0, .int .i64 0, .int .i64 0] := (hbk3).set 4 (.slice a6 m c6)
          have hbk5 : Bk _ Q #[.int .i64 p, .int .i64 s, .int .i64 k, .int .i64 n, .slice a6 m c6, .int .i64 t, .int .i64 0, .int .i64 0, .int .i64 0, .int .i64 0] := (hbk4).set 5 (.int .i64 t)
          have hbk6 : Bk _ Q #[.int .i64 p, .int .i64 s, .int .i64 k, .int .i64 n, .slice a6 m c6, .int .i64 t, .int .i64 wd, .int .i64 0, .int .i64 0, .int .i64 0] := (hbk5).set 6 (.int .i64 wd)
          have hbk7 : Bk _ Q #[.int .i64 p, .int .i64 s, .int .i64 k, .int .i64 n, .slice a6 m c6, .int .i64 t, .int .i64 wd, .int .i64 h, .int .i64 0, .int .i64 0] := (hbk6).set 7 (.int .i64 h)
          have hbk8 : Bk _ Q #[.int .i64 p, .int .i64 s, .int .i64 k, .int .i64 n, .slice a6 m c6, .int .i64 t, .int .i64 wd, .int .i64 h, .int .i64 x, .int .i64 0] := (hbk7).set 8 (.int .i64 x)
          have hbk9 : Bk _ Q #[.int .i64 p, .int .i64 s, .int .i64 k, .int .i64 n, .slice a6 m c6, .int .i64 t, .int .i64 wd, .int .i64 h, .int .i64 x, .int .i64 y] := (hbk8).set 9 (.int .i64 y)
          replace HP_Q := Hk.mk hbk9
          clear hbk0 hbk1 hbk2 hbk3 hbk4 hbk5 hbk6 hbk7 hbk8 hbk9
          have hfr := (show Fr (fun q => q = Q) W8 _ from (Fr.setCell (p := ⟨Q, 9, none⟩) ((Fr.setCell (p := ⟨Q, 8, none⟩) ((Fr.setCell (p := ⟨Q, 7, none⟩) ((Fr.setCell (p := ⟨Q, 6, none⟩) ((Fr.setCell (p := ⟨Q, 5, none⟩) ((Fr.setCell (p := ⟨Q, 4, none⟩) ((Fr.setCell (p := ⟨Q, 3, none⟩) ((Fr.setCell (p := ⟨Q, 2, none⟩) ((Fr.setCell (p := ⟨Q, 1, none⟩) ((Fr.setCell (p := ⟨Q, 0, none⟩) ((Fr.refl (fun q => q = Q) W8)) (fun _ => rfl) (.int .i64 p))) (fun _ => rfl) (.int .i64 s))) (fun _ => rfl) (.int .i64 k))) (fun _ => rfl) (.int .i64 n))) (fun _ => rfl) (.slice a6 m c6))) (fun _ => rfl) (.int .i64 t))) (fun _ => rfl) (.int .i64 wd))) (fun _ => rfl) (.int .i64 h))) (fun _ => rfl) (.int .i64 x))) (fun _ => rfl) (.int .i64 y)))
          replace HO6 := Hk.mk (Fr.owni HO6.out hfr (fun q hq h => row_ty_ne HO6.out.2 HT_Q.out (by decide) (h ▸ hq)))
          clear hfr
          replace HT_Q := Hk.mk (Ty.set ((Ty.set ((Ty.set ((Ty.set ((Ty.set ((Ty.set ((Ty.set ((Ty.set ((Ty.set ((Ty.set (HT_Q.out) ⟨Q, 0, none⟩ (.int .i64 p))) ⟨Q, 1, none⟩ (.int .i64 s))) ⟨Q, 2, none⟩ (.int .i64 k))) ⟨Q, 3, none⟩ (.int .i64 n))) ⟨Q, 4, none⟩ (.slice a6 m c6))) ⟨Q, 5, none⟩ (.int .i64 t))) ⟨Q, 6, none⟩ (.int .i64 wd))) ⟨Q, 7, none⟩ (.int .i64 h))) ⟨Q, 8, none⟩ (.int .i64 x))) ⟨Q, 9, none⟩ (.int .i64 y))
          replace HB := Hk.mk (Below.setCell (p := ⟨Q, 9, none⟩) ((Below.setCell (p := ⟨Q, 8, none⟩) ((Below.setCell (p := ⟨Q, 7, none⟩) ((Below.setCell (p := ⟨Q, 6, none⟩) ((Below.setCell (p := ⟨Q, 5, none⟩) ((Below.setCell (p := ⟨Q, 4, none⟩) ((Below.setCell (p := ⟨Q, 3, none⟩) ((Below.setCell (p := ⟨Q, 2, none⟩) ((Below.setCell (p := ⟨Q, 1, none⟩) ((Below.setCell (p := ⟨Q, 0, none⟩) (HB.out) L_Q (.int .i64 p))) L_Q (.int .i64 s))) L_Q (.int .i64 k))) L_Q (.int .i64 n))) L_Q (.slice a6 m c6))) L_Q (.int .i64 t))) L_Q (.int .i64 wd))) L_Q (.int .i64 h))) L_Q (.int .i64 x))) L_Q (.int .i64 y))
          refine hK.out _ _ ?_ (fun hHeld2 => ?_)
          · exact kw_s HB.out
          clear hK K hHeld
          have hHeld := hHeld2
          clear hHeld2
          (try simp only [Act.put, List.getElem_toArray, List.getElem_cons_succ, List.getElem_cons_zero, List.setIfInBounds_toArray, List.set_cons_zero, List.set_cons_succ])
          generalize (World.setCell (World.setCell (World.setCell (World.setCell (World.setCell (World.setCell (World.setCell (World.setCell (World.setCell (World.setCell W8 ⟨Q, 0, none⟩ (.int .i64 p)) ⟨Q, 1, none⟩ (.int .i64 s)) ⟨Q, 2, none⟩ (.int .i64 k)) ⟨Q, 3, none⟩ (.int .i64 n)) ⟨Q, 4, none⟩ (.slice a6 m c6)) ⟨Q, 5, none⟩ (.int .i64 t)) ⟨Q, 6, none⟩ (.int .i64 wd)) ⟨Q, 7, none⟩ (.int .i64 h)) ⟨Q, 8, none⟩ (.int .i64 x)) ⟨Q, 9, none⟩ (.int .i64 y)) = W8x at *
          refine wpAnyH_take (i := 15) (v := ?_) rfl (by kernel_rfl) (by kernel_rfl) (by kernel_rfl) (fun _ _ _ h => h) (Or.inl ⟨by rfl, fun wX hSw => ?_⟩) (by assumption) ?_
          rotate_left
          · (try dsimp only at hSw); go_simp; try with_reducible rfl
          (try simp only [Act.put, List.getElem_toArray, List.getElem_cons_succ, List.getElem_cons_zero, List.setIfInBounds_toArray, List.set_cons_zero, List.set_cons_succ])
          refine wpAnyH_take (i := 16) (v := ?_) rfl (by kernel_rfl) (by kernel_rfl) (by kernel_rfl) (fun _ _ _ h => h) (Or.inl ⟨by rfl, fun wX hSw => ?_⟩) (by assumption) ?_
          rotate_left
          · (try dsimp only at hSw); go_simp; try with_reducible rfl
          (try simp only [Act.put, List.getElem_toArray, List.getElem_cons_succ, List.getElem_cons_zero, List.setIfInBounds_toArray, List.set_cons_zero, List.set_cons_succ])
          refine reg_cast (l' := #[true, true, true, true, true, true, true, true, true, true, true, true, true, true, true, true, true]) (by kernel_rfl) ?_
          revert hHeld
          revert HO6
          revert L_Q
          revert HT_Q
          revert HP_Q
          revert HB
          revert c6
          revert a6
          revert c5
          revert a5
          revert c4
          revert a4
          revert Q
          revert W8x
          exact HG8.out
        intro W8 Q a4 c4 a5 c5 a6 c6 HB HP_Q HT_Q L_Q HO6 hHeld
        refine wpAnyH_done (by kernel_rfl) ?_ _
        have e0 : W8.cell? ⟨Q, 0, none⟩ = some (.int .i64 p) := HP_Q.out.c 0
        have e1 : W8.cell? ⟨Q, 1, none⟩ = some (.int .i64 s) := HP_Q.out.c 1
        have e2 : W8.cell? ⟨Q, 2, none⟩ = some (.int .i64 k) := HP_Q.out.c 2
        have e3 : W8.cell? ⟨Q, 3, none⟩ = some (.int .i64 n) := HP_Q.out.c 3
        have e4 : W8.cell? ⟨Q, 4, none⟩ = some (.slice a6 m c6) := HP_Q.out.c 4
        have e5 : W8.cell? ⟨Q, 5, none⟩ = some (.int .i64 t) := HP_Q.out.c 5
        have e6 : W8.cell? ⟨Q, 6, none⟩ = some (.int .i64 wd) := HP_Q.out.c 6
        have e7 : W8.cell? ⟨Q, 7, none⟩ = some (.int .i64 h) := HP_Q.out.c 7
        have e8 : W8.cell? ⟨Q, 8, none⟩ = some (.int .i64 x) := HP_Q.out.c 8
        have e9 : W8.cell? ⟨Q, 9, none⟩ = some (.int .i64 y) := HP_Q.out.c 9
        have bQ := HP_Q.out.lt
        have bW := Nat.lt_of_lt_of_le bX HB.out.size
        have HW8 := Hk.mk (HVA.out.trans (HB.out.mono HVA.out.size))
        have HB0 := HB
        clear d0 d1 d2 d3 d4 d5 d6 d7 d8 d9 d10
        obtain ⟨d0, d1, d2, d3, d4, d5, d6, d7, d8, d9, d10⟩ := HCE.out _ HW8.out
        have HN6 : Hk (∀ X, Below W8.heap.size W8 X → Nq X X.heap.size a6 m u) := ⟨fun X hX => ((own_nq22 HO6.out).below hX (Nat.le_refl _)).mono hX.size⟩
        have HNA : Hk (∀ X, Below W8.heap.size W8 X → Nq X X.heap.size a m u) := ⟨fun X hX => HNQ.out X (HW8.out.trans (hX.mono HW8.out.size))⟩
        have HEQ : Hk (eqcB p s k n u t wd h x y p s k n u t wd h x y = true) := ⟨by unfold eqcB; simp⟩
        clear HP_Q HT_Q L_Q HO6 hHeld HB
        go_upto_region 9 with (fail)
        have L0V : W8.heap.size ≤ W8.heap.size := Nat.le_refl _
        apply reg_merge
        intro HG2
        apply reg_merge
        intro HG1
        refine wp_region_held_drew (S := fun Z => (∀ b o, b < W8.heap.size → Z.cell? ⟨b, o, none⟩ = W8.cell? ⟨b, o, none⟩)) (by kernel_rfl) (fun _ _ _ => rfl) (fun hHeld => ?_)
        have HB : Hk (Below W8.heap.size W8 W8.drew) := ⟨(Below.refl _ _).drew⟩
        obtain ⟨W9, hWe⟩ : ∃ W9, W8.drew = W9 := ⟨_, rfl⟩
        rw [hWe] at HB hHeld ⊢
        clear hWe
        refine wpAnyH_take (i := 0) (v := ?_) rfl (by kernel_rfl) (by kernel_rfl) (by kernel_rfl) (fun _ _ _ h => h) (Or.inl ⟨by rfl, fun wX hSw => ?_⟩) (by assumption) ?_
        rotate_left
        · (try dsimp only at hSw); go_simp; try with_reducible rfl
        (try simp only [Act.put, List.getElem_toArray, List.getElem_cons_succ, List.getElem_cons_zero, List.setIfInBounds_toArray, List.set_cons_zero, List.set_cons_succ])
        refine wpAnyH_ready (rs := [1]) (by kernel_rfl) (by simp) ?_
        refine AllReadyH.cons rfl (fun K hK => ?_) (AllReadyH.nil)
        · skip
          go_simp
          (first
        | (go_at_call 19; (with_reducible refine (qb22 (lawnum22_any _ _)).mono ?_); rintro e z ⟨rfl, hb⟩)
        | (go_at_call 23; (with_reducible refine (eqc_as true p s k n a6 m c6 u t wd h x y p s k n a m c u t wd h x y _ (HN6.out _ HB.out) (by omega) (HNA.out _ HB.out) (by omega) HEQ).mono ?_); rintro e z ⟨rfl, hb⟩))
          replace HB := Hk.mk (kw_step HB.out L0V hb)
          clear hb
          refine hK.out _ _ ?_ (fun hHeld2 => ?_)
          · exact kw_s HB.out
          clear hK K hHeld
          have hHeld := hHeld2
          clear hHeld2
          (try simp only [Act.put, List.getElem_toArray, List.getElem_cons_succ, List.getElem_cons_zero, List.setIfInBounds_toArray, List.set_cons_zero, List.set_cons_succ])
          refine wpAnyH_take (i := 2) (v := ?_) rfl (by kernel_rfl) (by kernel_rfl) (by kernel_rfl) (fun _ _ _ h => h) (Or.inl ⟨by rfl, fun wX hSw => ?_⟩) (by assumption) ?_
          rotate_left
          · (try dsimp only at hSw); go_simp; try with_reducible rfl
          (try simp only [Act.put, List.getElem_toArray, List.getElem_cons_succ, List.getElem_cons_zero, List.setIfInBounds_toArray, List.set_cons_zero, List.set_cons_succ])
          refine wpAnyH_take (i := 3) (v := ?_) rfl (by kernel_rfl) (by kernel_rfl) (by kernel_rfl) (fun _ _ _ h => h) (Or.inl ⟨by rfl, fun wX hSw => ?_⟩) (by assumption) ?_
          rotate_left
          · (try dsimp only at hSw); go_simp; try with_reducible rfl
          (try simp only [Act.put, List.getElem_toArray, List.getElem_cons_succ, List.getElem_cons_zero, List.setIfInBounds_toArray, List.set_cons_zero, List.set_cons_succ])
          refine wpAnyH_take (i := 4) (v := ?_) rfl (by kernel_rfl) (by kernel_rfl) (by kernel_rfl) (fun _ _ _ h => h) (Or.inl ⟨by rfl, fun wX hSw => ?_⟩) (by assumption) ?_
          rotate_left
          · (try dsimp only at hSw); go_simp; try with_reducible rfl
          (try simp only [Act.put, List.getElem_toArray, List.getElem_cons_succ, List.getElem_cons_zero, List.setIfInBounds_toArray, List.set_cons_zero, List.set_cons_succ])
          refine wpAnyH_take (i := 5) (v := ?_) rfl (by kernel_rfl) (by kernel_rfl) (by kernel_rfl) (fun _ _ _ h => h) (Or.inl ⟨by rfl, fun wX hSw => ?_⟩) (by assumption) ?_
          rotate_left
          · (try dsimp only at hSw); go_simp; try with_reducible rfl
          (try simp only [Act.put, List.getElem_toArray, List.getElem_cons_succ, List.getElem_cons_zero, List.setIfInBounds_toArray, List.set_cons_zero, List.set_cons_succ])
          refine wpAnyH_take (i := 6) (v := ?_) rfl (by kernel_rfl) (by kernel_rfl) (by kernel_rfl) (fun _ _ _ h => h) (Or.inl ⟨by rfl, fun wX hSw => ?_⟩) (by assumption) ?_
          rotate_left
          · (try dsimp only at hSw); go_simp; try with_reducible rfl
          (try simp only [Act.put, List.getElem_toArray, List.getElem_cons_succ, List.getElem_cons_zero, List.setIfInBounds_toArray, List.set_cons_zero, List.set_cons_succ])
          refine wpAnyH_take (i := 7) (v := ?_) rfl (by kernel_rfl) (by kernel_rfl) (by kernel_rfl) (fun _ _ _ h => h) (Or.inl ⟨by rfl, fun wX hSw => ?_⟩) (by assumption) ?_
          rotate_left
          · (try dsimp only at hSw); go_simp; try with_reducible rfl
          (try simp only [Act.put, List.getElem_toArray, List.getElem_cons_succ, List.getElem_cons_zero, List.setIfInBounds_toArray, List.set_cons_zero, List.set_cons_succ])
          refine wpAnyH_take (i := 8) (v := ?_) rfl (by kernel_rfl) (by kernel_rfl) (by kernel_rfl) (fun _ _ _ h => h) (Or.inl ⟨by rfl, fun wX hSw => ?_⟩) (by assumption) ?_
          rotate_left
          · (try dsimp only at hSw); go_simp; try with_reducible rfl
          (try simp only [Act.put, List.getElem_toArray, List.getElem_cons_succ, List.getElem_cons_zero, List.setIfInBounds_toArray, List.set_cons_zero, List.set_cons_succ])
          refine wpAnyH_take (i := 9) (v := ?_) rfl (by kernel_rfl) (by kernel_rfl) (by kernel_rfl) (fun _ _ _ h => h) (Or.inl ⟨by rfl, fun wX hSw => ?_⟩) (by assumption) ?_
          rotate_left
          · (try dsimp only at hSw); go_simp; try with_reducible rfl
          (try simp only [Act.put, List.getElem_toArray, List.getElem_cons_succ, List.getElem_cons_zero, List.setIfInBounds_toArray, List.set_cons_zero, List.set_cons_succ])
          refine wpAnyH_take (i := 10) (v := ?_) rfl (by kernel_rfl) (by kernel_rfl) (by kernel_rfl) (fun _ _ _ h => h) (Or.inl ⟨by rfl, fun wX hSw => ?_⟩) (by assumption) ?_
          rotate_left
          · (try dsimp only at hSw); go_simp; try with_reducible rfl
          (try simp only [Act.put, List.getElem_toArray, List.getElem_cons_succ, List.getElem_cons_zero, List.setIfInBounds_toArray, List.set_cons_zero, List.set_cons_succ])
          refine wpAnyH_take (i := 11) (v := ?_) rfl (by kernel_rfl) (by kernel_rfl) (by kernel_rfl) (fun _ _ _ h => h) (Or.inl ⟨by rfl, fun wX hSw => ?_⟩) (by assumption) ?_
          rotate_left
          · (try dsimp only at hSw); go_simp; try with_reducible rfl
          (try simp only [Act.put, List.getElem_toArray, List.getElem_cons_succ, List.getElem_cons_zero, List.setIfInBounds_toArray, List.set_cons_zero, List.set_cons_succ])
          refine wpAnyH_take (i := 12) (v := ?_) rfl (by kernel_rfl) (by kernel_rfl) (by kernel_rfl) (fun _ _ _ h => h) (Or.inl ⟨by rfl, fun wX hSw => ?_⟩) (by assumption) ?_
          rotate_left
          · (try dsimp only at hSw); go_simp; try with_reducible rfl
          (try simp only [Act.put, List.getElem_toArray, List.getElem_cons_succ, List.getElem_cons_zero, List.setIfInBounds_toArray, List.set_cons_zero, List.set_cons_succ])
          refine wpAnyH_take (i := 13) (v := ?_) rfl (by kernel_rfl) (by kernel_rfl) (by kernel_rfl) (fun _ _ _ h => h) (Or.inl ⟨by rfl, fun wX hSw => ?_⟩) (by assumption) ?_
          rotate_left
          · (try dsimp only at hSw); go_simp; try with_reducible rfl
          (try simp only [Act.put, List.getElem_toArray, List.getElem_cons_succ, List.getElem_cons_zero, List.setIfInBounds_toArray, List.set_cons_zero, List.set_cons_succ])
          refine wpAnyH_take (i := 14) (v := ?_) rfl (by kernel_rfl) (by kernel_rfl) (by kernel_rfl) (fun _ _ _ h => h) (Or.inl ⟨by rfl, fun wX hSw => ?_⟩) (by assumption) ?_
          rotate_left
          · (try dsimp only at hSw); go_simp; try with_reducible rfl
          (try simp only [Act.put, List.getElem_toArray, List.getElem_cons_succ, List.getElem_cons_zero, List.setIfInBounds_toArray, List.set_cons_zero, List.set_cons_succ])
          refine wpAnyH_take (i := 15) (v := ?_) rfl (by kernel_rfl) (by kernel_rfl) (by kernel_rfl) (fun _ _ _ h => h) (Or.inl ⟨by rfl, fun wX hSw => ?_⟩) (by assumption) ?_
          rotate_left
          · (try dsimp only at hSw); go_simp; try with_reducible rfl
          (try simp only [Act.put, List.getElem_toArray, List.getElem_cons_succ, List.getElem_cons_zero, List.setIfInBounds_toArray, List.set_cons_zero, List.set_cons_succ])
          refine reg_cast (l' := #[true, true, true, true, true, true, true, true, true, true, true, true, true, true, true, true, false, false, false]) (by kernel_rfl) ?_
          revert hHeld
          revert HB
          revert z
          exact HG1.out
        intro W9 HB hHeld
        refine wpAnyH_ready (rs := [16]) (by kernel_rfl) (by simp) ?_
        refine AllReadyH.cons rfl (fun K hK => ?_) (AllReadyH.nil)
        · skip
          go_simp
          (first
        | (go_at_call 19; (with_reducible refine (qb22 (lawnum22_any _ _)).mono ?_); rintro e z ⟨rfl, hb⟩)
        | (go_at_call 23; (with_reducible refine (eqc_as true p s k n a6 m c6 u t wd h x y p s k n a m c u t wd h x y _ (HN6.out _ HB.out) (by omega) (HNA.out _ HB.out) (by omega) HEQ).mono ?_); rintro e z ⟨rfl, hb⟩))
          replace HB := Hk.mk (kw_step HB.out L0V hb)
          clear hb
          refine hK.out _ _ ?_ (fun hHeld2 => ?_)
          · exact kw_s HB.out
          clear hK K hHeld
          have hHeld := hHeld2
          clear hHeld2
          (try simp only [Act.put, List.getElem_toArray, List.getElem_cons_succ, List.getElem_cons_zero, List.setIfInBounds_toArray, List.set_cons_zero, List.set_cons_succ])
          refine wpAnyH_take (i := 17) (v := ?_) rfl (by kernel_rfl) (by kernel_rfl) (by kernel_rfl) (fun _ _ _ h => h) (Or.inl ⟨by rfl, fun wX hSw => ?_⟩) (by assumption) ?_
          rotate_left
          · (try dsimp only at hSw); go_simp; try with_reducible rfl
          (try simp only [Act.put, List.getElem_toArray, List.getElem_cons_succ, List.getElem_cons_zero, List.setIfInBounds_toArray, List.set_cons_zero, List.set_cons_succ])
          refine wpAnyH_take (i := 18) (v := ?_) rfl (by kernel_rfl) (by kernel_rfl) (by kernel_rfl) (fun _ _ _ h => h) (Or.inl ⟨by rfl, fun wX hSw => ?_⟩) (by assumption) ?_
          rotate_left
          · (try dsimp only at hSw); go_simp; try with_reducible rfl
          (try simp only [Act.put, List.getElem_toArray, List.getElem_cons_succ, List.getElem_cons_zero, List.setIfInBounds_toArray, List.set_cons_zero, List.set_cons_succ])
          refine reg_cast (l' := #[true, true, true, true, true, true, true, true, true, true, true, true, true, true, true, true, true, true, true]) (by kernel_rfl) ?_
          revert hHeld
          revert HB
          revert z
          exact HG2.out
        intro W9 HB hHeld
        refine wpAnyH_done (by kernel_rfl) ?_ _
        clear e0 e1 e2 e3 e4 e5 e6 e7 e8 e9 bQ bW HN6 HNA HEQ d0 d1 d2 d3 d4 d5 d6 d7 d8 d9 d10 hHeld
        replace HB := Hk.mk (HB0.out.trans (HB.out.mono HB0.out.size))
        clear HB0 HW8
        go_wp2_with fail
        go_loopw [9] (fun i wr => ∃ q : Nat, i = .int .i64 q ∧ q ≤ L ∧ Hk (Below VA.heap.size VA wr)) (fun i _ => L - (intOf i).toNat)
        case atStart => exact ⟨0, rfl, by omega, HB⟩
        case round =>
          clear HB
          obtain ⟨q, rfl, hq, HB⟩ := hrel
          by_cases hql : q < L
          · have i3 : (0 : Int) ≤ (q : Int) := by omega
            have i4 : (q : Int) ≤ (c0 : Int) := by omega
            have HEZ : Hk (eqcB 0 0 0 0 [] 0 0 0 0 0 0 0 0 0 [] 0 0 0 0 0 = true) := ⟨by unfold eqcB; simp⟩
            go_wp2_with (first
              | (go_at_call 25; (with_reducible refine (parse_cut22 p s k ⟨n, u, t, wd, h, x, y⟩ bs L q a0 c0 _ OK HBS HBL hql (HY.out _ HB.out) hLc hc9 (by omega) HAN.out).mono ?_); rintro o z ⟨rfl, hb⟩; have HBZ := Hk.mk (kw_al (kw_step HB.out (Nat.le_refl _) hb) (Nat.le_refl _) (.cells #[.int .i64 0, .int .i64 0, .int .i64 0, .int .i64 0, .slice none 0 0, .int .i64 0, .int .i64 0, .int .i64 0, .int .i64 0, .int .i64 0] 28)); clear hb)
              | (go_at_call 23; (with_reducible refine (eqc_as true 0 0 0 0 none 0 0 [] 0 0 0 0 0 0 0 0 0 none 0 0 [] 0 0 0 0 0 _ (Nq.nil _ _ _) (by omega) (Nq.nil _ _ _) (by omega) HEZ).mono ?_); rintro e z2 ⟨rfl, hb⟩; have HB2 := Hk.mk (kw_step HBZ.out (Nat.le_refl _) hb); clear hb)
              | (go_at_call 19; (with_reducible refine (lawnum22_any _ _).mono ?_); rintro e w' ⟨rfl, rfl⟩))
            exact ⟨⟨q + 1, by go_num, by omega, HB2⟩, by simp [intOf]; omega⟩
          · go_wp2_with fail
            go_meet
            case rel => exact ⟨kw_step HVA.out L0 HB.out⟩
      case rest =>
        have HB := hcut
        clear hcut d0 d1 d2 d3 d4 d5 d6 d7 d8 d9 d10 HR
        obtain ⟨d0, d1, d2, d3, d4, d5, d6, d7, d8, d9, d10⟩ := HCE.out _ HB.out
        go_upto_if 116 with (first
          | (go_at_call 25; (with_reducible refine (parse_fwd22 ax nx cx ys _ ((HBX.out _ HB.out).mono HB.out.size) hnx hcx (by omega) hxn).mono ?_); rintro o z ⟨p1, s1, k1, n1, a1, m1, c1, u1, t1, wd1, h1, x1, y1, at1, E1, rfl, hb, hr⟩; have HR := Hk.mk hr; clear hr; have HZ := hb; replace HB := Hk.mk (kw_step HB.out L0 hb); clear hb d0 d1 d2 d3 d4 d5 d6 d7 d8 d9 d10; obtain ⟨d0, d1, d2, d3, d4, d5, d6, d7, d8, d9, d10⟩ := HCE.out _ HB.out)
          | (go_at_call 19; (with_reducible refine (lawnum22_any _ _).mono ?_); rintro e w' ⟨rfl, rfl⟩))
        by_cases hE : E1 = 0
        case neg =>
          have dE : (E1 == 0) = false := by simpa using hE
          go_wp2_with fail
          exact ⟨⟨j + 1, by go_num, by omega, by omega, ⟨kw_al HB.out L0 _⟩⟩, by simp [intOf]; omega⟩
        subst hE
        obtain ⟨ho, hok, hbs, hat⟩ := HR.out rfl
        have hm64 : u1.length ≤ 64 := (okC_bd hok).2.2.2.2
        have hm1 : m1 ≤ 64 := by have := ho.1; omega
        have OK1 := Hk.mk hok
        have HBS1 := Hk.mk hbs
        have HBL1 : Hk ((ys.take at1).length = at1) := ⟨by rw [List.length_take, HXL.out]; omega⟩
        have HP := Hk.mk (Bk.new z #[.int .i64 p1, .int .i64 s1, .int .i64 k1, .int .i64 n1, .slice a1 m1 c1, .int .i64 t1, .int .i64 wd1, .int .i64 h1, .int .i64 x1, .int .i64 y1] 28)
        have HB2 := Hk.mk (kw_al HB.out L0 (.cells #[.int .i64 p1, .int .i64 s1, .int .i64 k1, .int .i64 n1, .slice a1 m1 c1, .int .i64 t1, .int .i64 wd1, .int .i64 h1, .int .i64 x1, .int .i64 y1] 28))
        have HO := Hk.mk (ho.below ((Below.refl _ _).alloc (Nat.le_refl _) (.cells #[.int .i64 p1, .int .i64 s1, .int .i64 k1, .int .i64 n1, .slice a1 m1 c1, .int .i64 t1, .int .i64 wd1, .int .i64 h1, .int .i64 x1, .int .i64 y1] 28)))
        clear ho hok hbs HR HZ HB hm64 d0 d1 d2 d3 d4 d5 d6 d7 d8 d9 d10
        generalize z.heap.size = Q at *
        generalize z.alloc (.cells #[.int .i64 p1, .int .i64 s1, .int .i64 k1, .int .i64 n1, .slice a1 m1 c1, .int .i64 t1, .int .i64 wd1, .int .i64 h1, .int .i64 x1, .int .i64 y1] 28) = VB at *
        have HB := HB2
        clear HB2
        obtain ⟨d0, d1, d2, d3, d4, d5, d6, d7, d8, d9, d10⟩ := HCE.out _ HB.out
        have e0 : VB.cell? ⟨Q, 0, none⟩ = some (.int .i64 p1) := HP.out.c 0
        have e1 : VB.cell? ⟨Q, 1, none⟩ = some (.int .i64 s1) := HP.out.c 1
        have e2 : VB.cell? ⟨Q, 2, none⟩ = some (.int .i64 k1) := HP.out.c 2
        have e3 : VB.cell? ⟨Q, 3, none⟩ = some (.int .i64 n1) := HP.out.c 3
        have e4 : VB.cell? ⟨Q, 4, none⟩ = some (.slice a1 m1 c1) := HP.out.c 4
        have e5 : VB.cell? ⟨Q, 5, none⟩ = some (.int .i64 t1) := HP.out.c 5
        have e6 : VB.cell? ⟨Q, 6, none⟩ = some (.int .i64 wd1) := HP.out.c 6
        have e7 : VB.cell? ⟨Q, 7, none⟩ = some (.int .i64 h1) := HP.out.c 7
        have e8 : VB.cell? ⟨Q, 8, none⟩ = some (.int .i64 x1) := HP.out.c 8
        have e9 : VB.cell? ⟨Q, 9, none⟩ = some (.int .i64 y1) := HP.out.c 9
        have da : decide ((nx : Int) < (at1 : Int)) = false := by simp; omega
        have i5 : (0 : Int) ≤ (at1 : Int) := by omega
        have i6 : (at1 : Int) ≤ (cx : Int) := by omega
        go_wp2_with (first
          | (go_at_call 17; (with_reducible refine (bytes22_as p1 s1 k1 n1 a1 m1 c1 u1 t1 wd1 h1 x1 y1 (ys.take at1) at1 _ (own_nq22 HO.out) (by omega) OK1 HBS1 HBL1).mono ?_); rintro e z ⟨v7, rfl, ho7, hb⟩; obtain ⟨a7, c7, rfl, -, hby7, -⟩ := ho7.by_; have HY7 := Hk.mk hby7; clear ho7 hby7 e0 e1 e2 e3 e4 e5 e6 e7 e8 e9; replace HB := Hk.mk (kw_step HB.out L0 hb); clear hb d0 d1 d2 d3 d4 d5 d6 d7 d8 d9 d10; obtain ⟨d0, d1, d2, d3, d4, d5, d6, d7, d8, d9, d10⟩ := HCE.out _ HB.out; have HY8 := Hk.mk (((HBX.out _ HB.out).mono HB.out.size).head hat))
          | (go_at_call 21; (with_reducible refine (eqb_yes a7 ax at1 c7 cx (ys.take at1) _ HY7.out HY8.out (by omega)).mono ?_); rintro e w' ⟨rfl, mm, rfl⟩)
          | (go_at_call 19; (with_reducible refine (lawnum22_any _ _).mono ?_); rintro e w' ⟨rfl, rfl⟩))
        exact ⟨⟨j + 1, by go_num, by omega, by omega, ⟨below_drewN HB.out _⟩⟩, by simp [intOf]; omega⟩
    · go_wp2_with (go_at_call 24; (with_reducible refine (wakes22_any _).mono ?_); rintro e w' ⟨rfl, hb⟩)
      all_goals
        go_ret
        exact ⟨rfl, kw_step HB.out L0 hb⟩

theorem commandBack_own : ownKnob Try.prog.godebug = none := by kernel_rfl
theorem commandBack_laidOut : laidOutB Try.prog = true := by kernel_rfl
set_option maxRecDepth 100000 in
theorem commandBack_lifted (os : Os) (started : os.Started) (H : Type) (enc : TypeId × Value → H) :
    ReturnsInHanded {} Try.checked os 4 .any (Rows.commandBackSpec.pre6 enc Try.prog Try.f4 Rows.commandBackRow.domain false) (Rows.commandBackSpec.post enc Try.prog Try.f4 false true false false) := by
  refine returnsInHanded_of_change (C := Try.checked) commandBack_own started (by kernel_rfl) Try.func4
    (ChangeSpec.witness6 (enc := enc) (C := Try.checked) false ⟨#[], #[.slice none 0 0], []⟩ 8 (by kernel_rfl) (by kernel_rfl) (by kernel_rfl) (by kernel_rfl)) ?_
  intro W base args ds gs before hval0 hW hcnd _
  have hval : ∀ (j : Nat) t v, Try.f4.params[j]? = some t → args[j]? = some v → Value.okWide Try.prog W .any base t v := hval0
  have hW' := hW
  obtain ⟨p, q, hA0, hV, rfl, hfz, hnd⟩ := hW
  have hA : DataW.TrodAll enc Try.prog W 0 (fun _ => true) true Try.f4.params.toList args.toList ds p := hA0
  rw [Try.params4] at hA hval
  obtain ⟨v0, vs0, d0, ds0, p0, q0, hargs, rfl, rfl, h0, r0⟩ := trodAll_cons hA
  obtain ⟨rfl, rfl, rfl⟩ := trodAll_nil r0
  obtain rfl : args = #[v0] := by cases args; simp_all
  obtain ⟨rfl, rfl⟩ := trodVars_none hV
  obtain ⟨a0, len0, cap0, rfl⟩ := okWide_slice Try.underlying22 (hval 0 22 v0 rfl rfl)
  have k0 := h0
  have lt0 : ∀ x ∈ p0, x.block < W.heap.size := by obtain ⟨m, hm⟩ := k0; exact DataW.trod_lt m _ _ _ hm
  have rows : Asks22 W a0 len0 cap0 := by obtain ⟨fuel, hf⟩ := h0; exact asks22_of hf
  clear hA0 hval0
  refine (commandBack_walk a0 len0 cap0 W rows).mono fun e W' ⟨he, bel⟩ => ?_
  subst he
  exact ⟨_, rfl, _, _, _, [], _, [], hW', trodAll_mk1 (shut_bool Try.underlying4 _), (trodAll_cons_mk (Below.trod commandBack_laidOut (by kernel_rfl) (of_decide_eq_true (by kernel_rfl)) k0 bel lt0) trodAll_mk0), rfl, bel.frame _, fun h => by cases h⟩
theorem commandBack_over : Rows.commandBackRow.holds Try.pinned (OpenSpec.ofChange Rows.commandBackSpec) :=
  OpenClaim.holds_of_wide 4 Try.f4 rfl rfl rfl rfl rfl rfl rfl ⟨rfl, rfl, rfl, rfl, rfl⟩ rfl rfl rfl rfl rfl (by kernel_rfl) Try.func4 (by kernel_rfl)
    (of_decide_eq_true (by kernel_rfl)) (by unfold Func.isWrapper; first | (rw [if_pos (by decide +kernel)]; kernel_rfl) | (rw [if_neg (by decide +kernel)]; exact ⟨rfl, rfl⟩))
    (fun os started H enc _ => commandBack_lifted os started H enc)
/-- The given statement of CommandBack. -/
theorem commandBack_holds : Rows.CommandBackSaid := commandBack_over
end Go.Proofs.Ytejilcnldllhpaa

