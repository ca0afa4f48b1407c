/- Layer 7: a map cut off; a byte turned: plain. -/
import Derived.Test.YtmkehmeoglpkeaaMpl
namespace Go.Proofs.Ytmkehmeoglpkeaa
open Go.RowKit
set_option linter.unusedVariables false
theorem takeA {A R : List Int} {k : Nat} (h : A.length ≤ k) : (A ++ R).take k = A ++ R.take (k - A.length) := by rw [List.take_append, List.take_of_length_le h]
theorem takeB {A R : List Int} {k : Nat} (h : k ≤ A.length) : (A ++ R).take k = A.take k := List.take_append_of_le_length h
theorem take_get0 {L : List Int} {j : Nat} : (L.take j).take (L.take j).length = L.take j := List.take_of_length_le (Nat.le_refl _)
theorem signS_cut (pre L : List Int) {j : Nat} (hj : j < L.length) : signS (pre ++ L.take j) L pre.length 0 = (pre.length + j, 11) := by
  have h1 := signS_hit (L.take j) pre []
  rw [List.append_nil] at h1
  have h2 : (L.take j).length = j := by simp; omega
  rw [h2] at h1
  exact signS_stop (x := L.getD j 0) hj h1 rfl (by rw [byteS_cut (by simp; omega)]) (by omega)
theorem rdV_cut {W : Int} (pre : List Int) (hW : W ≤ 128) {j : Nat} (hj : j < (Wr.numL W.toNat).length) : rdV false (pre ++ (Wr.numL W.toNat).take j) 1 128 pre.length 0 = (0, pre.length, 11) := by
  unfold rdV
  rw [List.drop_left, Wr.getS_cut (by omega) hj]
  unfold stpC
  simp
theorem tileS_cut (pre ts : List Int) (h : ∀ x ∈ ts, 0 ≤ x ∧ x ≤ 5) {j : Nat} (hj : j < ts.length) : (tileS (pre ++ ts.take j) ts.length pre.length 0).2 = (pre.length + j, 11) := by
  have h2 : (ts.take j).length = j := by simp; omega
  have h1 := tileS_hit (ts.take j) pre [] (fun x hx => h x (List.mem_of_mem_take hx)) j (by omega)
  rw [List.append_nil] at h1
  exact tileS_stop hj h1 (by rw [byteS_cut (by simp; omega)]) (by omega)
theorem hashS_cut (pre : List Int) {j : Nat} (hj : j < 8) : hashS (pre ++ (Mp.eight (Mp.hash pre)).take j) pre.length 0 = (pre.length + j, 11) := by
  unfold hashS
  rw [if_neg (by omega), List.take_left]
  exact signS_cut pre _ (by rw [Mp.eight_len]; exact hj)
/-- A map that is cut off. -/
theorem mapS_cut {W H : Int} {ts : List Int} (w1 : 1 ≤ W) (w2 : W ≤ 128) (h1 : 1 ≤ H) (h2 : H ≤ 128) (hl : (ts.length : Int) = W * H) (ht : ∀ x ∈ ts, 0 ≤ x ∧ x ≤ 5) {k : Nat} (hk : k < (Mp.mapL W H ts).length) :
    mapS ((Mp.mapL W H ts).take k) = (0, 0, [], 11) := by
  obtain ⟨b, hb⟩ : ∃ b, Mp.mapB W H ts = b := ⟨_, rfl⟩
  have eb : b = [84, 71] ++ Wr.numL W.toNat ++ Wr.numL H.toNat ++ ts := by rw [← hb]; rfl
  have ebb : ∀ E : List Int, b ++ E = [84, 71] ++ (Wr.numL W.toNat ++ (Wr.numL H.toNat ++ (ts ++ E))) := fun E => by rw [eb]; simp
  have e0 : Mp.mapL W H ts = [84, 71] ++ (Wr.numL W.toNat ++ (Wr.numL H.toNat ++ (ts ++ Mp.eight (Mp.hash b)))) := by
    rw [← ebb]; unfold Mp.mapL; rw [hb]
  have hlen : (Mp.mapL W H ts).length = 2 + (Wr.numL W.toNat).length + (Wr.numL H.toNat).length + ts.length + 8 := by
    rw [e0]; simp [Mp.eight_len]; omega
  rw [hlen] at hk
  have hN : (W * H).toNat = ts.length := by omega
  have p2 : ([84, 71] : List Int).length = 2 := rfl
  by_cases c1 : k < 2
  · have e1 : (Mp.mapL W H ts).take k = [] ++ ([84, 71] : List Int).take k := by rw [e0, takeB (by rw [p2]; omega)]; rfl
    rw [e1]
    exact mapS_1 (signS_cut [] [84, 71] c1) (by omega)
  obtain ⟨k1, rfl⟩ : ∃ k1, k = 2 + k1 := ⟨k - 2, by omega⟩
  rw [e0, takeA (by rw [p2]; omega), p2, Nat.add_sub_cancel_left]
  have s1 : ∀ R : List Int, signS ([84, 71] ++ R) [84, 71] 0 0 = (2, 0) := fun R => signS_hit [84, 71] [] R
  by_cases c2 : k1 < (Wr.numL W.toNat).length
  · rw [takeB (by omega)]
    exact mapS_2 (s1 _) (rdV_cut [84, 71] w2 c2) (by omega)
  obtain ⟨k2, rfl⟩ : ∃ k2, k1 = (Wr.numL W.toNat).length + k2 := ⟨k1 - (Wr.numL W.toNat).length, by omega⟩
  rw [takeA (by omega), Nat.add_sub_cancel_left]
  have s2 : ∀ R : List Int, rdV false ([84, 71] ++ (Wr.numL W.toNat ++ R)) 1 128 2 0 = (W, 2 + (Wr.numL W.toNat).length, 0) := fun R => rdV_hit w1 w2 [84, 71] R
  have p3 : ([84, 71] ++ Wr.numL W.toNat).length = 2 + (Wr.numL W.toNat).length := by simp; omega
  by_cases c3 : k2 < (Wr.numL H.toNat).length
  · rw [takeB (by omega)]
    have h9 := rdV_cut ([84, 71] ++ Wr.numL W.toNat) h2 c3
    rw [p3, List.append_assoc] at h9
    exact mapS_3 (s1 _) (s2 _) h9 (by omega)
  obtain ⟨k3, rfl⟩ : ∃ k3, k2 = (Wr.numL H.toNat).length + k3 := ⟨k2 - (Wr.numL H.toNat).length, by omega⟩
  rw [takeA (by omega), Nat.add_sub_cancel_left]
  have s3 : ∀ R : List Int, rdV false ([84, 71] ++ (Wr.numL W.toNat ++ (Wr.numL H.toNat ++ R))) 1 128 (2 + (Wr.numL W.toNat).length) 0 = (H, 2 + (Wr.numL W.toNat).length + (Wr.numL H.toNat).length, 0) := fun R => by
    have h9 := rdV_hit h1 h2 ([84, 71] ++ Wr.numL W.toNat) R
    rw [p3, List.append_assoc] at h9
    exact h9
  have p4 : ([84, 71] ++ Wr.numL W.toNat ++ Wr.numL H.toNat).length = 2 + (Wr.numL W.toNat).length + (Wr.numL H.toNat).length := by simp; omega
  by_cases c4 : k3 < ts.length
  · rw [takeB (by omega)]
    have h9 := tileS_cut ([84, 71] ++ Wr.numL W.toNat ++ Wr.numL H.toNat) ts ht c4
    rw [p4, List.append_assoc, List.append_assoc] at h9
    exact mapS_4 (s1 _) (s2 _) (s3 _) hN h9 (by omega)
  obtain ⟨k4, rfl⟩ : ∃ k4, k3 = ts.length + k4 := ⟨k3 - ts.length, by omega⟩
  rw [takeA (by omega), Nat.add_sub_cancel_left]
  have p5 : b.length = 2 + (Wr.numL W.toNat).length + (Wr.numL H.toNat).length + ts.length := by rw [eb]; simp; omega
  have s4 : (tileS ([84, 71] ++ (Wr.numL W.toNat ++ (Wr.numL H.toNat ++ (ts ++ (Mp.eight (Mp.hash b)).take k4)))) ts.length (2 + (Wr.numL W.toNat).length + (Wr.numL H.toNat).length) 0).2 = (b.length, 0) := by
    have h9 := tileS_hit ts ([84, 71] ++ Wr.numL W.toNat ++ Wr.numL H.toNat) ((Mp.eight (Mp.hash b)).take k4) ht ts.length (Nat.le_refl _)
    rw [p4, List.append_assoc, List.append_assoc] at h9
    rw [h9, p5]
  have h9 := hashS_cut b (j := k4) (by omega)
  have e9 : b ++ (Mp.eight (Mp.hash b)).take k4 = [84, 71] ++ (Wr.numL W.toNat ++ (Wr.numL H.toNat ++ (ts ++ (Mp.eight (Mp.hash b)).take k4))) := by
    conv => lhs; lhs; rw [eb]
    simp
  rw [e9] at h9
  exact mapS_5 (s1 _) (s2 _) (s3 _) hN s4 h9 (by omega)
theorem eight_inj {s t : Int} (hs : Fn.U64 s) (ht : Fn.U64 t) (h : Mp.eight s = Mp.eight t) : s = t := by
  have g : ∀ k, k < 8 → Mp.dig s k = Mp.dig t k := fun k hk => by rw [← Mp.eight_get s hk, ← Mp.eight_get t hk, h]
  have g0 := g 0 (by omega); have g1 := g 1 (by omega); have g2 := g 2 (by omega); have g3 := g 3 (by omega)
  have g4 := g 4 (by omega); have g5 := g 5 (by omega); have g6 := g 6 (by omega); have g7 := g 7 (by omega)
  unfold Mp.dig at g0 g1 g2 g3 g4 g5 g6 g7
  unfold Fn.U64 at hs ht
  simp at g0 g1 g2 g3 g4 g5 g6 g7
  omega
theorem mapL_byt {W H : Int} {ts : List Int} (ht : ∀ x ∈ ts, Fn.Byt x) : ∀ b ∈ Mp.mapL W H ts, Fn.Byt b := by
  intro b hb
  unfold Mp.mapL Mp.mapB at hb
  simp only [List.mem_append] at hb
  rcases hb with (((h | h) | h) | h) | h
  · simp at h; rcases h with rfl | rfl
    · exact b84
    · exact b71
  · exact Wr.numL_byt _ b h
  · exact Wr.numL_byt _ b h
  · exact ht b h
  · exact Mp.eight_byt _ b h
/-- A map of which one byte is turned is none. -/
theorem mapS_turned {W H : Int} {ts : List Int} (ht : ∀ x ∈ ts, Fn.Byt x) {k : Nat} {v : Int} (hk : k < (Mp.mapL W H ts).length) (hv : Fn.Byt v) (hne : v ≠ (Mp.mapL W H ts).getD k 0) {W' H' e : Int} {us : List Int}
    (h : mapS ((Mp.mapL W H ts).set k v) = (W', H', us, e)) : e ≠ 0 := by
  intro he
  subst he
  have hb := mapL_byt (W := W) (H := H) ht
  have hx : ∀ b ∈ (Mp.mapL W H ts).set k v, Fn.Byt b := fun b h1 => by
    rcases List.mem_or_eq_of_mem_set h1 with h2 | rfl
    · exact hb b h2
    · exact hv
  obtain ⟨e1, -, -, -, ht'⟩ := mapS_ok hx h
  obtain ⟨b, hB⟩ : ∃ b, Mp.mapB W H ts = b := ⟨_, rfl⟩
  obtain ⟨b', hB'⟩ : ∃ b', Mp.mapB W' H' us = b' := ⟨_, rfl⟩
  have eL : Mp.mapL W H ts = b ++ Mp.eight (Mp.hash b) := by unfold Mp.mapL; rw [hB]
  have eL' : Mp.mapL W' H' us = b' ++ Mp.eight (Mp.hash b') := by unfold Mp.mapL; rw [hB']
  rw [eL] at hk hne
  rw [eL, eL'] at e1
  have hlen : b.length = b'.length := by
    have := congrArg List.length e1
    simp [Mp.eight_len] at this
    exact this
  have hbb : ∀ x ∈ b, Fn.Byt x := fun x hxb => hb x (by rw [eL]; exact List.mem_append_left _ hxb)
  by_cases c1 : k < b.length
  · rw [List.set_append_left _ _ c1] at e1
    obtain ⟨e2, e3⟩ := List.append_inj e1 (by simp [hlen])
    have e4 := eight_inj (Mp.hash_u64 _) (Mp.hash_u64 _) e3
    rw [← e2] at e4
    refine Fn.sum_changed Mp.start_u64 hbb c1 hv ?_ e4.symm
    intro e5
    apply hne
    rw [e5]
    simp [List.getD, List.getElem?_append_left c1]
  · rw [List.set_append_right _ _ (by omega)] at e1
    obtain ⟨e2, e3⟩ := List.append_inj e1 hlen
    subst e2
    apply hne
    have hk2 : k - b.length < (Mp.eight (Mp.hash b)).length := by rw [Mp.eight_len]; simp [Mp.eight_len] at hk; omega
    have e4 := congrArg (fun l => l.getD (k - b.length) 0) e3
    simp only [List.getD, List.getElem?_set_self hk2] at e4
    simp only [List.getD, List.getElem?_append_right (show b.length ≤ k by omega)]
    simpa using e4
end Go.Proofs.Ytmkehmeoglpkeaa
