import Derived.Test.YtmfdhcnnhlchbaaGreatC21
import Derived.Deep.Cut
namespace Go.Proofs.YtmfdhcnnhlchbaaGreat
open Go.RowKit Go.Sort

section
variable (a b s i k : Nat) (d : Array Int)
theorem ss_on (h : i < b) (hp : ltInt d[i]! d[i - 1]! = false) : scanSorted ltInt d b i = scanSorted ltInt d b (i + 1) := by
  conv => lhs; unfold scanSorted
  rw [if_pos (by simp [h, hp])]
theorem ss_out (h : ¬ i < b ∨ ltInt d[i]! d[i - 1]! = true) : scanSorted ltInt d b i = i := by
  unfold scanSorted
  rw [if_neg]
  rcases h with h | h
  · simp [h]
  · simp [h]
theorem sd_on (h : 1 ≤ k) (hp : ltInt d[k]! d[k - 1]! = true) : shiftDown ltInt k d = shiftDown ltInt (k - 1) (swp d k (k - 1)) := by
  cases k with
  | zero => omega
  | succ k =>
    rw [Nat.add_sub_cancel] at hp ⊢
    conv => lhs; unfold shiftDown
    rw [if_neg (by simp [hp])]
theorem sd_out (h : k = 0 ∨ ltInt d[k]! d[k - 1]! = false) : shiftDown ltInt k d = d := by
  cases k with
  | zero => rfl
  | succ k =>
    rw [Nat.add_sub_cancel] at h
    unfold shiftDown
    rw [if_pos]
    rcases h with h | h
    · omega
    · simp [h]
theorem su_on (h : k < b) (hp : ltInt d[k]! d[k - 1]! = true) : shiftUp ltInt b k d = shiftUp ltInt b (k + 1) (swp d k (k - 1)) := by
  conv => lhs; unfold shiftUp
  rw [if_pos h, if_neg (by simp [hp])]
theorem su_out (h : ¬ k < b ∨ ltInt d[k]! d[k - 1]! = false) : shiftUp ltInt b k d = d := by
  unfold shiftUp
  by_cases hk : k < b
  · rw [if_pos hk, if_pos]
    rcases h with h | h
    · exact absurd hk h
    · simp [h]
  · rw [if_neg hk]
theorem pins_true (h : scanSorted ltInt d b i = b) : partialIns ltInt a b (s + 1) i d = (d, true) := by
  unfold partialIns
  simp only [h]
  rw [if_pos trivial]
theorem pins_false {i2 : Nat} (h : scanSorted ltInt d b i = i2) (hne : ¬ i2 = b) (hl : b - a < 50) : partialIns ltInt a b (s + 1) i d = (d, false) := by
  unfold partialIns
  simp only [h]
  rw [if_neg hne, if_pos hl]
theorem pins_on {i2 : Nat} {d2 d3 : Array Int} (h : scanSorted ltInt d b i = i2) (hne : ¬ i2 = b) (hl : ¬ b - a < 50) (h2 : (if i2 - a ≥ 2 then shiftDown ltInt (i2 - 1) (swp d i2 (i2 - 1)) else swp d i2 (i2 - 1)) = d2) (h3 : (if b - i2 ≥ 2 then shiftUp ltInt b (i2 + 1) d2 else d2) = d3) :
    partialIns ltInt a b (s + 1) i d = partialIns ltInt a b s i2 d3 := by
  conv => lhs; unfold partialIns
  simp only [h]
  rw [if_neg hne, if_neg hl, h2, h3]
end

set_option maxRecDepth 100000 in
set_option maxHeartbeats 16000000 in
/-- slices.partialInsertionSortOrdered. -/
theorem partIns_is {w : World} {g o N cap a b n : Nat} {d : Array Int} (hn : d.size = n) (h : RowAt w g o N d) (hab : a < b) (hb : b ≤ n) (hs : n < 1099511627776) :
    Calls Tryz.prog 102 #[.slice (some ⟨g, o, none⟩) n cap, .int .i64 a, .int .i64 b] w fun e w' => e = .returned (.bool (partialInsertionSort ltInt d a b).2) ∧ Sorted w g o N (partialInsertionSort ltInt d a b).1 w' := by
  obtain ⟨a1, e1⟩ : ∃ a1 : Nat, (a : Int) + 1 = a1 := ⟨a + 1, by omega⟩
  have u1 := wrap_i (n := a1) (by omega)
  obtain ⟨l, el⟩ : ∃ l : Nat, (b : Int) - a = l := ⟨b - a, by omega⟩
  have ul := wrap_i (n := l) (by omega)
  have HE : Hid (partialInsertionSort ltInt d a b = partialIns ltInt a b 5 a1 d) := by
    show partialInsertionSort ltInt d a b = _
    unfold partialInsertionSort
    rw [show a + 1 = a1 from by omega]
  go_enter Tryz.func102, Tryz.ntmps102
  go_wp2
  go_loopw [7, 8] (fun vi vj wr1 => ∃ (i j : Nat) (dk : Array Int), vi = .int .i64 i ∧ vj = .int .i64 j ∧ a + 1 ≤ i ∧ i ≤ b ∧ j ≤ 5 ∧ dk.size = n ∧ Sorted w g o N dk wr1 ∧ partialIns ltInt a b (5 - j) i dk = partialIns ltInt a b 5 a1 d) (fun vi vj _ => (5 - intV vj).toNat)
  case atStart => exact ⟨a1, 0, d, rfl, rfl, by omega, by omega, by omega, hn, Sorted.start h, rfl⟩
  case round =>
    obtain ⟨i, j, dk, rfl, rfl, hai, hib, hj5, hsk, hSk, hO⟩ := hrel
    have HO : Hid (partialIns ltInt a b (5 - j) i dk = partialIns ltInt a b 5 a1 d) := hO
    have HS : Hid (Sorted w g o N dk wr) := hSk
    obtain ⟨G, hG⟩ : ∃ G : Nat → Int, ∀ t, G t = dk[t]! := ⟨fun t => dk[t]!, fun _ => rfl⟩
    have HG : Hid (∀ t, G t = dk[t]!) := hG
    clear hG
    clear hO hSk
    by_cases hj : j < 5
    · have hj' : (j : Int) < 5 := by omega
      go_wp2
      go_loopw [7] (fun vi wr1 => ∃ i' : Nat, vi = .int .i64 i' ∧ i ≤ i' ∧ i' ≤ b ∧ Sorted w g o N dk wr1 ∧ scanSorted ltInt dk b i' = scanSorted ltInt dk b i) (fun vi _ => b - (intV vi).toNat)
      case atStart => exact ⟨i, rfl, Nat.le_refl _, hib, HS.out, rfl⟩
      case round =>
        obtain ⟨i', rfl, hi1, hi2, hSu, hEu⟩ := hrel
        have HSu : Hid (Sorted w g o N dk wr) := hSu
        have HEu : Hid (scanSorted ltInt dk b i' = scanSorted ltInt dk b i) := hEu
        clear hSu hEu
        have hcu : ∀ t, t < n → wr.cell? ⟨g, o + t, none⟩ = some (.int .u64 (G t)) := fun t ht => by rw [HG.out]; exact HSu.out.row.cell t (by omega)
        have hfu : ∀ t, t < n → wr.frozen? ⟨g, o + t, none⟩ = false := fun t ht => HSu.out.row.free t (by omega)
        obtain ⟨i0, e0⟩ : ∃ i0 : Nat, (i' : Int) - 1 = i0 := ⟨i' - 1, by omega⟩
        have ei0 : i' - 1 = i0 := by omega
        have ui := wrap_i (n := i0) (by omega)
        by_cases hle : i' < b
        · have nib : (((i' : Nat) : Int) == (b : Int)) = false := by rw [beq_eq_false_iff_ne]; omega
          have nib2 : ¬ ((i' : Nat) : Int) = (b : Int) := by omega
          have nib3 : ¬ i' = b := by omega
          by_cases h50 : b - a < 50
          · have h51 : (l : Int) < 50 := by omega
            go_wp2
            go_quiet (first | (go_at_call 103; refine Calls.quiet_of_same (less_is _ _ _)))
            go_wp2
            · have hp : ltInt (G i') (G i0) = false := of_not (by assumption)
              go_roundw
              case rel =>
                refine ⟨i' + 1, by go_num, by omega, by omega, HSu.out.drewN nq, ?_⟩
                rw [← HEu.out]
                exact (ss_on b i' dk hle (by rw [ei0, ← HG.out, ← HG.out]; exact hp)).symm
              case measure => simp [intV]; omega
            · have hp : ltInt (G i') (G i0) = true := of_nnot (by assumption)
              have HU : Hid (scanSorted ltInt dk b i = i') := by
                show scanSorted ltInt dk b i = i'
                rw [← HEu.out]
                exact ss_out b i' dk (.inr (by rw [ei0, ← HG.out, ← HG.out]; exact hp))
              go_ret
              rw [HE.out, ← HO.out, show 5 - j = 5 - (j + 1) + 1 from by omega, pins_false a b _ i dk HU.out nib3 h50]
              exact ⟨rfl, HSu.out.drewN nq⟩
          · have h51 : ¬ (l : Int) < 50 := by omega
            go_wp2
            go_quiet (first | (go_at_call 103; refine Calls.quiet_of_same (less_is _ _ _)))
            go_wp2
            · have hp : ltInt (G i') (G i0) = false := of_not (by assumption)
              go_roundw
              case rel =>
                refine ⟨i' + 1, by go_num, by omega, by omega, HSu.out.drewN nq, ?_⟩
                rw [← HEu.out]
                exact (ss_on b i' dk hle (by rw [ei0, ← HG.out, ← HG.out]; exact hp)).symm
              case measure => simp [intV]; omega
            · have hp : ltInt (G i') (G i0) = true := of_nnot (by assumption)
              have HU : Hid (scanSorted ltInt dk b i = i') := by
                show scanSorted ltInt dk b i = i'
                rw [← HEu.out]
                exact ss_out b i' dk (.inr (by rw [ei0, ← HG.out, ← HG.out]; exact hp))
              obtain ⟨wx, ewx⟩ : ∃ y : World, y = wr.drewN nq := ⟨_, rfl⟩
              rw [← ewx]
              have HSv : Hid (Sorted w g o N dk wx) := by rw [ewx]; exact HSu.out.drewN nq
              clear ewx
              have hcx : ∀ t, t < n → wx.cell? ⟨g, o + t, none⟩ = some (.int .u64 (G t)) := fun t ht => by rw [HG.out]; exact HSv.out.row.cell t (by omega)
              have hfx : ∀ t, t < n → wx.frozen? ⟨g, o + t, none⟩ = false := fun t ht => HSv.out.row.free t (by omega)
              have n1 : ¬ i' = i0 := by omega
              have n2 : ¬ i0 = i' := by omega
              obtain ⟨ia, eia⟩ : ∃ m : Nat, (i' : Int) - a = m := ⟨i' - a, by omega⟩
              obtain ⟨bi, ebi⟩ : ∃ m : Nat, (b : Int) - i' = m := ⟨b - i', by omega⟩
              have uia := wrap_i (n := ia) (by omega)
              have ubi := wrap_i (n := bi) (by omega)
              obtain ⟨d1, ed1⟩ : ∃ d1, d1 = swp dk i' i0 := ⟨_, rfl⟩
              have hs1 : d1.size = n := by rw [ed1, size_swp]; exact hsk
              obtain ⟨wz1, ewz1⟩ : ∃ y : World, y = (wx.drew.setCell ⟨g, o + i', none⟩ (.int .u64 (G i0))).setCell ⟨g, o + i0, none⟩ (.int .u64 (G i')) := ⟨_, rfl⟩
              have HS1 : Hid (Sorted w g o N d1 wz1) := by
                show Sorted w g o N d1 wz1
                rw [ewz1, ed1]
                simp only [HG.out]
                exact HSv.out.drew.swap (by omega) (by omega)
              go_region
              change Exit.then _ _ _ _ ((wx.drew.setCell ⟨g, o + i', none⟩ (.int .u64 (G i0))).setCell ⟨g, o + i0, none⟩ (.int .u64 (G i')))
              rw [← ewz1]
              clear ewz1
              by_cases hbi : 2 ≤ b - i'
              · have hbi2 : (2 : Int) ≤ bi := by omega
                have hbi3 : ¬ ((bi : Int) < 2) := by omega
                by_cases hia : 2 ≤ i' - a
                · have hia2 : (2 : Int) ≤ ia := by omega
                  have hia3 : ¬ ((ia : Int) < 2) := by omega
                  go_wp2
                  go_loopw [9] (fun vk wr1 => ∃ (k : Nat) (dq : Array Int), vk = .int .i64 k ∧ k ≤ i0 ∧ dq.size = n ∧ Sorted w g o N dq wr1 ∧ shiftDown ltInt k dq = shiftDown ltInt i0 d1) (fun vk _ => (intV vk).toNat)
                  case atStart => exact ⟨i0, d1, rfl, Nat.le_refl _, hs1, HS1.out, rfl⟩
                  case round =>
                    obtain ⟨k, dq, rfl, hk1, hsq, hSq, hEq⟩ := hrel
                    have HSq : Hid (Sorted w g o N dq wr) := hSq
                    have HEq : Hid (shiftDown ltInt k dq = shiftDown ltInt i0 d1) := hEq
                    clear hSq hEq
                    obtain ⟨Gq, hGq⟩ : ∃ G : Nat → Int, ∀ t, G t = dq[t]! := ⟨fun t => dq[t]!, fun _ => rfl⟩
                    have HGq : Hid (∀ t, Gq t = dq[t]!) := hGq
                    clear hGq
                    have hcq : ∀ t, t < n → wr.cell? ⟨g, o + t, none⟩ = some (.int .u64 (Gq t)) := fun t ht => by rw [HGq.out]; exact HSq.out.row.cell t (by omega)
                    have hfq : ∀ t, t < n → wr.frozen? ⟨g, o + t, none⟩ = false := fun t ht => HSq.out.row.free t (by omega)
                    by_cases hk0 : 1 ≤ k
                    · obtain ⟨k0, ek0⟩ : ∃ k0 : Nat, (k : Int) - 1 = k0 := ⟨k - 1, by omega⟩
                      have ek1 : k - 1 = k0 := by omega
                      have uk := wrap_i (n := k0) (by omega)
                      have nk : ¬ k = k0 := by omega
                      have nk2 : ¬ k0 = k := by omega
                      have hk02 : (1 : Int) ≤ k := by omega
                      go_wp2
                      go_quiet (first | (go_at_call 103; refine Calls.quiet_of_same (less_is _ _ _)))
                      go_wp2
                      · have hl : ltInt (Gq k) (Gq k0) = false := of_not (by assumption)
                        obtain ⟨d2, ed2⟩ : ∃ d2, d2 = dq := ⟨_, rfl⟩
                        have hs2 : d2.size = n := by rw [ed2]; exact hsq
                        have E2 : Hid ((if i' - a ≥ 2 then shiftDown ltInt (i' - 1) (swp dk i' (i' - 1)) else swp dk i' (i' - 1)) = d2) := by
                          show (if i' - a ≥ 2 then shiftDown ltInt (i' - 1) (swp dk i' (i' - 1)) else swp dk i' (i' - 1)) = d2
                          rw [ei0, ← ed1, if_pos hia, ← HEq.out, sd_out k dq (.inr (by rw [ek1, ← HGq.out, ← HGq.out]; exact hl)), ed2]
                        obtain ⟨wz, ewz⟩ : ∃ y : World, y = wr.drewN nq := ⟨_, rfl⟩
                        rw [← ewz]
                        have HS2 : Hid (Sorted w g o N d2 wz) := by
                          show Sorted w g o N d2 wz
                          rw [ewz, ed2]
                          exact HSq.out.drewN nq
                        clear ewz
                        obtain ⟨G2, hG2⟩ : ∃ G : Nat → Int, ∀ t, G t = d2[t]! := ⟨fun t => d2[t]!, fun _ => rfl⟩
                        have HG2 : Hid (∀ t, G2 t = d2[t]!) := hG2
                        clear hG2
                        go_loopw [10] (fun vk wr1 => ∃ (k : Nat) (dj : Array Int), vk = .int .i64 k ∧ i' + 1 ≤ k ∧ k ≤ b ∧ dj.size = n ∧ Sorted w g o N dj wr1 ∧ shiftUp ltInt b k dj = shiftUp ltInt b (i' + 1) d2) (fun vk _ => b - (intV vk).toNat)
                        case atStart => exact ⟨i' + 1, d2, by go_num, Nat.le_refl _, by omega, hs2, HS2.out, rfl⟩
                        case round =>
                          obtain ⟨k, dj, rfl, hk1, hk2, hsj, hSj, hEj⟩ := hrel
                          have HSj : Hid (Sorted w g o N dj wr) := hSj
                          have HEj : Hid (shiftUp ltInt b k dj = shiftUp ltInt b (i' + 1) d2) := hEj
                          clear hSj hEj
                          obtain ⟨Gj, hGj⟩ : ∃ G : Nat → Int, ∀ t, G t = dj[t]! := ⟨fun t => dj[t]!, fun _ => rfl⟩
                          have HGj : Hid (∀ t, Gj t = dj[t]!) := hGj
                          clear hGj
                          have hcj : ∀ t, t < n → wr.cell? ⟨g, o + t, none⟩ = some (.int .u64 (Gj t)) := fun t ht => by rw [HGj.out]; exact HSj.out.row.cell t (by omega)
                          have hfj : ∀ t, t < n → wr.frozen? ⟨g, o + t, none⟩ = false := fun t ht => HSj.out.row.free t (by omega)
                          by_cases hkb : k < b
                          · obtain ⟨k0, ek0⟩ : ∃ k0 : Nat, (k : Int) - 1 = k0 := ⟨k - 1, by omega⟩
                            have ek1 : k - 1 = k0 := by omega
                            have uk := wrap_i (n := k0) (by omega)
                            have nk : ¬ k = k0 := by omega
                            have nk2 : ¬ k0 = k := by omega
                            go_wp2
                            go_quiet (first | (go_at_call 103; refine Calls.quiet_of_same (less_is _ _ _)))
                            go_wp2
                            · have hl : ltInt (Gj k) (Gj k0) = false := of_not (by assumption)
                              obtain ⟨d3, ed3⟩ : ∃ d3, d3 = dj := ⟨_, rfl⟩
                              have hs3 : d3.size = n := by rw [ed3]; exact hsj
                              have E3 : Hid ((if b - i' ≥ 2 then shiftUp ltInt b (i' + 1) d2 else d2) = d3) := by
                                show (if b - i' ≥ 2 then shiftUp ltInt b (i' + 1) d2 else d2) = d3
                                rw [if_pos hbi, ← HEj.out, su_out b k dj (.inr (by rw [ek1, ← HGj.out, ← HGj.out]; exact hl)), ed3]
                              go_roundw
                              case rel =>
                                refine ⟨i', j + 1, d3, rfl, by go_num, by omega, by omega, by omega, hs3, by rw [ed3]; exact HSj.out.drewN nq, ?_⟩
                                rw [← HO.out, show 5 - j = 5 - (j + 1) + 1 from by omega, pins_on a b (5 - (j + 1)) i dk HU.out (by omega) (by omega) E2.out E3.out]
                              case measure => simp [intV]; omega
                            · have hl : ltInt (Gj k) (Gj k0) = true := of_nnot (by assumption)
                              go_region
                              all_goals go_wp2
                              go_roundw
                              case rel =>
                                refine ⟨k + 1, swp dj k k0, by go_num, by omega, by omega, by rw [size_swp]; exact hsj, ?_, ?_⟩
                                · rw [HGj.out, HGj.out]
                                  exact (HSj.out.drewN (nq + 1)).swap (by omega) (by omega)
                                · rw [← HEj.out, su_on b k dj hkb (by rw [ek1, ← HGj.out, ← HGj.out]; exact hl), ek1]
                              case measure => simp [intV]; omega
                          · go_wp2
                            obtain ⟨d3, ed3⟩ : ∃ d3, d3 = dj := ⟨_, rfl⟩
                            have hs3 : d3.size = n := by rw [ed3]; exact hsj
                            have E3 : Hid ((if b - i' ≥ 2 then shiftUp ltInt b (i' + 1) d2 else d2) = d3) := by
                              show (if b - i' ≥ 2 then shiftUp ltInt b (i' + 1) d2 else d2) = d3
                              rw [if_pos hbi, ← HEj.out, su_out b k dj (.inl hkb), ed3]
                            go_roundw
                            case rel =>
                              refine ⟨i', j + 1, d3, rfl, by go_num, by omega, by omega, by omega, hs3, by rw [ed3]; exact HSj.out, ?_⟩
                              rw [← HO.out, show 5 - j = 5 - (j + 1) + 1 from by omega, pins_on a b (5 - (j + 1)) i dk HU.out (by omega) (by omega) E2.out E3.out]
                            case measure => simp [intV]; omega

                      · have hl : ltInt (Gq k) (Gq k0) = true := of_nnot (by assumption)
                        go_region
                        all_goals go_wp2
                        go_roundw
                        case rel =>
                          refine ⟨k0, swp dq k k0, rfl, by omega, by rw [size_swp]; exact hsq, ?_, ?_⟩
                          · rw [HGq.out, HGq.out]
                            exact (HSq.out.drewN (nq + 1)).swap (by omega) (by omega)
                          · rw [← HEq.out, sd_on k dq hk0 (by rw [ek1, ← HGq.out, ← HGq.out]; exact hl), ek1]
                        case measure => simp [intV]; omega
                    · have hk02 : ¬ (1 : Int) ≤ k := by omega
                      go_wp2
                      obtain ⟨d2, ed2⟩ : ∃ d2, d2 = dq := ⟨_, rfl⟩
                      have hs2 : d2.size = n := by rw [ed2]; exact hsq
                      have E2 : Hid ((if i' - a ≥ 2 then shiftDown ltInt (i' - 1) (swp dk i' (i' - 1)) else swp dk i' (i' - 1)) = d2) := by
                        show (if i' - a ≥ 2 then shiftDown ltInt (i' - 1) (swp dk i' (i' - 1)) else swp dk i' (i' - 1)) = d2
                        rw [ei0, ← ed1, if_pos hia, ← HEq.out, sd_out k dq (.inl (by omega)), ed2]
                      obtain ⟨wz, ewz⟩ : ∃ y : World, y = wr := ⟨_, rfl⟩
                      rw [← ewz]
                      have HS2 : Hid (Sorted w g o N d2 wz) := by
                        show Sorted w g o N d2 wz
                        rw [ewz, ed2]
                        exact HSq.out
                      clear ewz
                      obtain ⟨G2, hG2⟩ : ∃ G : Nat → Int, ∀ t, G t = d2[t]! := ⟨fun t => d2[t]!, fun _ => rfl⟩
                      have HG2 : Hid (∀ t, G2 t = d2[t]!) := hG2
                      clear hG2
                      go_loopw [10] (fun vk wr1 => ∃ (k : Nat) (dj : Array Int), vk = .int .i64 k ∧ i' + 1 ≤ k ∧ k ≤ b ∧ dj.size = n ∧ Sorted w g o N dj wr1 ∧ shiftUp ltInt b k dj = shiftUp ltInt b (i' + 1) d2) (fun vk _ => b - (intV vk).toNat)
                      case atStart => exact ⟨i' + 1, d2, by go_num, Nat.le_refl _, by omega, hs2, HS2.out, rfl⟩
                      case round =>
                        obtain ⟨k, dj, rfl, hk1, hk2, hsj, hSj, hEj⟩ := hrel
                        have HSj : Hid (Sorted w g o N dj wr) := hSj
                        have HEj : Hid (shiftUp ltInt b k dj = shiftUp ltInt b (i' + 1) d2) := hEj
                        clear hSj hEj
                        obtain ⟨Gj, hGj⟩ : ∃ G : Nat → Int, ∀ t, G t = dj[t]! := ⟨fun t => dj[t]!, fun _ => rfl⟩
                        have HGj : Hid (∀ t, Gj t = dj[t]!) := hGj
                        clear hGj
                        have hcj : ∀ t, t < n → wr.cell? ⟨g, o + t, none⟩ = some (.int .u64 (Gj t)) := fun t ht => by rw [HGj.out]; exact HSj.out.row.cell t (by omega)
                        have hfj : ∀ t, t < n → wr.frozen? ⟨g, o + t, none⟩ = false := fun t ht => HSj.out.row.free t (by omega)
                        by_cases hkb : k < b
                        · obtain ⟨k0, ek0⟩ : ∃ k0 : Nat, (k : Int) - 1 = k0 := ⟨k - 1, by omega⟩
                          have ek1 : k - 1 = k0 := by omega
                          have uk := wrap_i (n := k0) (by omega)
                          have nk : ¬ k = k0 := by omega
                          have nk2 : ¬ k0 = k := by omega
                          go_wp2
                          go_quiet (first | (go_at_call 103; refine Calls.quiet_of_same (less_is _ _ _)))
                          go_wp2
                          · have hl : ltInt (Gj k) (Gj k0) = false := of_not (by assumption)
                            obtain ⟨d3, ed3⟩ : ∃ d3, d3 = dj := ⟨_, rfl⟩
                            have hs3 : d3.size = n := by rw [ed3]; exact hsj
                            have E3 : Hid ((if b - i' ≥ 2 then shiftUp ltInt b (i' + 1) d2 else d2) = d3) := by
                              show (if b - i' ≥ 2 then shiftUp ltInt b (i' + 1) d2 else d2) = d3
                              rw [if_pos hbi, ← HEj.out, su_out b k dj (.inr (by rw [ek1, ← HGj.out, ← HGj.out]; exact hl)), ed3]
                            go_roundw
                            case rel =>
                              refine ⟨i', j + 1, d3, rfl, by go_num, by omega, by omega, by omega, hs3, by rw [ed3]; exact HSj.out.drewN nq, ?_⟩
                              rw [← HO.out, show 5 - j = 5 - (j + 1) + 1 from by omega, pins_on a b (5 - (j + 1)) i dk HU.out (by omega) (by omega) E2.out E3.out]
                            case measure => simp [intV]; omega
                          · have hl : ltInt (Gj k) (Gj k0) = true := of_nnot (by assumption)
                            go_region
                            all_goals go_wp2
                            go_roundw
                            case rel =>
                              refine ⟨k + 1, swp dj k k0, by go_num, by omega, by omega, by rw [size_swp]; exact hsj, ?_, ?_⟩
                              · rw [HGj.out, HGj.out]
                                exact (HSj.out.drewN (nq + 1)).swap (by omega) (by omega)
                              · rw [← HEj.out, su_on b k dj hkb (by rw [ek1, ← HGj.out, ← HGj.out]; exact hl), ek1]
                            case measure => simp [intV]; omega
                        · go_wp2
                          obtain ⟨d3, ed3⟩ : ∃ d3, d3 = dj := ⟨_, rfl⟩
                          have hs3 : d3.size = n := by rw [ed3]; exact hsj
                          have E3 : Hid ((if b - i' ≥ 2 then shiftUp ltInt b (i' + 1) d2 else d2) = d3) := by
                            show (if b - i' ≥ 2 then shiftUp ltInt b (i' + 1) d2 else d2) = d3
                            rw [if_pos hbi, ← HEj.out, su_out b k dj (.inl hkb), ed3]
                          go_roundw
                          case rel =>
                            refine ⟨i', j + 1, d3, rfl, by go_num, by omega, by omega, by omega, hs3, by rw [ed3]; exact HSj.out, ?_⟩
                            rw [← HO.out, show 5 - j = 5 - (j + 1) + 1 from by omega, pins_on a b (5 - (j + 1)) i dk HU.out (by omega) (by omega) E2.out E3.out]
                          case measure => simp [intV]; omega

                · have hia2 : ¬ (2 : Int) ≤ ia := by omega
                  have hia3 : ((ia : Int) < 2) := by omega
                  go_wp2
                  obtain ⟨d2, ed2⟩ : ∃ d2, d2 = d1 := ⟨_, rfl⟩
                  have hs2 : d2.size = n := by rw [ed2]; exact hs1
                  have E2 : Hid ((if i' - a ≥ 2 then shiftDown ltInt (i' - 1) (swp dk i' (i' - 1)) else swp dk i' (i' - 1)) = d2) := by
                    show (if i' - a ≥ 2 then shiftDown ltInt (i' - 1) (swp dk i' (i' - 1)) else swp dk i' (i' - 1)) = d2
                    rw [ei0, ← ed1, if_neg hia, ed2]
                  obtain ⟨wz, ewz⟩ : ∃ y : World, y = wz1 := ⟨_, rfl⟩
                  rw [← ewz]
                  have HS2 : Hid (Sorted w g o N d2 wz) := by
                    show Sorted w g o N d2 wz
                    rw [ewz, ed2]
                    exact HS1.out
                  clear ewz
                  obtain ⟨G2, hG2⟩ : ∃ G : Nat → Int, ∀ t, G t = d2[t]! := ⟨fun t => d2[t]!, fun _ => rfl⟩
                  have HG2 : Hid (∀ t, G2 t = d2[t]!) := hG2
                  clear hG2
                  go_loopw [10] (fun vk wr1 => ∃ (k : Nat) (dj : Array Int), vk = .int .i64 k ∧ i' + 1 ≤ k ∧ k ≤ b ∧ dj.size = n ∧ Sorted w g o N dj wr1 ∧ shiftUp ltInt b k dj = shiftUp ltInt b (i' + 1) d2) (fun vk _ => b - (intV vk).toNat)
                  case atStart => exact ⟨i' + 1, d2, by go_num, Nat.le_refl _, by omega, hs2, HS2.out, rfl⟩
                  case round =>
                    obtain ⟨k, dj, rfl, hk1, hk2, hsj, hSj, hEj⟩ := hrel
                    have HSj : Hid (Sorted w g o N dj wr) := hSj
                    have HEj : Hid (shiftUp ltInt b k dj = shiftUp ltInt b (i' + 1) d2) := hEj
                    clear hSj hEj
                    obtain ⟨Gj, hGj⟩ : ∃ G : Nat → Int, ∀ t, G t = dj[t]! := ⟨fun t => dj[t]!, fun _ => rfl⟩
                    have HGj : Hid (∀ t, Gj t = dj[t]!) := hGj
                    clear hGj
                    have hcj : ∀ t, t < n → wr.cell? ⟨g, o + t, none⟩ = some (.int .u64 (Gj t)) := fun t ht => by rw [HGj.out]; exact HSj.out.row.cell t (by omega)
                    have hfj : ∀ t, t < n → wr.frozen? ⟨g, o + t, none⟩ = false := fun t ht => HSj.out.row.free t (by omega)
                    by_cases hkb : k < b
                    · obtain ⟨k0, ek0⟩ : ∃ k0 : Nat, (k : Int) - 1 = k0 := ⟨k - 1, by omega⟩
                      have ek1 : k - 1 = k0 := by omega
                      have uk := wrap_i (n := k0) (by omega)
                      have nk : ¬ k = k0 := by omega
                      have nk2 : ¬ k0 = k := by omega
                      go_wp2
                      go_quiet (first | (go_at_call 103; refine Calls.quiet_of_same (less_is _ _ _)))
                      go_wp2
                      · have hl : ltInt (Gj k) (Gj k0) = false := of_not (by assumption)
                        obtain ⟨d3, ed3⟩ : ∃ d3, d3 = dj := ⟨_, rfl⟩
                        have hs3 : d3.size = n := by rw [ed3]; exact hsj
                        have E3 : Hid ((if b - i' ≥ 2 then shiftUp ltInt b (i' + 1) d2 else d2) = d3) := by
                          show (if b - i' ≥ 2 then shiftUp ltInt b (i' + 1) d2 else d2) = d3
                          rw [if_pos hbi, ← HEj.out, su_out b k dj (.inr (by rw [ek1, ← HGj.out, ← HGj.out]; exact hl)), ed3]
                        go_roundw
                        case rel =>
                          refine ⟨i', j + 1, d3, rfl, by go_num, by omega, by omega, by omega, hs3, by rw [ed3]; exact HSj.out.drewN nq, ?_⟩
                          rw [← HO.out, show 5 - j = 5 - (j + 1) + 1 from by omega, pins_on a b (5 - (j + 1)) i dk HU.out (by omega) (by omega) E2.out E3.out]
                        case measure => simp [intV]; omega
                      · have hl : ltInt (Gj k) (Gj k0) = true := of_nnot (by assumption)
                        go_region
                        all_goals go_wp2
                        go_roundw
                        case rel =>
                          refine ⟨k + 1, swp dj k k0, by go_num, by omega, by omega, by rw [size_swp]; exact hsj, ?_, ?_⟩
                          · rw [HGj.out, HGj.out]
                            exact (HSj.out.drewN (nq + 1)).swap (by omega) (by omega)
                          · rw [← HEj.out, su_on b k dj hkb (by rw [ek1, ← HGj.out, ← HGj.out]; exact hl), ek1]
                        case measure => simp [intV]; omega
                    · go_wp2
                      obtain ⟨d3, ed3⟩ : ∃ d3, d3 = dj := ⟨_, rfl⟩
                      have hs3 : d3.size = n := by rw [ed3]; exact hsj
                      have E3 : Hid ((if b - i' ≥ 2 then shiftUp ltInt b (i' + 1) d2 else d2) = d3) := by
                        show (if b - i' ≥ 2 then shiftUp ltInt b (i' + 1) d2 else d2) = d3
                        rw [if_pos hbi, ← HEj.out, su_out b k dj (.inl hkb), ed3]
                      go_roundw
                      case rel =>
                        refine ⟨i', j + 1, d3, rfl, by go_num, by omega, by omega, by omega, hs3, by rw [ed3]; exact HSj.out, ?_⟩
                        rw [← HO.out, show 5 - j = 5 - (j + 1) + 1 from by omega, pins_on a b (5 - (j + 1)) i dk HU.out (by omega) (by omega) E2.out E3.out]
                      case measure => simp [intV]; omega

              · have hbi2 : ¬ (2 : Int) ≤ bi := by omega
                have hbi3 : ((bi : Int) < 2) := by omega
                by_cases hia : 2 ≤ i' - a
                · have hia2 : (2 : Int) ≤ ia := by omega
                  have hia3 : ¬ ((ia : Int) < 2) := by omega
                  go_wp2
                  go_loopw [9] (fun vk wr1 => ∃ (k : Nat) (dq : Array Int), vk = .int .i64 k ∧ k ≤ i0 ∧ dq.size = n ∧ Sorted w g o N dq wr1 ∧ shiftDown ltInt k dq = shiftDown ltInt i0 d1) (fun vk _ => (intV vk).toNat)
                  case atStart => exact ⟨i0, d1, rfl, Nat.le_refl _, hs1, HS1.out, rfl⟩
                  case round =>
                    obtain ⟨k, dq, rfl, hk1, hsq, hSq, hEq⟩ := hrel
                    have HSq : Hid (Sorted w g o N dq wr) := hSq
                    have HEq : Hid (shiftDown ltInt k dq = shiftDown ltInt i0 d1) := hEq
                    clear hSq hEq
                    obtain ⟨Gq, hGq⟩ : ∃ G : Nat → Int, ∀ t, G t = dq[t]! := ⟨fun t => dq[t]!, fun _ => rfl⟩
                    have HGq : Hid (∀ t, Gq t = dq[t]!) := hGq
                    clear hGq
                    have hcq : ∀ t, t < n → wr.cell? ⟨g, o + t, none⟩ = some (.int .u64 (Gq t)) := fun t ht => by rw [HGq.out]; exact HSq.out.row.cell t (by omega)
                    have hfq : ∀ t, t < n → wr.frozen? ⟨g, o + t, none⟩ = false := fun t ht => HSq.out.row.free t (by omega)
                    by_cases hk0 : 1 ≤ k
                    · obtain ⟨k0, ek0⟩ : ∃ k0 : Nat, (k : Int) - 1 = k0 := ⟨k - 1, by omega⟩
                      have ek1 : k - 1 = k0 := by omega
                      have uk := wrap_i (n := k0) (by omega)
                      have nk : ¬ k = k0 := by omega
                      have nk2 : ¬ k0 = k := by omega
                      have hk02 : (1 : Int) ≤ k := by omega
                      go_wp2
                      go_quiet (first | (go_at_call 103; refine Calls.quiet_of_same (less_is _ _ _)))
                      go_wp2
                      · have hl : ltInt (Gq k) (Gq k0) = false := of_not (by assumption)
                        obtain ⟨d2, ed2⟩ : ∃ d2, d2 = dq := ⟨_, rfl⟩
                        have hs2 : d2.size = n := by rw [ed2]; exact hsq
                        have E2 : Hid ((if i' - a ≥ 2 then shiftDown ltInt (i' - 1) (swp dk i' (i' - 1)) else swp dk i' (i' - 1)) = d2) := by
                          show (if i' - a ≥ 2 then shiftDown ltInt (i' - 1) (swp dk i' (i' - 1)) else swp dk i' (i' - 1)) = d2
                          rw [ei0, ← ed1, if_pos hia, ← HEq.out, sd_out k dq (.inr (by rw [ek1, ← HGq.out, ← HGq.out]; exact hl)), ed2]
                        obtain ⟨wz, ewz⟩ : ∃ y : World, y = wr.drewN nq := ⟨_, rfl⟩
                        rw [← ewz]
                        have HS2 : Hid (Sorted w g o N d2 wz) := by
                          show Sorted w g o N d2 wz
                          rw [ewz, ed2]
                          exact HSq.out.drewN nq
                        clear ewz
                        obtain ⟨d3, ed3⟩ : ∃ d3, d3 = d2 := ⟨_, rfl⟩
                        have hs3 : d3.size = n := by rw [ed3]; exact hs2
                        have E3 : Hid ((if b - i' ≥ 2 then shiftUp ltInt b (i' + 1) d2 else d2) = d3) := by
                          show (if b - i' ≥ 2 then shiftUp ltInt b (i' + 1) d2 else d2) = d3
                          rw [if_neg hbi, ed3]
                        go_roundw
                        case rel =>
                          refine ⟨i', j + 1, d3, rfl, by go_num, by omega, by omega, by omega, hs3, by rw [ed3]; exact HS2.out, ?_⟩
                          rw [← HO.out, show 5 - j = 5 - (j + 1) + 1 from by omega, pins_on a b (5 - (j + 1)) i dk HU.out (by omega) (by omega) E2.out E3.out]
                        case measure => simp [intV]; omega
                      · have hl : ltInt (Gq k) (Gq k0) = true := of_nnot (by assumption)
                        go_region
                        all_goals go_wp2
                        go_roundw
                        case rel =>
                          refine ⟨k0, swp dq k k0, rfl, by omega, by rw [size_swp]; exact hsq, ?_, ?_⟩
                          · rw [HGq.out, HGq.out]
                            exact (HSq.out.drewN (nq + 1)).swap (by omega) (by omega)
                          · rw [← HEq.out, sd_on k dq hk0 (by rw [ek1, ← HGq.out, ← HGq.out]; exact hl), ek1]
                        case measure => simp [intV]; omega
                    · have hk02 : ¬ (1 : Int) ≤ k := by omega
                      go_wp2
                      obtain ⟨d2, ed2⟩ : ∃ d2, d2 = dq := ⟨_, rfl⟩
                      have hs2 : d2.size = n := by rw [ed2]; exact hsq
                      have E2 : Hid ((if i' - a ≥ 2 then shiftDown ltInt (i' - 1) (swp dk i' (i' - 1)) else swp dk i' (i' - 1)) = d2) := by
                        show (if i' - a ≥ 2 then shiftDown ltInt (i' - 1) (swp dk i' (i' - 1)) else swp dk i' (i' - 1)) = d2
                        rw [ei0, ← ed1, if_pos hia, ← HEq.out, sd_out k dq (.inl (by omega)), ed2]
                      obtain ⟨wz, ewz⟩ : ∃ y : World, y = wr := ⟨_, rfl⟩
                      rw [← ewz]
                      have HS2 : Hid (Sorted w g o N d2 wz) := by
                        show Sorted w g o N d2 wz
                        rw [ewz, ed2]
                        exact HSq.out
                      clear ewz
                      obtain ⟨d3, ed3⟩ : ∃ d3, d3 = d2 := ⟨_, rfl⟩
                      have hs3 : d3.size = n := by rw [ed3]; exact hs2
                      have E3 : Hid ((if b - i' ≥ 2 then shiftUp ltInt b (i' + 1) d2 else d2) = d3) := by
                        show (if b - i' ≥ 2 then shiftUp ltInt b (i' + 1) d2 else d2) = d3
                        rw [if_neg hbi, ed3]
                      go_roundw
                      case rel =>
                        refine ⟨i', j + 1, d3, rfl, by go_num, by omega, by omega, by omega, hs3, by rw [ed3]; exact HS2.out, ?_⟩
                        rw [← HO.out, show 5 - j = 5 - (j + 1) + 1 from by omega, pins_on a b (5 - (j + 1)) i dk HU.out (by omega) (by omega) E2.out E3.out]
                      case measure => simp [intV]; omega
                · have hia2 : ¬ (2 : Int) ≤ ia := by omega
                  have hia3 : ((ia : Int) < 2) := by omega
                  go_wp2
                  obtain ⟨d2, ed2⟩ : ∃ d2, d2 = d1 := ⟨_, rfl⟩
                  have hs2 : d2.size = n := by rw [ed2]; exact hs1
                  have E2 : Hid ((if i' - a ≥ 2 then shiftDown ltInt (i' - 1) (swp dk i' (i' - 1)) else swp dk i' (i' - 1)) = d2) := by
                    show (if i' - a ≥ 2 then shiftDown ltInt (i' - 1) (swp dk i' (i' - 1)) else swp dk i' (i' - 1)) = d2
                    rw [ei0, ← ed1, if_neg hia, ed2]
                  obtain ⟨wz, ewz⟩ : ∃ y : World, y = wz1 := ⟨_, rfl⟩
                  rw [← ewz]
                  have HS2 : Hid (Sorted w g o N d2 wz) := by
                    show Sorted w g o N d2 wz
                    rw [ewz, ed2]
                    exact HS1.out
                  clear ewz
                  obtain ⟨d3, ed3⟩ : ∃ d3, d3 = d2 := ⟨_, rfl⟩
                  have hs3 : d3.size = n := by rw [ed3]; exact hs2
                  have E3 : Hid ((if b - i' ≥ 2 then shiftUp ltInt b (i' + 1) d2 else d2) = d3) := by
                    show (if b - i' ≥ 2 then shiftUp ltInt b (i' + 1) d2 else d2) = d3
                    rw [if_neg hbi, ed3]
                  go_roundw
                  case rel =>
                    refine ⟨i', j + 1, d3, rfl, by go_num, by omega, by omega, by omega, hs3, by rw [ed3]; exact HS2.out, ?_⟩
                    rw [← HO.out, show 5 - j = 5 - (j + 1) + 1 from by omega, pins_on a b (5 - (j + 1)) i dk HU.out (by omega) (by omega) E2.out E3.out]
                  case measure => simp [intV]; omega
        · have eib : i' = b := by omega
          have HU : Hid (scanSorted ltInt dk b i = b) := by
            show scanSorted ltInt dk b i = b
            rw [← HEu.out, ss_out b i' dk (.inl hle), eib]
          subst eib
          go_wp2
          go_quiet (first | (go_at_call 103; refine Calls.quiet_of_same (less_is _ _ _)))
          go_wp2
          go_ret
          rw [HE.out, ← HO.out, show 5 - j = 5 - (j + 1) + 1 from by omega, pins_true a i' _ i dk HU.out]
          exact ⟨rfl, HSu.out.drewN nq⟩
    · go_wp2
      go_ret
      rw [HE.out, ← HO.out, show 5 - j = 0 from by omega]
      exact ⟨rfl, HS.out⟩

end Go.Proofs.YtmfdhcnnhlchbaaGreat
