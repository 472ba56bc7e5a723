import Derived.Test.YtmfdhcnnhlchbaaGreatC25
namespace Go.Proofs.YtmfdhcnnhlchbaaGreat
open Go.RowKit Go.Sort

section
variable (a b pivot i j : Nat) (d dk : Array Int) {i2 j2 : Nat}
theorem pl_out (h1 : scanUp (fun x => ltInt x dk[a]!) dk j i = i2) (h2 : scanDown (fun x => !ltInt x dk[a]!) dk i2 j = j2) (h : j2 < i2) : partLoop ltInt a i j dk = (j2, dk) := by
  unfold partLoop
  simp only [h1, h2]
  rw [if_pos h]
theorem pl_on (h1 : scanUp (fun x => ltInt x dk[a]!) dk j i = i2) (h2 : scanDown (fun x => !ltInt x dk[a]!) dk i2 j = j2) (h : i2 ≤ j2) (hi : i ≤ i2) (hj : j2 ≤ j) : partLoop ltInt a i j dk = partLoop ltInt a (i2 + 1) (j2 - 1) (swp dk i2 j2) := by
  conv => lhs; unfold partLoop
  simp only [h1, h2]
  rw [if_neg (by omega), dif_pos (by omega)]
theorem part_out (h1 : scanUp (fun x => ltInt x (swp d a pivot)[a]!) (swp d a pivot) (b - 1) (a + 1) = i2) (h2 : scanDown (fun x => !ltInt x (swp d a pivot)[a]!) (swp d a pivot) i2 (b - 1) = j2) (h : j2 < i2) : partition ltInt d a b pivot = (j2, true, swp (swp d a pivot) j2 a) := by
  unfold partition
  simp only [h1, h2]
  rw [if_pos h]
theorem part_on (h1 : scanUp (fun x => ltInt x (swp d a pivot)[a]!) (swp d a pivot) (b - 1) (a + 1) = i2) (h2 : scanDown (fun x => !ltInt x (swp d a pivot)[a]!) (swp d a pivot) i2 (b - 1) = j2) (h : i2 ≤ j2) :
    partition ltInt d a b pivot = ((partLoop ltInt a (i2 + 1) (j2 - 1) (swp (swp d a pivot) i2 j2)).1, false, swp (partLoop ltInt a (i2 + 1) (j2 - 1) (swp (swp d a pivot) i2 j2)).2 (partLoop ltInt a (i2 + 1) (j2 - 1) (swp (swp d a pivot) i2 j2)).1 a) := by
  unfold partition
  simp only [h1, h2]
  rw [if_neg (by omega)]
end

set_option maxRecDepth 100000 in
set_option maxHeartbeats 16000000 in
/-- slices.partitionOrdered. -/
theorem part_is {w : World} {g o N cap a b pivot n : Nat} {d : Array Int} (hn : d.size = n) (h : RowAt w g o N d) (hap : a ≤ pivot) (hpb : pivot < b) (hb : b ≤ n) (hs : n < 1099511627776) :
    Calls Tryz.prog 105 #[.slice (some ⟨g, o, none⟩) n cap, .int .i64 a, .int .i64 b, .int .i64 pivot] w fun e w' => e = .returned (.tuple #[.int .i64 (partition ltInt d a b pivot).1, .bool (partition ltInt d a b pivot).2.1]) ∧ Sorted w g o N (partition ltInt d a b pivot).2.2 w' := by
  obtain ⟨j, e0⟩ : ∃ b1 : Nat, (b : Int) - 1 = b1 := ⟨b - 1, by omega⟩
  obtain ⟨i, e1⟩ : ∃ a1 : Nat, (a : Int) + 1 = a1 := ⟨a + 1, by omega⟩
  obtain ⟨b1, eb1⟩ : ∃ b1 : Nat, b1 = j := ⟨_, rfl⟩
  have e0' : b - 1 = j := by omega
  have e1' : a + 1 = i := by omega
  have u0 := wrap_i (n := j) (by omega)
  have u1 := wrap_i (n := i) (by omega)
  by_cases hpa : pivot = a
  · subst hpa
    go_enter Tryz.func105, Tryz.ntmps105
    obtain ⟨G0, hG0⟩ : ∃ G : Nat → Int, ∀ t, G t = d[t]! := ⟨fun t => d[t]!, fun _ => rfl⟩
    have hc0 : ∀ t, t < n → w.cell? ⟨g, o + t, none⟩ = some (.int .u64 (G0 t)) := fun t ht => by rw [hG0]; exact h.cell t (by omega)
    have hf0 : ∀ t, t < n → w.frozen? ⟨g, o + t, none⟩ = false := fun t ht => h.free t (by omega)
    have HG0 : Hid (∀ t, G0 t = d[t]!) := hG0
    have H0 : Hid (RowAt w g o N d) := h
    clear hG0 h
    go_wp2
    go_region
    all_goals go_wp2
    obtain ⟨dk, ed1⟩ : ∃ d1, d1 = swp d pivot pivot := ⟨_, rfl⟩
    have hs1 : dk.size = n := by rw [ed1, size_swp]; exact hn
    obtain ⟨w1, ew1⟩ : ∃ y : World, y = (w.drew.setCell ⟨g, o + pivot, none⟩ (.int .u64 (G0 pivot))).setCell ⟨g, o + pivot, none⟩ (.int .u64 (G0 pivot)) := ⟨_, rfl⟩
    have HS1 : Hid (Sorted w g o N dk w1) := by
      show Sorted w g o N dk w1
      rw [ew1, ed1]
      simp only [HG0.out]
      exact (Sorted.start H0.out).drew.swap (by omega) (by omega)
    change Code.wp _ _ _ _ ((w.drew.setCell ⟨g, o + pivot, none⟩ (.int .u64 (G0 pivot))).setCell ⟨g, o + pivot, none⟩ (.int .u64 (G0 pivot)))
    rw [← ew1]
    clear ew1
    obtain ⟨G, hG⟩ : ∃ G : Nat → Int, ∀ t, G t = dk[t]! := ⟨fun t => dk[t]!, fun _ => rfl⟩
    have HG : Hid (∀ t, G t = dk[t]!) := hG
    have HS := HS1
    have hsk := hs1
    clear hG
    go_wp2
    go_loopw [10] (fun vi wr1 => ∃ i' : Nat, vi = .int .i64 i' ∧ i ≤ i' ∧ (i' ≤ j + 1 ∨ i' = i) ∧ Sorted w g o N dk wr1 ∧ scanUp (fun x => ltInt x dk[pivot]!) dk j i' = scanUp (fun x => ltInt x dk[pivot]!) dk j i) (fun vi _ => j + 1 - (intV vi).toNat)
    case atStart => exact ⟨i, rfl, Nat.le_refl _, .inr rfl, HS.out, rfl⟩
    case round =>
      obtain ⟨i', rfl, hi1, hi2, hSu, hEu⟩ := hrel
      have HSu : Hid (Sorted w g o N dk wr) := hSu
      have HEu : Hid (scanUp (fun x => ltInt x dk[pivot]!) dk j i' = scanUp (fun x => ltInt x dk[pivot]!) dk j i) := hEu
      clear hSu hEu
      have hcu : ∀ t, t < n → wr.cell? ⟨g, o + t, none⟩ = some (.int .u64 (G t)) := fun t ht => by rw [HG.out]; exact HSu.out.row.cell t (by omega)
      have hfu : ∀ t, t < n → wr.frozen? ⟨g, o + t, none⟩ = false := fun t ht => HSu.out.row.free t (by omega)
      by_cases hle : i' ≤ j
      · go_wp2
        go_quiet (first | (go_at_call 103; refine Calls.quiet_of_same (less_is _ _ _)))
        go_wp2
        · have hp : ltInt (G i') (G pivot) = true := by assumption
          go_roundw
          case rel =>
            refine ⟨i' + 1, by go_num, by omega, by omega, HSu.out.drewN nq, ?_⟩
            rw [← HEu.out]
            exact (scan_up_on (fun x => ltInt x dk[pivot]!) dk j i' hle (by simpa [HG.out] using hp)).symm
          case measure => simp [intV]; omega
        · have hp : ltInt (G i') (G pivot) = false := by assumption
          have HU : Hid (scanUp (fun x => ltInt x dk[pivot]!) dk j i = i') := by
            show scanUp (fun x => ltInt x dk[pivot]!) dk j i = i'
            rw [← HEu.out]
            exact scan_up_out (fun x => ltInt x dk[pivot]!) dk j i' (.inr (by simpa [HG.out] using hp))
          obtain ⟨wx, ewx⟩ : ∃ y : World, y = wr.drewN nq := ⟨_, rfl⟩
          rw [← ewx]
          have HSv : Hid (Sorted w g o N dk wx) := by rw [ewx]; exact HSu.out.drewN nq
          clear ewx
          go_loopw [11] (fun vj wr1 => ∃ j' : Nat, vj = .int .i64 j' ∧ j' ≤ j ∧ (i' ≤ j' + 1 ∨ j' = j) ∧ Sorted w g o N dk wr1 ∧ scanDown (fun x => !ltInt x dk[pivot]!) dk i' j' = scanDown (fun x => !ltInt x dk[pivot]!) dk i' j) (fun vj _ => (intV vj).toNat)
          case atStart => exact ⟨j, rfl, Nat.le_refl _, .inr rfl, HSv.out, rfl⟩
          case round =>
            obtain ⟨j', rfl, hj1, hj2, hSd, hEd⟩ := hrel
            have HSd : Hid (Sorted w g o N dk wr) := hSd
            have HEd : Hid (scanDown (fun x => !ltInt x dk[pivot]!) dk i' j' = scanDown (fun x => !ltInt x dk[pivot]!) dk i' j) := hEd
            clear hSd hEd
            have hcd : ∀ t, t < n → wr.cell? ⟨g, o + t, none⟩ = some (.int .u64 (G t)) := fun t ht => by rw [HG.out]; exact HSd.out.row.cell t (by omega)
            have hfd : ∀ t, t < n → wr.frozen? ⟨g, o + t, none⟩ = false := fun t ht => HSd.out.row.free t (by omega)
            by_cases hld : i' ≤ j'
            · go_wp2
              go_quiet (first | (go_at_call 103; refine Calls.quiet_of_same (less_is _ _ _)))
              go_wp2
              · have hq : (!ltInt (G j') (G pivot)) = true := by assumption
                go_roundw
                case rel =>
                  refine ⟨j' - 1, by congr 1; omega, by omega, by omega, HSd.out.drewN nq, ?_⟩
                  rw [← HEd.out]
                  exact (scan_down_on (fun x => !ltInt x dk[pivot]!) dk i' j' hld (by omega) (by simpa [HG.out] using hq)).symm
                case measure => simp [intV]; omega
              · have hq : (!ltInt (G j') (G pivot)) = false := by assumption
                have HD : Hid (scanDown (fun x => !ltInt x dk[pivot]!) dk i' j = j') := by
                  show scanDown (fun x => !ltInt x dk[pivot]!) dk i' j = j'
                  rw [← HEd.out]
                  exact scan_down_out (fun x => !ltInt x dk[pivot]!) dk i' j' (.inr (by simpa [HG.out] using hq))
                obtain ⟨wy, ewy⟩ : ∃ y : World, y = wr.drewN nq := ⟨_, rfl⟩
                rw [← ewy]
                have HSy : Hid (Sorted w g o N dk wy) := by rw [ewy]; exact HSd.out.drewN nq
                clear ewy
                have hne : ¬ i' = j' := fun e => by rw [e] at hp; rw [hp] at hq; simp at hq
                have hne2 : ¬ j' = i' := fun e => hne e.symm
                have hcy : ∀ t, t < n → wy.cell? ⟨g, o + t, none⟩ = some (.int .u64 (G t)) := fun t ht => by rw [HG.out]; exact HSy.out.row.cell t (by omega)
                have hfy : ∀ t, t < n → wy.frozen? ⟨g, o + t, none⟩ = false := fun t ht => HSy.out.row.free t (by omega)
                go_wp2
                go_region
                all_goals go_wp2
                obtain ⟨d2, ed2⟩ : ∃ d2, d2 = swp dk i' j' := ⟨_, rfl⟩
                have hs2 : d2.size = n := by rw [ed2, size_swp]; exact hs1
                obtain ⟨w2, ew2⟩ : ∃ y : World, y = (wy.drew.setCell ⟨g, o + i', none⟩ (.int .u64 (G j'))).setCell ⟨g, o + j', none⟩ (.int .u64 (G i')) := ⟨_, rfl⟩
                have HS2 : Hid (Sorted w g o N d2 w2) := by
                  show Sorted w g o N d2 w2
                  rw [ew2, ed2]
                  simp only [HG.out]
                  exact HSy.out.drew.swap (by omega) (by omega)
                change Code.wp _ _ _ _ ((wy.drew.setCell ⟨g, o + i', none⟩ (.int .u64 (G j'))).setCell ⟨g, o + j', none⟩ (.int .u64 (G i')))
                rw [← ew2]
                clear ew2
                obtain ⟨i1, ei1⟩ : ∃ i1 : Nat, (i' : Int) + 1 = i1 := ⟨i' + 1, by omega⟩
                obtain ⟨j1, ej1⟩ : ∃ j1 : Nat, (j' : Int) - 1 = j1 := ⟨j' - 1, by omega⟩
                have HP : Hid (partition ltInt d pivot b pivot = ((partLoop ltInt pivot i1 j1 d2).1, false, swp (partLoop ltInt pivot i1 j1 d2).2 (partLoop ltInt pivot i1 j1 d2).1 pivot)) := by
                  show partition ltInt d pivot b pivot = _
                  rw [part_on pivot b pivot d (i2 := i') (j2 := j') (by rw [e1', e0', ← ed1]; exact HU.out) (by rw [e0', ← ed1]; exact HD.out) hld, ← ed1, ← ed2, show i' + 1 = i1 from by omega, show j' - 1 = j1 from by omega]
                try simp only [ei1, ej1]
                go_loopw [10, 11] (fun vi vj wr1 => ∃ (i j : Nat) (dk : Array Int), vi = .int .i64 i ∧ vj = .int .i64 j ∧ pivot + 1 ≤ i ∧ i ≤ j + 2 ∧ pivot ≤ j ∧ j ≤ b1 ∧ dk.size = n ∧ Sorted w g o N dk wr1 ∧ partLoop ltInt pivot i j dk = partLoop ltInt pivot i1 j1 d2) (fun vi vj _ => (intV vj + 2 - intV vi).toNat)
                case atStart => exact ⟨i1, j1, d2, rfl, rfl, by omega, by omega, by omega, by omega, hs2, HS2.out, rfl⟩
                case round =>
                  obtain ⟨i, j, dk, rfl, rfl, hai, hij, haj, hjb, hsk, hSk, hO⟩ := hrel
                  have HO : Hid (partLoop ltInt pivot i j dk = partLoop ltInt pivot i1 j1 d2) := hO
                  have HS : Hid (Sorted w g o N dk wr) := hSk
                  obtain ⟨G, hG⟩ : ∃ G : Nat → Int, ∀ t, G t = dk[t]! := ⟨fun t => dk[t]!, fun _ => rfl⟩
                  have HG : Hid (∀ t, G t = dk[t]!) := hG
                  clear hO hSk hG
                  go_wp2
                  go_loopw [10] (fun vi wr1 => ∃ i' : Nat, vi = .int .i64 i' ∧ i ≤ i' ∧ (i' ≤ j + 1 ∨ i' = i) ∧ Sorted w g o N dk wr1 ∧ scanUp (fun x => ltInt x dk[pivot]!) dk j i' = scanUp (fun x => ltInt x dk[pivot]!) dk j i) (fun vi _ => j + 1 - (intV vi).toNat)
                  case atStart => exact ⟨i, rfl, Nat.le_refl _, .inr rfl, HS.out, rfl⟩
                  case round =>
                    obtain ⟨i', rfl, hi1, hi2, hSu, hEu⟩ := hrel
                    have HSu : Hid (Sorted w g o N dk wr) := hSu
                    have HEu : Hid (scanUp (fun x => ltInt x dk[pivot]!) dk j i' = scanUp (fun x => ltInt x dk[pivot]!) dk j i) := hEu
                    clear hSu hEu
                    have hcu : ∀ t, t < n → wr.cell? ⟨g, o + t, none⟩ = some (.int .u64 (G t)) := fun t ht => by rw [HG.out]; exact HSu.out.row.cell t (by omega)
                    have hfu : ∀ t, t < n → wr.frozen? ⟨g, o + t, none⟩ = false := fun t ht => HSu.out.row.free t (by omega)
                    by_cases hle : i' ≤ j
                    · go_wp2
                      go_quiet (first | (go_at_call 103; refine Calls.quiet_of_same (less_is _ _ _)))
                      go_wp2
                      · have hp : ltInt (G i') (G pivot) = true := by assumption
                        go_roundw
                        case rel =>
                          refine ⟨i' + 1, by go_num, by omega, by omega, HSu.out.drewN nq, ?_⟩
                          rw [← HEu.out]
                          exact (scan_up_on (fun x => ltInt x dk[pivot]!) dk j i' hle (by simpa [HG.out] using hp)).symm
                        case measure => simp [intV]; omega
                      · have hp : ltInt (G i') (G pivot) = false := by assumption
                        have HU : Hid (scanUp (fun x => ltInt x dk[pivot]!) dk j i = i') := by
                          show scanUp (fun x => ltInt x dk[pivot]!) dk j i = i'
                          rw [← HEu.out]
                          exact scan_up_out (fun x => ltInt x dk[pivot]!) dk j i' (.inr (by simpa [HG.out] using hp))
                        obtain ⟨wx, ewx⟩ : ∃ y : World, y = wr.drewN nq := ⟨_, rfl⟩
                        rw [← ewx]
                        have HSv : Hid (Sorted w g o N dk wx) := by rw [ewx]; exact HSu.out.drewN nq
                        clear ewx
                        go_loopw [11] (fun vj wr1 => ∃ j' : Nat, vj = .int .i64 j' ∧ j' ≤ j ∧ (i' ≤ j' + 1 ∨ j' = j) ∧ Sorted w g o N dk wr1 ∧ scanDown (fun x => !ltInt x dk[pivot]!) dk i' j' = scanDown (fun x => !ltInt x dk[pivot]!) dk i' j) (fun vj _ => (intV vj).toNat)
                        case atStart => exact ⟨j, rfl, Nat.le_refl _, .inr rfl, HSv.out, rfl⟩
                        case round =>
                          obtain ⟨j', rfl, hj1, hj2, hSd, hEd⟩ := hrel
                          have HSd : Hid (Sorted w g o N dk wr) := hSd
                          have HEd : Hid (scanDown (fun x => !ltInt x dk[pivot]!) dk i' j' = scanDown (fun x => !ltInt x dk[pivot]!) dk i' j) := hEd
                          clear hSd hEd
                          have hcd : ∀ t, t < n → wr.cell? ⟨g, o + t, none⟩ = some (.int .u64 (G t)) := fun t ht => by rw [HG.out]; exact HSd.out.row.cell t (by omega)
                          have hfd : ∀ t, t < n → wr.frozen? ⟨g, o + t, none⟩ = false := fun t ht => HSd.out.row.free t (by omega)
                          by_cases hld : i' ≤ j'
                          · go_wp2
                            go_quiet (first | (go_at_call 103; refine Calls.quiet_of_same (less_is _ _ _)))
                            go_wp2
                            · have hq : (!ltInt (G j') (G pivot)) = true := by assumption
                              go_roundw
                              case rel =>
                                refine ⟨j' - 1, by congr 1; omega, by omega, by omega, HSd.out.drewN nq, ?_⟩
                                rw [← HEd.out]
                                exact (scan_down_on (fun x => !ltInt x dk[pivot]!) dk i' j' hld (by omega) (by simpa [HG.out] using hq)).symm
                              case measure => simp [intV]; omega
                            · have hq : (!ltInt (G j') (G pivot)) = false := by assumption
                              have HD : Hid (scanDown (fun x => !ltInt x dk[pivot]!) dk i' j = j') := by
                                show scanDown (fun x => !ltInt x dk[pivot]!) dk i' j = j'
                                rw [← HEd.out]
                                exact scan_down_out (fun x => !ltInt x dk[pivot]!) dk i' j' (.inr (by simpa [HG.out] using hq))
                              obtain ⟨wy, ewy⟩ : ∃ y : World, y = wr.drewN nq := ⟨_, rfl⟩
                              rw [← ewy]
                              have HSy : Hid (Sorted w g o N dk wy) := by rw [ewy]; exact HSd.out.drewN nq
                              clear ewy
                              have hne : ¬ i' = j' := fun e => by rw [e] at hp; rw [hp] at hq; simp at hq
                              have hne2 : ¬ j' = i' := fun e => hne e.symm
                              have hcy : ∀ t, t < n → wy.cell? ⟨g, o + t, none⟩ = some (.int .u64 (G t)) := fun t ht => by rw [HG.out]; exact HSy.out.row.cell t (by omega)
                              have hfy : ∀ t, t < n → wy.frozen? ⟨g, o + t, none⟩ = false := fun t ht => HSy.out.row.free t (by omega)
                              go_wp2
                              go_region
                              all_goals go_wp2
                              go_roundw
                              case rel =>
                                refine ⟨i' + 1, j' - 1, swp dk i' j', by go_num, by congr 1; omega, by omega, by omega, by omega, by omega, by rw [size_swp]; exact hsk, ?_, ?_⟩
                                · rw [HG.out, HG.out]
                                  exact HSy.out.drew.swap (by omega) (by omega)
                                · rw [← HO.out]
                                  exact (pl_on pivot i j dk HU.out HD.out hld hi1 hj1).symm
                              case measure => simp [intV]; omega
                          · go_wp2
                            go_quiet (first | (go_at_call 103; refine Calls.quiet_of_same (less_is _ _ _)))
                            go_wp2
                            have HD : Hid (scanDown (fun x => !ltInt x dk[pivot]!) dk i' j = j') := by
                              show scanDown (fun x => !ltInt x dk[pivot]!) dk i' j = j'
                              rw [← HEd.out]
                              exact scan_down_out (fun x => !ltInt x dk[pivot]!) dk i' j' (.inl hld)
                            obtain ⟨wy, ewy⟩ : ∃ y : World, y = wr.drewN nq := ⟨_, rfl⟩
                            rw [← ewy]
                            have HSy : Hid (Sorted w g o N dk wy) := by rw [ewy]; exact HSd.out.drewN nq
                            clear ewy
                            have hcy : ∀ t, t < n → wy.cell? ⟨g, o + t, none⟩ = some (.int .u64 (G t)) := fun t ht => by rw [HG.out]; exact HSy.out.row.cell t (by omega)
                            have hfy : ∀ t, t < n → wy.frozen? ⟨g, o + t, none⟩ = false := fun t ht => HSy.out.row.free t (by omega)
                            have hjn : j' < n := by omega
                            have han : pivot < n := by omega
                            by_cases hja : pivot = j'
                            · subst hja
                              go_wp2
                              go_region
                              all_goals go_wp2
                              all_goals
                                go_ret2
                                rw [HP.out, ← HO.out, pl_out pivot i j dk HU.out HD.out (by omega)]
                                refine ⟨rfl, ?_⟩
                                simp only [HG.out]
                                exact HSy.out.drew.swap (by omega) (by omega)
                            · have hja2 : ¬ j' = pivot := fun e => hja e.symm
                              go_wp2
                              go_region
                              all_goals go_wp2
                              all_goals
                                go_ret2
                                rw [HP.out, ← HO.out, pl_out pivot i j dk HU.out HD.out (by omega)]
                                refine ⟨rfl, ?_⟩
                                simp only [HG.out]
                                exact HSy.out.drew.swap (by omega) (by omega)
                    · go_wp2
                      go_quiet (first | (go_at_call 103; refine Calls.quiet_of_same (less_is _ _ _)))
                      go_wp2
                      have HU : Hid (scanUp (fun x => ltInt x dk[pivot]!) dk j i = i') := by
                        show scanUp (fun x => ltInt x dk[pivot]!) dk j i = i'
                        rw [← HEu.out]
                        exact scan_up_out (fun x => ltInt x dk[pivot]!) dk j i' (.inl hle)
                      obtain ⟨wx, ewx⟩ : ∃ y : World, y = wr.drewN nq := ⟨_, rfl⟩
                      rw [← ewx]
                      have HSv : Hid (Sorted w g o N dk wx) := by rw [ewx]; exact HSu.out.drewN nq
                      clear ewx
                      go_loopw [11] (fun vj wr1 => vj = .int .i64 j ∧ Sorted w g o N dk wr1) (fun _ _ => 0)
                      case atStart => exact ⟨rfl, HSv.out⟩
                      case round =>
                        obtain ⟨rfl, hSd⟩ := hrel
                        have HSd : Hid (Sorted w g o N dk wr) := hSd
                        clear hSd
                        go_wp2
                        go_quiet (first | (go_at_call 103; refine Calls.quiet_of_same (less_is _ _ _)))
                        go_wp2
                        have HD : Hid (scanDown (fun x => !ltInt x dk[pivot]!) dk i' j = j) := scan_down_out (fun x => !ltInt x dk[pivot]!) dk i' j (.inl hle)
                        obtain ⟨wy, ewy⟩ : ∃ y : World, y = wr.drewN nq := ⟨_, rfl⟩
                        rw [← ewy]
                        have HSy : Hid (Sorted w g o N dk wy) := by rw [ewy]; exact HSd.out.drewN nq
                        clear ewy
                        have hcy : ∀ t, t < n → wy.cell? ⟨g, o + t, none⟩ = some (.int .u64 (G t)) := fun t ht => by rw [HG.out]; exact HSy.out.row.cell t (by omega)
                        have hfy : ∀ t, t < n → wy.frozen? ⟨g, o + t, none⟩ = false := fun t ht => HSy.out.row.free t (by omega)
                        have hjn : j < n := by omega
                        have han : pivot < n := by omega
                        by_cases hja : pivot = j
                        · subst hja
                          go_wp2
                          go_region
                          all_goals go_wp2
                          all_goals
                            go_ret2
                            rw [HP.out, ← HO.out, pl_out pivot i pivot dk HU.out HD.out (by omega)]
                            refine ⟨rfl, ?_⟩
                            simp only [HG.out]
                            exact HSy.out.drew.swap (by omega) (by omega)
                        · have hja2 : ¬ j = pivot := fun e => hja e.symm
                          go_wp2
                          go_region
                          all_goals go_wp2
                          all_goals
                            go_ret2
                            rw [HP.out, ← HO.out, pl_out pivot i j dk HU.out HD.out (by omega)]
                            refine ⟨rfl, ?_⟩
                            simp only [HG.out]
                            exact HSy.out.drew.swap (by omega) (by omega)
            · go_wp2
              go_quiet (first | (go_at_call 103; refine Calls.quiet_of_same (less_is _ _ _)))
              go_wp2
              have HD : Hid (scanDown (fun x => !ltInt x dk[pivot]!) dk i' j = j') := by
                show scanDown (fun x => !ltInt x dk[pivot]!) dk i' j = j'
                rw [← HEd.out]
                exact scan_down_out (fun x => !ltInt x dk[pivot]!) dk i' j' (.inl hld)
              obtain ⟨wy, ewy⟩ : ∃ y : World, y = wr.drewN nq := ⟨_, rfl⟩
              rw [← ewy]
              have HSy : Hid (Sorted w g o N dk wy) := by rw [ewy]; exact HSd.out.drewN nq
              clear ewy
              have hcy : ∀ t, t < n → wy.cell? ⟨g, o + t, none⟩ = some (.int .u64 (G t)) := fun t ht => by rw [HG.out]; exact HSy.out.row.cell t (by omega)
              have hfy : ∀ t, t < n → wy.frozen? ⟨g, o + t, none⟩ = false := fun t ht => HSy.out.row.free t (by omega)
              have hjn : j' < n := by omega
              have han : pivot < n := by omega
              by_cases hja : pivot = j'
              · subst hja
                go_wp2
                go_region
                all_goals go_wp2
                all_goals
                  go_ret2
                  rw [part_out pivot b pivot d (i2 := i') (j2 := pivot) (by rw [e1', e0', ← ed1]; exact HU.out) (by rw [e0', ← ed1]; exact HD.out) (by omega), ← ed1]
                  refine ⟨rfl, ?_⟩
                  simp only [HG.out]
                  exact HSy.out.drew.swap (by omega) (by omega)
              · have hja2 : ¬ j' = pivot := fun e => hja e.symm
                go_wp2
                go_region
                all_goals go_wp2
                all_goals
                  go_ret2
                  rw [part_out pivot b pivot d (i2 := i') (j2 := j') (by rw [e1', e0', ← ed1]; exact HU.out) (by rw [e0', ← ed1]; exact HD.out) (by omega), ← ed1]
                  refine ⟨rfl, ?_⟩
                  simp only [HG.out]
                  exact HSy.out.drew.swap (by omega) (by omega)
      · go_wp2
        go_quiet (first | (go_at_call 103; refine Calls.quiet_of_same (less_is _ _ _)))
        go_wp2
        have HU : Hid (scanUp (fun x => ltInt x dk[pivot]!) dk j i = i') := by
          show scanUp (fun x => ltInt x dk[pivot]!) dk j i = i'
          rw [← HEu.out]
          exact scan_up_out (fun x => ltInt x dk[pivot]!) dk j i' (.inl hle)
        obtain ⟨wx, ewx⟩ : ∃ y : World, y = wr.drewN nq := ⟨_, rfl⟩
        rw [← ewx]
        have HSv : Hid (Sorted w g o N dk wx) := by rw [ewx]; exact HSu.out.drewN nq
        clear ewx
        go_loopw [11] (fun vj wr1 => vj = .int .i64 j ∧ Sorted w g o N dk wr1) (fun _ _ => 0)
        case atStart => exact ⟨rfl, HSv.out⟩
        case round =>
          obtain ⟨rfl, hSd⟩ := hrel
          have HSd : Hid (Sorted w g o N dk wr) := hSd
          clear hSd
          go_wp2
          go_quiet (first | (go_at_call 103; refine Calls.quiet_of_same (less_is _ _ _)))
          go_wp2
          have HD : Hid (scanDown (fun x => !ltInt x dk[pivot]!) dk i' j = j) := scan_down_out (fun x => !ltInt x dk[pivot]!) dk i' j (.inl hle)
          obtain ⟨wy, ewy⟩ : ∃ y : World, y = wr.drewN nq := ⟨_, rfl⟩
          rw [← ewy]
          have HSy : Hid (Sorted w g o N dk wy) := by rw [ewy]; exact HSd.out.drewN nq
          clear ewy
          have hcy : ∀ t, t < n → wy.cell? ⟨g, o + t, none⟩ = some (.int .u64 (G t)) := fun t ht => by rw [HG.out]; exact HSy.out.row.cell t (by omega)
          have hfy : ∀ t, t < n → wy.frozen? ⟨g, o + t, none⟩ = false := fun t ht => HSy.out.row.free t (by omega)
          have hjn : j < n := by omega
          have han : pivot < n := by omega
          by_cases hja : pivot = j
          · subst hja
            go_wp2
            go_region
            all_goals go_wp2
            all_goals
              go_ret2
              rw [part_out pivot b pivot d (i2 := i') (j2 := pivot) (by rw [e1', e0', ← ed1]; exact HU.out) (by rw [e0', ← ed1]; exact HD.out) (by omega), ← ed1]
              refine ⟨rfl, ?_⟩
              simp only [HG.out]
              exact HSy.out.drew.swap (by omega) (by omega)
          · have hja2 : ¬ j = pivot := fun e => hja e.symm
            go_wp2
            go_region
            all_goals go_wp2
            all_goals
              go_ret2
              rw [part_out pivot b pivot d (i2 := i') (j2 := j) (by rw [e1', e0', ← ed1]; exact HU.out) (by rw [e0', ← ed1]; exact HD.out) (by omega), ← ed1]
              refine ⟨rfl, ?_⟩
              simp only [HG.out]
              exact HSy.out.drew.swap (by omega) (by omega)
  · have hpa2 : ¬ a = pivot := fun e => hpa e.symm
    go_enter Tryz.func105, Tryz.ntmps105
    obtain ⟨G0, hG0⟩ : ∃ G : Nat → Int, ∀ t, G t = d[t]! := ⟨fun t => d[t]!, fun _ => rfl⟩
    have hc0 : ∀ t, t < n → w.cell? ⟨g, o + t, none⟩ = some (.int .u64 (G0 t)) := fun t ht => by rw [hG0]; exact h.cell t (by omega)
    have hf0 : ∀ t, t < n → w.frozen? ⟨g, o + t, none⟩ = false := fun t ht => h.free t (by omega)
    have HG0 : Hid (∀ t, G0 t = d[t]!) := hG0
    have H0 : Hid (RowAt w g o N d) := h
    clear hG0 h
    go_wp2
    go_region
    all_goals go_wp2
    obtain ⟨dk, ed1⟩ : ∃ d1, d1 = swp d a pivot := ⟨_, rfl⟩
    have hs1 : dk.size = n := by rw [ed1, size_swp]; exact hn
    obtain ⟨w1, ew1⟩ : ∃ y : World, y = (w.drew.setCell ⟨g, o + a, none⟩ (.int .u64 (G0 pivot))).setCell ⟨g, o + pivot, none⟩ (.int .u64 (G0 a)) := ⟨_, rfl⟩
    have HS1 : Hid (Sorted w g o N dk w1) := by
      show Sorted w g o N dk w1
      rw [ew1, ed1]
      simp only [HG0.out]
      exact (Sorted.start H0.out).drew.swap (by omega) (by omega)
    change Code.wp _ _ _ _ ((w.drew.setCell ⟨g, o + a, none⟩ (.int .u64 (G0 pivot))).setCell ⟨g, o + pivot, none⟩ (.int .u64 (G0 a)))
    rw [← ew1]
    clear ew1
    obtain ⟨G, hG⟩ : ∃ G : Nat → Int, ∀ t, G t = dk[t]! := ⟨fun t => dk[t]!, fun _ => rfl⟩
    have HG : Hid (∀ t, G t = dk[t]!) := hG
    have HS := HS1
    have hsk := hs1
    clear hG
    go_wp2
    go_loopw [10] (fun vi wr1 => ∃ i' : Nat, vi = .int .i64 i' ∧ i ≤ i' ∧ (i' ≤ j + 1 ∨ i' = i) ∧ Sorted w g o N dk wr1 ∧ scanUp (fun x => ltInt x dk[a]!) dk j i' = scanUp (fun x => ltInt x dk[a]!) dk j i) (fun vi _ => j + 1 - (intV vi).toNat)
    case atStart => exact ⟨i, rfl, Nat.le_refl _, .inr rfl, HS.out, rfl⟩
    case round =>
      obtain ⟨i', rfl, hi1, hi2, hSu, hEu⟩ := hrel
      have HSu : Hid (Sorted w g o N dk wr) := hSu
      have HEu : Hid (scanUp (fun x => ltInt x dk[a]!) dk j i' = scanUp (fun x => ltInt x dk[a]!) dk j i) := hEu
      clear hSu hEu
      have hcu : ∀ t, t < n → wr.cell? ⟨g, o + t, none⟩ = some (.int .u64 (G t)) := fun t ht => by rw [HG.out]; exact HSu.out.row.cell t (by omega)
      have hfu : ∀ t, t < n → wr.frozen? ⟨g, o + t, none⟩ = false := fun t ht => HSu.out.row.free t (by omega)
      by_cases hle : i' ≤ j
      · go_wp2
        go_quiet (first | (go_at_call 103; refine Calls.quiet_of_same (less_is _ _ _)))
        go_wp2
        · have hp : ltInt (G i') (G a) = true := by assumption
          go_roundw
          case rel =>
            refine ⟨i' + 1, by go_num, by omega, by omega, HSu.out.drewN nq, ?_⟩
            rw [← HEu.out]
            exact (scan_up_on (fun x => ltInt x dk[a]!) dk j i' hle (by simpa [HG.out] using hp)).symm
          case measure => simp [intV]; omega
        · have hp : ltInt (G i') (G a) = false := by assumption
          have HU : Hid (scanUp (fun x => ltInt x dk[a]!) dk j i = i') := by
            show scanUp (fun x => ltInt x dk[a]!) dk j i = i'
            rw [← HEu.out]
            exact scan_up_out (fun x => ltInt x dk[a]!) dk j i' (.inr (by simpa [HG.out] using hp))
          obtain ⟨wx, ewx⟩ : ∃ y : World, y = wr.drewN nq := ⟨_, rfl⟩
          rw [← ewx]
          have HSv : Hid (Sorted w g o N dk wx) := by rw [ewx]; exact HSu.out.drewN nq
          clear ewx
          go_loopw [11] (fun vj wr1 => ∃ j' : Nat, vj = .int .i64 j' ∧ j' ≤ j ∧ (i' ≤ j' + 1 ∨ j' = j) ∧ Sorted w g o N dk wr1 ∧ scanDown (fun x => !ltInt x dk[a]!) dk i' j' = scanDown (fun x => !ltInt x dk[a]!) dk i' j) (fun vj _ => (intV vj).toNat)
          case atStart => exact ⟨j, rfl, Nat.le_refl _, .inr rfl, HSv.out, rfl⟩
          case round =>
            obtain ⟨j', rfl, hj1, hj2, hSd, hEd⟩ := hrel
            have HSd : Hid (Sorted w g o N dk wr) := hSd
            have HEd : Hid (scanDown (fun x => !ltInt x dk[a]!) dk i' j' = scanDown (fun x => !ltInt x dk[a]!) dk i' j) := hEd
            clear hSd hEd
            have hcd : ∀ t, t < n → wr.cell? ⟨g, o + t, none⟩ = some (.int .u64 (G t)) := fun t ht => by rw [HG.out]; exact HSd.out.row.cell t (by omega)
            have hfd : ∀ t, t < n → wr.frozen? ⟨g, o + t, none⟩ = false := fun t ht => HSd.out.row.free t (by omega)
            by_cases hld : i' ≤ j'
            · go_wp2
              go_quiet (first | (go_at_call 103; refine Calls.quiet_of_same (less_is _ _ _)))
              go_wp2
              · have hq : (!ltInt (G j') (G a)) = true := by assumption
                go_roundw
                case rel =>
                  refine ⟨j' - 1, by congr 1; omega, by omega, by omega, HSd.out.drewN nq, ?_⟩
                  rw [← HEd.out]
                  exact (scan_down_on (fun x => !ltInt x dk[a]!) dk i' j' hld (by omega) (by simpa [HG.out] using hq)).symm
                case measure => simp [intV]; omega
              · have hq : (!ltInt (G j') (G a)) = false := by assumption
                have HD : Hid (scanDown (fun x => !ltInt x dk[a]!) dk i' j = j') := by
                  show scanDown (fun x => !ltInt x dk[a]!) dk i' j = j'
                  rw [← HEd.out]
                  exact scan_down_out (fun x => !ltInt x dk[a]!) dk i' j' (.inr (by simpa [HG.out] using hq))
                obtain ⟨wy, ewy⟩ : ∃ y : World, y = wr.drewN nq := ⟨_, rfl⟩
                rw [← ewy]
                have HSy : Hid (Sorted w g o N dk wy) := by rw [ewy]; exact HSd.out.drewN nq
                clear ewy
                have hne : ¬ i' = j' := fun e => by rw [e] at hp; rw [hp] at hq; simp at hq
                have hne2 : ¬ j' = i' := fun e => hne e.symm
                have hcy : ∀ t, t < n → wy.cell? ⟨g, o + t, none⟩ = some (.int .u64 (G t)) := fun t ht => by rw [HG.out]; exact HSy.out.row.cell t (by omega)
                have hfy : ∀ t, t < n → wy.frozen? ⟨g, o + t, none⟩ = false := fun t ht => HSy.out.row.free t (by omega)
                go_wp2
                go_region
                all_goals go_wp2
                obtain ⟨d2, ed2⟩ : ∃ d2, d2 = swp dk i' j' := ⟨_, rfl⟩
                have hs2 : d2.size = n := by rw [ed2, size_swp]; exact hs1
                obtain ⟨w2, ew2⟩ : ∃ y : World, y = (wy.drew.setCell ⟨g, o + i', none⟩ (.int .u64 (G j'))).setCell ⟨g, o + j', none⟩ (.int .u64 (G i')) := ⟨_, rfl⟩
                have HS2 : Hid (Sorted w g o N d2 w2) := by
                  show Sorted w g o N d2 w2
                  rw [ew2, ed2]
                  simp only [HG.out]
                  exact HSy.out.drew.swap (by omega) (by omega)
                change Code.wp _ _ _ _ ((wy.drew.setCell ⟨g, o + i', none⟩ (.int .u64 (G j'))).setCell ⟨g, o + j', none⟩ (.int .u64 (G i')))
                rw [← ew2]
                clear ew2
                obtain ⟨i1, ei1⟩ : ∃ i1 : Nat, (i' : Int) + 1 = i1 := ⟨i' + 1, by omega⟩
                obtain ⟨j1, ej1⟩ : ∃ j1 : Nat, (j' : Int) - 1 = j1 := ⟨j' - 1, by omega⟩
                have HP : Hid (partition ltInt d a b pivot = ((partLoop ltInt a i1 j1 d2).1, false, swp (partLoop ltInt a i1 j1 d2).2 (partLoop ltInt a i1 j1 d2).1 a)) := by
                  show partition ltInt d a b pivot = _
                  rw [part_on a b pivot d (i2 := i') (j2 := j') (by rw [e1', e0', ← ed1]; exact HU.out) (by rw [e0', ← ed1]; exact HD.out) hld, ← ed1, ← ed2, show i' + 1 = i1 from by omega, show j' - 1 = j1 from by omega]
                try simp only [ei1, ej1]
                go_loopw [10, 11] (fun vi vj wr1 => ∃ (i j : Nat) (dk : Array Int), vi = .int .i64 i ∧ vj = .int .i64 j ∧ a + 1 ≤ i ∧ i ≤ j + 2 ∧ a ≤ j ∧ j ≤ b1 ∧ dk.size = n ∧ Sorted w g o N dk wr1 ∧ partLoop ltInt a i j dk = partLoop ltInt a i1 j1 d2) (fun vi vj _ => (intV vj + 2 - intV vi).toNat)
                case atStart => exact ⟨i1, j1, d2, rfl, rfl, by omega, by omega, by omega, by omega, hs2, HS2.out, rfl⟩
                case round =>
                  obtain ⟨i, j, dk, rfl, rfl, hai, hij, haj, hjb, hsk, hSk, hO⟩ := hrel
                  have HO : Hid (partLoop ltInt a i j dk = partLoop ltInt a i1 j1 d2) := hO
                  have HS : Hid (Sorted w g o N dk wr) := hSk
                  obtain ⟨G, hG⟩ : ∃ G : Nat → Int, ∀ t, G t = dk[t]! := ⟨fun t => dk[t]!, fun _ => rfl⟩
                  have HG : Hid (∀ t, G t = dk[t]!) := hG
                  clear hO hSk hG
                  go_wp2
                  go_loopw [10] (fun vi wr1 => ∃ i' : Nat, vi = .int .i64 i' ∧ i ≤ i' ∧ (i' ≤ j + 1 ∨ i' = i) ∧ Sorted w g o N dk wr1 ∧ scanUp (fun x => ltInt x dk[a]!) dk j i' = scanUp (fun x => ltInt x dk[a]!) dk j i) (fun vi _ => j + 1 - (intV vi).toNat)
                  case atStart => exact ⟨i, rfl, Nat.le_refl _, .inr rfl, HS.out, rfl⟩
                  case round =>
                    obtain ⟨i', rfl, hi1, hi2, hSu, hEu⟩ := hrel
                    have HSu : Hid (Sorted w g o N dk wr) := hSu
                    have HEu : Hid (scanUp (fun x => ltInt x dk[a]!) dk j i' = scanUp (fun x => ltInt x dk[a]!) dk j i) := hEu
                    clear hSu hEu
                    have hcu : ∀ t, t < n → wr.cell? ⟨g, o + t, none⟩ = some (.int .u64 (G t)) := fun t ht => by rw [HG.out]; exact HSu.out.row.cell t (by omega)
                    have hfu : ∀ t, t < n → wr.frozen? ⟨g, o + t, none⟩ = false := fun t ht => HSu.out.row.free t (by omega)
                    by_cases hle : i' ≤ j
                    · go_wp2
                      go_quiet (first | (go_at_call 103; refine Calls.quiet_of_same (less_is _ _ _)))
                      go_wp2
                      · have hp : ltInt (G i') (G a) = true := by assumption
                        go_roundw
                        case rel =>
                          refine ⟨i' + 1, by go_num, by omega, by omega, HSu.out.drewN nq, ?_⟩
                          rw [← HEu.out]
                          exact (scan_up_on (fun x => ltInt x dk[a]!) dk j i' hle (by simpa [HG.out] using hp)).symm
                        case measure => simp [intV]; omega
                      · have hp : ltInt (G i') (G a) = false := by assumption
                        have HU : Hid (scanUp (fun x => ltInt x dk[a]!) dk j i = i') := by
                          show scanUp (fun x => ltInt x dk[a]!) dk j i = i'
                          rw [← HEu.out]
                          exact scan_up_out (fun x => ltInt x dk[a]!) dk j i' (.inr (by simpa [HG.out] using hp))
                        obtain ⟨wx, ewx⟩ : ∃ y : World, y = wr.drewN nq := ⟨_, rfl⟩
                        rw [← ewx]
                        have HSv : Hid (Sorted w g o N dk wx) := by rw [ewx]; exact HSu.out.drewN nq
                        clear ewx
                        go_loopw [11] (fun vj wr1 => ∃ j' : Nat, vj = .int .i64 j' ∧ j' ≤ j ∧ (i' ≤ j' + 1 ∨ j' = j) ∧ Sorted w g o N dk wr1 ∧ scanDown (fun x => !ltInt x dk[a]!) dk i' j' = scanDown (fun x => !ltInt x dk[a]!) dk i' j) (fun vj _ => (intV vj).toNat)
                        case atStart => exact ⟨j, rfl, Nat.le_refl _, .inr rfl, HSv.out, rfl⟩
                        case round =>
                          obtain ⟨j', rfl, hj1, hj2, hSd, hEd⟩ := hrel
                          have HSd : Hid (Sorted w g o N dk wr) := hSd
                          have HEd : Hid (scanDown (fun x => !ltInt x dk[a]!) dk i' j' = scanDown (fun x => !ltInt x dk[a]!) dk i' j) := hEd
                          clear hSd hEd
                          have hcd : ∀ t, t < n → wr.cell? ⟨g, o + t, none⟩ = some (.int .u64 (G t)) := fun t ht => by rw [HG.out]; exact HSd.out.row.cell t (by omega)
                          have hfd : ∀ t, t < n → wr.frozen? ⟨g, o + t, none⟩ = false := fun t ht => HSd.out.row.free t (by omega)
                          by_cases hld : i' ≤ j'
                          · go_wp2
                            go_quiet (first | (go_at_call 103; refine Calls.quiet_of_same (less_is _ _ _)))
                            go_wp2
                            · have hq : (!ltInt (G j') (G a)) = true := by assumption
                              go_roundw
                              case rel =>
                                refine ⟨j' - 1, by congr 1; omega, by omega, by omega, HSd.out.drewN nq, ?_⟩
                                rw [← HEd.out]
                                exact (scan_down_on (fun x => !ltInt x dk[a]!) dk i' j' hld (by omega) (by simpa [HG.out] using hq)).symm
                              case measure => simp [intV]; omega
                            · have hq : (!ltInt (G j') (G a)) = false := by assumption
                              have HD : Hid (scanDown (fun x => !ltInt x dk[a]!) dk i' j = j') := by
                                show scanDown (fun x => !ltInt x dk[a]!) dk i' j = j'
                                rw [← HEd.out]
                                exact scan_down_out (fun x => !ltInt x dk[a]!) dk i' j' (.inr (by simpa [HG.out] using hq))
                              obtain ⟨wy, ewy⟩ : ∃ y : World, y = wr.drewN nq := ⟨_, rfl⟩
                              rw [← ewy]
                              have HSy : Hid (Sorted w g o N dk wy) := by rw [ewy]; exact HSd.out.drewN nq
                              clear ewy
                              have hne : ¬ i' = j' := fun e => by rw [e] at hp; rw [hp] at hq; simp at hq
                              have hne2 : ¬ j' = i' := fun e => hne e.symm
                              have hcy : ∀ t, t < n → wy.cell? ⟨g, o + t, none⟩ = some (.int .u64 (G t)) := fun t ht => by rw [HG.out]; exact HSy.out.row.cell t (by omega)
                              have hfy : ∀ t, t < n → wy.frozen? ⟨g, o + t, none⟩ = false := fun t ht => HSy.out.row.free t (by omega)
                              go_wp2
                              go_region
                              all_goals go_wp2
                              go_roundw
                              case rel =>
                                refine ⟨i' + 1, j' - 1, swp dk i' j', by go_num, by congr 1; omega, by omega, by omega, by omega, by omega, by rw [size_swp]; exact hsk, ?_, ?_⟩
                                · rw [HG.out, HG.out]
                                  exact HSy.out.drew.swap (by omega) (by omega)
                                · rw [← HO.out]
                                  exact (pl_on a i j dk HU.out HD.out hld hi1 hj1).symm
                              case measure => simp [intV]; omega
                          · go_wp2
                            go_quiet (first | (go_at_call 103; refine Calls.quiet_of_same (less_is _ _ _)))
                            go_wp2
                            have HD : Hid (scanDown (fun x => !ltInt x dk[a]!) dk i' j = j') := by
                              show scanDown (fun x => !ltInt x dk[a]!) dk i' j = j'
                              rw [← HEd.out]
                              exact scan_down_out (fun x => !ltInt x dk[a]!) dk i' j' (.inl hld)
                            obtain ⟨wy, ewy⟩ : ∃ y : World, y = wr.drewN nq := ⟨_, rfl⟩
                            rw [← ewy]
                            have HSy : Hid (Sorted w g o N dk wy) := by rw [ewy]; exact HSd.out.drewN nq
                            clear ewy
                            have hcy : ∀ t, t < n → wy.cell? ⟨g, o + t, none⟩ = some (.int .u64 (G t)) := fun t ht => by rw [HG.out]; exact HSy.out.row.cell t (by omega)
                            have hfy : ∀ t, t < n → wy.frozen? ⟨g, o + t, none⟩ = false := fun t ht => HSy.out.row.free t (by omega)
                            have hjn : j' < n := by omega
                            have han : a < n := by omega
                            by_cases hja : a = j'
                            · subst hja
                              go_wp2
                              go_region
                              all_goals go_wp2
                              all_goals
                                go_ret2
                                rw [HP.out, ← HO.out, pl_out a i j dk HU.out HD.out (by omega)]
                                refine ⟨rfl, ?_⟩
                                simp only [HG.out]
                                exact HSy.out.drew.swap (by omega) (by omega)
                            · have hja2 : ¬ j' = a := fun e => hja e.symm
                              go_wp2
                              go_region
                              all_goals go_wp2
                              all_goals
                                go_ret2
                                rw [HP.out, ← HO.out, pl_out a i j dk HU.out HD.out (by omega)]
                                refine ⟨rfl, ?_⟩
                                simp only [HG.out]
                                exact HSy.out.drew.swap (by omega) (by omega)
                    · go_wp2
                      go_quiet (first | (go_at_call 103; refine Calls.quiet_of_same (less_is _ _ _)))
                      go_wp2
                      have HU : Hid (scanUp (fun x => ltInt x dk[a]!) dk j i = i') := by
                        show scanUp (fun x => ltInt x dk[a]!) dk j i = i'
                        rw [← HEu.out]
                        exact scan_up_out (fun x => ltInt x dk[a]!) dk j i' (.inl hle)
                      obtain ⟨wx, ewx⟩ : ∃ y : World, y = wr.drewN nq := ⟨_, rfl⟩
                      rw [← ewx]
                      have HSv : Hid (Sorted w g o N dk wx) := by rw [ewx]; exact HSu.out.drewN nq
                      clear ewx
                      go_loopw [11] (fun vj wr1 => vj = .int .i64 j ∧ Sorted w g o N dk wr1) (fun _ _ => 0)
                      case atStart => exact ⟨rfl, HSv.out⟩
                      case round =>
                        obtain ⟨rfl, hSd⟩ := hrel
                        have HSd : Hid (Sorted w g o N dk wr) := hSd
                        clear hSd
                        go_wp2
                        go_quiet (first | (go_at_call 103; refine Calls.quiet_of_same (less_is _ _ _)))
                        go_wp2
                        have HD : Hid (scanDown (fun x => !ltInt x dk[a]!) dk i' j = j) := scan_down_out (fun x => !ltInt x dk[a]!) dk i' j (.inl hle)
                        obtain ⟨wy, ewy⟩ : ∃ y : World, y = wr.drewN nq := ⟨_, rfl⟩
                        rw [← ewy]
                        have HSy : Hid (Sorted w g o N dk wy) := by rw [ewy]; exact HSd.out.drewN nq
                        clear ewy
                        have hcy : ∀ t, t < n → wy.cell? ⟨g, o + t, none⟩ = some (.int .u64 (G t)) := fun t ht => by rw [HG.out]; exact HSy.out.row.cell t (by omega)
                        have hfy : ∀ t, t < n → wy.frozen? ⟨g, o + t, none⟩ = false := fun t ht => HSy.out.row.free t (by omega)
                        have hjn : j < n := by omega
                        have han : a < n := by omega
                        by_cases hja : a = j
                        · subst hja
                          go_wp2
                          go_region
                          all_goals go_wp2
                          all_goals
                            go_ret2
                            rw [HP.out, ← HO.out, pl_out a i a dk HU.out HD.out (by omega)]
                            refine ⟨rfl, ?_⟩
                            simp only [HG.out]
                            exact HSy.out.drew.swap (by omega) (by omega)
                        · have hja2 : ¬ j = a := fun e => hja e.symm
                          go_wp2
                          go_region
                          all_goals go_wp2
                          all_goals
                            go_ret2
                            rw [HP.out, ← HO.out, pl_out a i j dk HU.out HD.out (by omega)]
                            refine ⟨rfl, ?_⟩
                            simp only [HG.out]
                            exact HSy.out.drew.swap (by omega) (by omega)
            · go_wp2
              go_quiet (first | (go_at_call 103; refine Calls.quiet_of_same (less_is _ _ _)))
              go_wp2
              have HD : Hid (scanDown (fun x => !ltInt x dk[a]!) dk i' j = j') := by
                show scanDown (fun x => !ltInt x dk[a]!) dk i' j = j'
                rw [← HEd.out]
                exact scan_down_out (fun x => !ltInt x dk[a]!) dk i' j' (.inl hld)
              obtain ⟨wy, ewy⟩ : ∃ y : World, y = wr.drewN nq := ⟨_, rfl⟩
              rw [← ewy]
              have HSy : Hid (Sorted w g o N dk wy) := by rw [ewy]; exact HSd.out.drewN nq
              clear ewy
              have hcy : ∀ t, t < n → wy.cell? ⟨g, o + t, none⟩ = some (.int .u64 (G t)) := fun t ht => by rw [HG.out]; exact HSy.out.row.cell t (by omega)
              have hfy : ∀ t, t < n → wy.frozen? ⟨g, o + t, none⟩ = false := fun t ht => HSy.out.row.free t (by omega)
              have hjn : j' < n := by omega
              have han : a < n := by omega
              by_cases hja : a = j'
              · subst hja
                go_wp2
                go_region
                all_goals go_wp2
                all_goals
                  go_ret2
                  rw [part_out a b pivot d (i2 := i') (j2 := a) (by rw [e1', e0', ← ed1]; exact HU.out) (by rw [e0', ← ed1]; exact HD.out) (by omega), ← ed1]
                  refine ⟨rfl, ?_⟩
                  simp only [HG.out]
                  exact HSy.out.drew.swap (by omega) (by omega)
              · have hja2 : ¬ j' = a := fun e => hja e.symm
                go_wp2
                go_region
                all_goals go_wp2
                all_goals
                  go_ret2
                  rw [part_out a b pivot d (i2 := i') (j2 := j') (by rw [e1', e0', ← ed1]; exact HU.out) (by rw [e0', ← ed1]; exact HD.out) (by omega), ← ed1]
                  refine ⟨rfl, ?_⟩
                  simp only [HG.out]
                  exact HSy.out.drew.swap (by omega) (by omega)
      · go_wp2
        go_quiet (first | (go_at_call 103; refine Calls.quiet_of_same (less_is _ _ _)))
        go_wp2
        have HU : Hid (scanUp (fun x => ltInt x dk[a]!) dk j i = i') := by
          show scanUp (fun x => ltInt x dk[a]!) dk j i = i'
          rw [← HEu.out]
          exact scan_up_out (fun x => ltInt x dk[a]!) dk j i' (.inl hle)
        obtain ⟨wx, ewx⟩ : ∃ y : World, y = wr.drewN nq := ⟨_, rfl⟩
        rw [← ewx]
        have HSv : Hid (Sorted w g o N dk wx) := by rw [ewx]; exact HSu.out.drewN nq
        clear ewx
        go_loopw [11] (fun vj wr1 => vj = .int .i64 j ∧ Sorted w g o N dk wr1) (fun _ _ => 0)
        case atStart => exact ⟨rfl, HSv.out⟩
        case round =>
          obtain ⟨rfl, hSd⟩ := hrel
          have HSd : Hid (Sorted w g o N dk wr) := hSd
          clear hSd
          go_wp2
          go_quiet (first | (go_at_call 103; refine Calls.quiet_of_same (less_is _ _ _)))
          go_wp2
          have HD : Hid (scanDown (fun x => !ltInt x dk[a]!) dk i' j = j) := scan_down_out (fun x => !ltInt x dk[a]!) dk i' j (.inl hle)
          obtain ⟨wy, ewy⟩ : ∃ y : World, y = wr.drewN nq := ⟨_, rfl⟩
          rw [← ewy]
          have HSy : Hid (Sorted w g o N dk wy) := by rw [ewy]; exact HSd.out.drewN nq
          clear ewy
          have hcy : ∀ t, t < n → wy.cell? ⟨g, o + t, none⟩ = some (.int .u64 (G t)) := fun t ht => by rw [HG.out]; exact HSy.out.row.cell t (by omega)
          have hfy : ∀ t, t < n → wy.frozen? ⟨g, o + t, none⟩ = false := fun t ht => HSy.out.row.free t (by omega)
          have hjn : j < n := by omega
          have han : a < n := by omega
          by_cases hja : a = j
          · subst hja
            go_wp2
            go_region
            all_goals go_wp2
            all_goals
              go_ret2
              rw [part_out a b pivot d (i2 := i') (j2 := a) (by rw [e1', e0', ← ed1]; exact HU.out) (by rw [e0', ← ed1]; exact HD.out) (by omega), ← ed1]
              refine ⟨rfl, ?_⟩
              simp only [HG.out]
              exact HSy.out.drew.swap (by omega) (by omega)
          · have hja2 : ¬ j = a := fun e => hja e.symm
            go_wp2
            go_region
            all_goals go_wp2
            all_goals
              go_ret2
              rw [part_out a b pivot d (i2 := i') (j2 := j) (by rw [e1', e0', ← ed1]; exact HU.out) (by rw [e0', ← ed1]; exact HD.out) (by omega), ← ed1]
              refine ⟨rfl, ?_⟩
              simp only [HG.out]
              exact HSy.out.drew.swap (by omega) (by omega)

end Go.Proofs.YtmfdhcnnhlchbaaGreat
