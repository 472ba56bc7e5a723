import Derived.Test.YtmfdhcnnhlchbaaGreatC21
namespace Go.Proofs.YtmfdhcnnhlchbaaGreat
open Go.RowKit Go.Sort

section
variable (p : Int → Bool) (d : Array Int)
theorem scan_up_on (j i : Nat) (h : i ≤ j) (hp : p d[i]! = true) : scanUp p d j i = scanUp p d j (i + 1) := by
  conv => lhs; unfold scanUp
  rw [if_pos (by simp [h, hp])]
theorem scan_up_out (j i : Nat) (h : ¬ i ≤ j ∨ p d[i]! = false) : scanUp p d j i = i := by
  unfold scanUp
  rw [if_neg]
  rcases h with h | h
  · simp [h]
  · simp [h]
theorem scan_down_on (i j : Nat) (h : i ≤ j) (h0 : 0 < j) (hp : p d[j]! = true) : scanDown p d i j = scanDown p d i (j - 1) := by
  cases j with
  | zero => omega
  | succ k =>
    rw [Nat.add_sub_cancel]
    conv => lhs; unfold scanDown
    rw [if_pos (by simp [h, hp])]
theorem scan_down_out (i j : Nat) (h : ¬ i ≤ j ∨ p d[j]! = false) : scanDown p d i j = j := by
  cases j with
  | zero => rfl
  | succ k =>
    unfold scanDown
    rw [if_neg]
    rcases h with h | h
    · simp [h]
    · simp [h]
end

section
variable (a i j : Nat) (dk : Array Int) {i2 j2 : Nat}
theorem peq_out (h1 : scanUp (fun x => !ltInt dk[a]! x) dk j i = i2) (h2 : scanDown (fun x => ltInt dk[a]! x) dk i2 j = j2) (h : j2 < i2) : partEqLoop ltInt a i j dk = (i2, dk) := by
  unfold partEqLoop
  simp only [h1, h2]
  rw [if_pos h]
theorem peq_on (h1 : scanUp (fun x => !ltInt dk[a]! x) dk j i = i2) (h2 : scanDown (fun x => ltInt dk[a]! x) dk i2 j = j2) (h : i2 ≤ j2) (hi : i ≤ i2) (hj : j2 ≤ j) : partEqLoop ltInt a i j dk = partEqLoop ltInt a (i2 + 1) (j2 - 1) (swp dk i2 j2) := by
  conv => lhs; unfold partEqLoop
  simp only [h1, h2]
  rw [if_neg (by omega), dif_pos (by omega)]
end

set_option maxRecDepth 100000 in
set_option maxHeartbeats 8000000 in
/-- slices.partitionEqualOrdered. -/
theorem partEq_is {w : World} {g o N cap a b pivot n : Nat} {d : Array Int} (hn : d.size = n) (h : RowAt w g o N d) (hap : a ≤ pivot) (hpb : pivot < b) (hb : b ≤ n) (hs : n < 1099511627776) :
    Calls Tryz.prog 104 #[.slice (some ⟨g, o, none⟩) n cap, .int .i64 a, .int .i64 b, .int .i64 pivot] w fun e w' => e = .returned (.int .i64 (partitionEqual ltInt d a b pivot).1) ∧ Sorted w g o N (partitionEqual ltInt d a b pivot).2 w' := by
  obtain ⟨b1, e0⟩ : ∃ b1 : Nat, (b : Int) - 1 = b1 := ⟨b - 1, by omega⟩
  obtain ⟨a1, e1⟩ : ∃ a1 : Nat, (a : Int) + 1 = a1 := ⟨a + 1, by omega⟩
  have u0 := wrap_i (n := b1) (by omega)
  have u1 := wrap_i (n := a1) (by omega)
  have HE : Hid (partitionEqual ltInt d a b pivot = partEqLoop ltInt a a1 b1 (swp d a pivot)) := by
    show partitionEqual ltInt d a b pivot = _
    unfold partitionEqual
    rw [show b - 1 = b1 from by omega, show a + 1 = a1 from by omega]
  by_cases hpa : pivot = a
  · subst hpa
    go_enter Tryz.func104, Tryz.ntmps104
    obtain ⟨G0, hG0⟩ : ∃ G : Nat → Int, ∀ t, G t = d[t]! := ⟨fun t => d[t]!, fun _ => rfl⟩
    have hc0 : ∀ t, t < n → w.cell? ⟨g, o + t, none⟩ = some (.int .u64 (G0 t)) := fun t ht => by rw [hG0]; exact h.cell t (by omega)
    have hf0 : ∀ t, t < n → w.frozen? ⟨g, o + t, none⟩ = false := fun t ht => h.free t (by omega)
    have HG0 : Hid (∀ t, G0 t = d[t]!) := hG0
    have H0 : Hid (RowAt w g o N d) := h
    clear hG0 h
    go_wp2
    go_region
    all_goals go_wp2
    obtain ⟨d1, ed1⟩ : ∃ d1, d1 = swp d pivot pivot := ⟨_, rfl⟩
    have hs1 : d1.size = n := by rw [ed1, size_swp]; exact hn
    obtain ⟨w1, ew1⟩ : ∃ y : World, y = (w.drew.setCell ⟨g, o + pivot, none⟩ (.int .u64 (G0 pivot))).setCell ⟨g, o + pivot, none⟩ (.int .u64 (G0 pivot)) := ⟨_, rfl⟩
    have HS1 : Hid (Sorted w g o N d1 w1) := by
      show Sorted w g o N d1 w1
      rw [ew1, ed1]
      simp only [HG0.out]
      exact (Sorted.start H0.out).drew.swap (by omega) (by omega)
    change Code.wp _ _ _ _ ((w.drew.setCell ⟨g, o + pivot, none⟩ (.int .u64 (G0 pivot))).setCell ⟨g, o + pivot, none⟩ (.int .u64 (G0 pivot)))
    rw [← ew1]
    clear ew1
    rw [← ed1] at HE
    go_loopw [9, 10] (fun vi vj wr1 => ∃ (i j : Nat) (dk : Array Int), vi = .int .i64 i ∧ vj = .int .i64 j ∧ pivot + 1 ≤ i ∧ i ≤ j + 2 ∧ pivot ≤ j ∧ j ≤ b1 ∧ dk.size = n ∧ Sorted w g o N dk wr1 ∧ partEqLoop ltInt pivot i j dk = partEqLoop ltInt pivot a1 b1 d1) (fun vi vj _ => (intV vj + 2 - intV vi).toNat)
    case atStart => exact ⟨a1, b1, d1, rfl, rfl, by omega, by omega, by omega, Nat.le_refl _, hs1, HS1.out, rfl⟩
    case round =>
      obtain ⟨i, j, dk, rfl, rfl, hai, hij, haj, hjb, hsk, hSk, hO⟩ := hrel
      have HO : Hid (partEqLoop ltInt pivot i j dk = partEqLoop ltInt pivot a1 b1 d1) := hO
      have HS : Hid (Sorted w g o N dk wr) := hSk
      obtain ⟨G, hG⟩ : ∃ G : Nat → Int, ∀ t, G t = dk[t]! := ⟨fun t => dk[t]!, fun _ => rfl⟩
      have HG : Hid (∀ t, G t = dk[t]!) := hG
      clear hO hSk hG
      go_wp2
      go_loopw [9] (fun vi wr1 => ∃ i' : Nat, vi = .int .i64 i' ∧ i ≤ i' ∧ (i' ≤ j + 1 ∨ i' = i) ∧ Sorted w g o N dk wr1 ∧ scanUp (fun x => !ltInt dk[pivot]! x) dk j i' = scanUp (fun x => !ltInt dk[pivot]! x) dk j i) (fun vi _ => j + 1 - (intV vi).toNat)
      case atStart => exact ⟨i, rfl, Nat.le_refl _, .inr rfl, HS.out, rfl⟩
      case round =>
        obtain ⟨i', rfl, hi1, hi2, hSu, hEu⟩ := hrel
        have HSu : Hid (Sorted w g o N dk wr) := hSu
        have HEu : Hid (scanUp (fun x => !ltInt dk[pivot]! x) dk j i' = scanUp (fun x => !ltInt dk[pivot]! x) dk j i) := hEu
        clear hSu hEu
        have hcu : ∀ t, t < n → wr.cell? ⟨g, o + t, none⟩ = some (.int .u64 (G t)) := fun t ht => by rw [HG.out]; exact HSu.out.row.cell t (by omega)
        have hfu : ∀ t, t < n → wr.frozen? ⟨g, o + t, none⟩ = false := fun t ht => HSu.out.row.free t (by omega)
        by_cases hle : i' ≤ j
        · go_wp2
          go_quiet (first | (go_at_call 103; refine Calls.quiet_of_same (less_is _ _ _)))
          go_wp2
          · have hp : (!ltInt (G pivot) (G i')) = true := by assumption
            go_roundw
            case rel =>
              refine ⟨i' + 1, by go_num, by omega, by omega, HSu.out.drewN nq, ?_⟩
              rw [← HEu.out]
              exact (scan_up_on (fun x => !ltInt dk[pivot]! x) dk j i' hle (by simpa [HG.out] using hp)).symm
            case measure => simp [intV]; omega
          · have hp : (!ltInt (G pivot) (G i')) = false := by assumption
            have HU : Hid (scanUp (fun x => !ltInt dk[pivot]! x) dk j i = i') := by
              show scanUp (fun x => !ltInt dk[pivot]! x) dk j i = i'
              rw [← HEu.out]
              exact scan_up_out (fun x => !ltInt dk[pivot]! x) dk j i' (.inr (by simpa [HG.out] using hp))
            obtain ⟨wx, ewx⟩ : ∃ y : World, y = wr.drewN nq := ⟨_, rfl⟩
            rw [← ewx]
            have HSv : Hid (Sorted w g o N dk wx) := by rw [ewx]; exact HSu.out.drewN nq
            clear ewx
            go_loopw [10] (fun vj wr1 => ∃ j' : Nat, vj = .int .i64 j' ∧ j' ≤ j ∧ (i' ≤ j' + 1 ∨ j' = j) ∧ Sorted w g o N dk wr1 ∧ scanDown (fun x => ltInt dk[pivot]! x) dk i' j' = scanDown (fun x => ltInt dk[pivot]! x) dk i' j) (fun vj _ => (intV vj).toNat)
            case atStart => exact ⟨j, rfl, Nat.le_refl _, .inr rfl, HSv.out, rfl⟩
            case round =>
              obtain ⟨j', rfl, hj1, hj2, hSd, hEd⟩ := hrel
              have HSd : Hid (Sorted w g o N dk wr) := hSd
              have HEd : Hid (scanDown (fun x => ltInt dk[pivot]! x) dk i' j' = scanDown (fun x => ltInt dk[pivot]! x) dk i' j) := hEd
              clear hSd hEd
              have hcd : ∀ t, t < n → wr.cell? ⟨g, o + t, none⟩ = some (.int .u64 (G t)) := fun t ht => by rw [HG.out]; exact HSd.out.row.cell t (by omega)
              have hfd : ∀ t, t < n → wr.frozen? ⟨g, o + t, none⟩ = false := fun t ht => HSd.out.row.free t (by omega)
              by_cases hld : i' ≤ j'
              · go_wp2
                go_quiet (first | (go_at_call 103; refine Calls.quiet_of_same (less_is _ _ _)))
                go_wp2
                · have hq : ltInt (G pivot) (G j') = true := by assumption
                  go_roundw
                  case rel =>
                    refine ⟨j' - 1, by congr 1; omega, by omega, by omega, HSd.out.drewN nq, ?_⟩
                    rw [← HEd.out]
                    exact (scan_down_on (fun x => ltInt dk[pivot]! x) dk i' j' hld (by omega) (by simpa [HG.out] using hq)).symm
                  case measure => simp [intV]; omega
                · have hq : ltInt (G pivot) (G j') = false := by assumption
                  have HD : Hid (scanDown (fun x => ltInt dk[pivot]! x) dk i' j = j') := by
                    show scanDown (fun x => ltInt dk[pivot]! x) dk i' j = j'
                    rw [← HEd.out]
                    exact scan_down_out (fun x => ltInt dk[pivot]! x) dk i' j' (.inr (by simpa [HG.out] using hq))
                  obtain ⟨wy, ewy⟩ : ∃ y : World, y = wr.drewN nq := ⟨_, rfl⟩
                  rw [← ewy]
                  have HSy : Hid (Sorted w g o N dk wy) := by rw [ewy]; exact HSd.out.drewN nq
                  clear ewy
                  have hne : ¬ i' = j' := fun e => by rw [e] at hp; rw [hq] at hp; simp at hp
                  have hne2 : ¬ j' = i' := fun e => hne e.symm
                  have hcy : ∀ t, t < n → wy.cell? ⟨g, o + t, none⟩ = some (.int .u64 (G t)) := fun t ht => by rw [HG.out]; exact HSy.out.row.cell t (by omega)
                  have hfy : ∀ t, t < n → wy.frozen? ⟨g, o + t, none⟩ = false := fun t ht => HSy.out.row.free t (by omega)
                  go_wp2
                  go_region
                  all_goals go_wp2
                  go_roundw
                  case rel =>
                    refine ⟨i' + 1, j' - 1, swp dk i' j', by go_num, by congr 1; omega, by omega, by omega, by omega, by omega, by rw [size_swp]; exact hsk, ?_, ?_⟩
                    · rw [HG.out, HG.out]
                      exact HSy.out.drew.swap (by omega) (by omega)
                    · rw [← HO.out]
                      exact (peq_on pivot i j dk HU.out HD.out hld hi1 hj1).symm
                  case measure => simp [intV]; omega
              · go_wp2
                go_quiet (first | (go_at_call 103; refine Calls.quiet_of_same (less_is _ _ _)))
                go_wp2
                have HD : Hid (scanDown (fun x => ltInt dk[pivot]! x) dk i' j = j') := by
                  show scanDown (fun x => ltInt dk[pivot]! x) dk i' j = j'
                  rw [← HEd.out]
                  exact scan_down_out (fun x => ltInt dk[pivot]! x) dk i' j' (.inl hld)
                obtain ⟨wy, ewy⟩ : ∃ y : World, y = wr.drewN nq := ⟨_, rfl⟩
                rw [← ewy]
                have HSy : Hid (Sorted w g o N dk wy) := by rw [ewy]; exact HSd.out.drewN nq
                clear ewy
                go_wp2
                go_ret
                rw [HE.out, ← HO.out, peq_out pivot i j dk HU.out HD.out (by omega)]
                exact ⟨rfl, HSy.out⟩
        · go_wp2
          go_quiet (first | (go_at_call 103; refine Calls.quiet_of_same (less_is _ _ _)))
          go_wp2
          have HU : Hid (scanUp (fun x => !ltInt dk[pivot]! x) dk j i = i') := by
            show scanUp (fun x => !ltInt dk[pivot]! x) dk j i = i'
            rw [← HEu.out]
            exact scan_up_out (fun x => !ltInt dk[pivot]! x) dk j i' (.inl hle)
          obtain ⟨wx, ewx⟩ : ∃ y : World, y = wr.drewN nq := ⟨_, rfl⟩
          rw [← ewx]
          have HSv : Hid (Sorted w g o N dk wx) := by rw [ewx]; exact HSu.out.drewN nq
          clear ewx
          go_loopw [10] (fun vj wr1 => vj = .int .i64 j ∧ Sorted w g o N dk wr1) (fun _ _ => 0)
          case atStart => exact ⟨rfl, HSv.out⟩
          case round =>
            obtain ⟨rfl, hSd⟩ := hrel
            have HSd : Hid (Sorted w g o N dk wr) := hSd
            clear hSd
            go_wp2
            go_quiet (first | (go_at_call 103; refine Calls.quiet_of_same (less_is _ _ _)))
            go_wp2
            have HD : Hid (scanDown (fun x => ltInt dk[pivot]! x) dk i' j = j) := scan_down_out (fun x => ltInt dk[pivot]! x) dk i' j (.inl hle)
            obtain ⟨wy, ewy⟩ : ∃ y : World, y = wr.drewN nq := ⟨_, rfl⟩
            rw [← ewy]
            have HSy : Hid (Sorted w g o N dk wy) := by rw [ewy]; exact HSd.out.drewN nq
            clear ewy
            go_wp2
            go_ret
            rw [HE.out, ← HO.out, peq_out pivot i j dk HU.out HD.out (by omega)]
            exact ⟨rfl, HSy.out⟩
  · have hpa2 : ¬ a = pivot := fun e => hpa e.symm
    go_enter Tryz.func104, Tryz.ntmps104
    obtain ⟨G0, hG0⟩ : ∃ G : Nat → Int, ∀ t, G t = d[t]! := ⟨fun t => d[t]!, fun _ => rfl⟩
    have hc0 : ∀ t, t < n → w.cell? ⟨g, o + t, none⟩ = some (.int .u64 (G0 t)) := fun t ht => by rw [hG0]; exact h.cell t (by omega)
    have hf0 : ∀ t, t < n → w.frozen? ⟨g, o + t, none⟩ = false := fun t ht => h.free t (by omega)
    have HG0 : Hid (∀ t, G0 t = d[t]!) := hG0
    have H0 : Hid (RowAt w g o N d) := h
    clear hG0 h
    go_wp2
    go_region
    all_goals go_wp2
    obtain ⟨d1, ed1⟩ : ∃ d1, d1 = swp d a pivot := ⟨_, rfl⟩
    have hs1 : d1.size = n := by rw [ed1, size_swp]; exact hn
    obtain ⟨w1, ew1⟩ : ∃ y : World, y = (w.drew.setCell ⟨g, o + a, none⟩ (.int .u64 (G0 pivot))).setCell ⟨g, o + pivot, none⟩ (.int .u64 (G0 a)) := ⟨_, rfl⟩
    have HS1 : Hid (Sorted w g o N d1 w1) := by
      show Sorted w g o N d1 w1
      rw [ew1, ed1]
      simp only [HG0.out]
      exact (Sorted.start H0.out).drew.swap (by omega) (by omega)
    change Code.wp _ _ _ _ ((w.drew.setCell ⟨g, o + a, none⟩ (.int .u64 (G0 pivot))).setCell ⟨g, o + pivot, none⟩ (.int .u64 (G0 a)))
    rw [← ew1]
    clear ew1
    rw [← ed1] at HE
    go_loopw [9, 10] (fun vi vj wr1 => ∃ (i j : Nat) (dk : Array Int), vi = .int .i64 i ∧ vj = .int .i64 j ∧ a + 1 ≤ i ∧ i ≤ j + 2 ∧ a ≤ j ∧ j ≤ b1 ∧ dk.size = n ∧ Sorted w g o N dk wr1 ∧ partEqLoop ltInt a i j dk = partEqLoop ltInt a a1 b1 d1) (fun vi vj _ => (intV vj + 2 - intV vi).toNat)
    case atStart => exact ⟨a1, b1, d1, rfl, rfl, by omega, by omega, by omega, Nat.le_refl _, hs1, HS1.out, rfl⟩
    case round =>
      obtain ⟨i, j, dk, rfl, rfl, hai, hij, haj, hjb, hsk, hSk, hO⟩ := hrel
      have HO : Hid (partEqLoop ltInt a i j dk = partEqLoop ltInt a a1 b1 d1) := hO
      have HS : Hid (Sorted w g o N dk wr) := hSk
      obtain ⟨G, hG⟩ : ∃ G : Nat → Int, ∀ t, G t = dk[t]! := ⟨fun t => dk[t]!, fun _ => rfl⟩
      have HG : Hid (∀ t, G t = dk[t]!) := hG
      clear hO hSk hG
      go_wp2
      go_loopw [9] (fun vi wr1 => ∃ i' : Nat, vi = .int .i64 i' ∧ i ≤ i' ∧ (i' ≤ j + 1 ∨ i' = i) ∧ Sorted w g o N dk wr1 ∧ scanUp (fun x => !ltInt dk[a]! x) dk j i' = scanUp (fun x => !ltInt dk[a]! x) dk j i) (fun vi _ => j + 1 - (intV vi).toNat)
      case atStart => exact ⟨i, rfl, Nat.le_refl _, .inr rfl, HS.out, rfl⟩
      case round =>
        obtain ⟨i', rfl, hi1, hi2, hSu, hEu⟩ := hrel
        have HSu : Hid (Sorted w g o N dk wr) := hSu
        have HEu : Hid (scanUp (fun x => !ltInt dk[a]! x) dk j i' = scanUp (fun x => !ltInt dk[a]! x) dk j i) := hEu
        clear hSu hEu
        have hcu : ∀ t, t < n → wr.cell? ⟨g, o + t, none⟩ = some (.int .u64 (G t)) := fun t ht => by rw [HG.out]; exact HSu.out.row.cell t (by omega)
        have hfu : ∀ t, t < n → wr.frozen? ⟨g, o + t, none⟩ = false := fun t ht => HSu.out.row.free t (by omega)
        by_cases hle : i' ≤ j
        · go_wp2
          go_quiet (first | (go_at_call 103; refine Calls.quiet_of_same (less_is _ _ _)))
          go_wp2
          · have hp : (!ltInt (G a) (G i')) = true := by assumption
            go_roundw
            case rel =>
              refine ⟨i' + 1, by go_num, by omega, by omega, HSu.out.drewN nq, ?_⟩
              rw [← HEu.out]
              exact (scan_up_on (fun x => !ltInt dk[a]! x) dk j i' hle (by simpa [HG.out] using hp)).symm
            case measure => simp [intV]; omega
          · have hp : (!ltInt (G a) (G i')) = false := by assumption
            have HU : Hid (scanUp (fun x => !ltInt dk[a]! x) dk j i = i') := by
              show scanUp (fun x => !ltInt dk[a]! x) dk j i = i'
              rw [← HEu.out]
              exact scan_up_out (fun x => !ltInt dk[a]! x) dk j i' (.inr (by simpa [HG.out] using hp))
            obtain ⟨wx, ewx⟩ : ∃ y : World, y = wr.drewN nq := ⟨_, rfl⟩
            rw [← ewx]
            have HSv : Hid (Sorted w g o N dk wx) := by rw [ewx]; exact HSu.out.drewN nq
            clear ewx
            go_loopw [10] (fun vj wr1 => ∃ j' : Nat, vj = .int .i64 j' ∧ j' ≤ j ∧ (i' ≤ j' + 1 ∨ j' = j) ∧ Sorted w g o N dk wr1 ∧ scanDown (fun x => ltInt dk[a]! x) dk i' j' = scanDown (fun x => ltInt dk[a]! x) dk i' j) (fun vj _ => (intV vj).toNat)
            case atStart => exact ⟨j, rfl, Nat.le_refl _, .inr rfl, HSv.out, rfl⟩
            case round =>
              obtain ⟨j', rfl, hj1, hj2, hSd, hEd⟩ := hrel
              have HSd : Hid (Sorted w g o N dk wr) := hSd
              have HEd : Hid (scanDown (fun x => ltInt dk[a]! x) dk i' j' = scanDown (fun x => ltInt dk[a]! x) dk i' j) := hEd
              clear hSd hEd
              have hcd : ∀ t, t < n → wr.cell? ⟨g, o + t, none⟩ = some (.int .u64 (G t)) := fun t ht => by rw [HG.out]; exact HSd.out.row.cell t (by omega)
              have hfd : ∀ t, t < n → wr.frozen? ⟨g, o + t, none⟩ = false := fun t ht => HSd.out.row.free t (by omega)
              by_cases hld : i' ≤ j'
              · go_wp2
                go_quiet (first | (go_at_call 103; refine Calls.quiet_of_same (less_is _ _ _)))
                go_wp2
                · have hq : ltInt (G a) (G j') = true := by assumption
                  go_roundw
                  case rel =>
                    refine ⟨j' - 1, by congr 1; omega, by omega, by omega, HSd.out.drewN nq, ?_⟩
                    rw [← HEd.out]
                    exact (scan_down_on (fun x => ltInt dk[a]! x) dk i' j' hld (by omega) (by simpa [HG.out] using hq)).symm
                  case measure => simp [intV]; omega
                · have hq : ltInt (G a) (G j') = false := by assumption
                  have HD : Hid (scanDown (fun x => ltInt dk[a]! x) dk i' j = j') := by
                    show scanDown (fun x => ltInt dk[a]! x) dk i' j = j'
                    rw [← HEd.out]
                    exact scan_down_out (fun x => ltInt dk[a]! x) dk i' j' (.inr (by simpa [HG.out] using hq))
                  obtain ⟨wy, ewy⟩ : ∃ y : World, y = wr.drewN nq := ⟨_, rfl⟩
                  rw [← ewy]
                  have HSy : Hid (Sorted w g o N dk wy) := by rw [ewy]; exact HSd.out.drewN nq
                  clear ewy
                  have hne : ¬ i' = j' := fun e => by rw [e] at hp; rw [hq] at hp; simp at hp
                  have hne2 : ¬ j' = i' := fun e => hne e.symm
                  have hcy : ∀ t, t < n → wy.cell? ⟨g, o + t, none⟩ = some (.int .u64 (G t)) := fun t ht => by rw [HG.out]; exact HSy.out.row.cell t (by omega)
                  have hfy : ∀ t, t < n → wy.frozen? ⟨g, o + t, none⟩ = false := fun t ht => HSy.out.row.free t (by omega)
                  go_wp2
                  go_region
                  all_goals go_wp2
                  go_roundw
                  case rel =>
                    refine ⟨i' + 1, j' - 1, swp dk i' j', by go_num, by congr 1; omega, by omega, by omega, by omega, by omega, by rw [size_swp]; exact hsk, ?_, ?_⟩
                    · rw [HG.out, HG.out]
                      exact HSy.out.drew.swap (by omega) (by omega)
                    · rw [← HO.out]
                      exact (peq_on a i j dk HU.out HD.out hld hi1 hj1).symm
                  case measure => simp [intV]; omega
              · go_wp2
                go_quiet (first | (go_at_call 103; refine Calls.quiet_of_same (less_is _ _ _)))
                go_wp2
                have HD : Hid (scanDown (fun x => ltInt dk[a]! x) dk i' j = j') := by
                  show scanDown (fun x => ltInt dk[a]! x) dk i' j = j'
                  rw [← HEd.out]
                  exact scan_down_out (fun x => ltInt dk[a]! x) dk i' j' (.inl hld)
                obtain ⟨wy, ewy⟩ : ∃ y : World, y = wr.drewN nq := ⟨_, rfl⟩
                rw [← ewy]
                have HSy : Hid (Sorted w g o N dk wy) := by rw [ewy]; exact HSd.out.drewN nq
                clear ewy
                go_wp2
                go_ret
                rw [HE.out, ← HO.out, peq_out a i j dk HU.out HD.out (by omega)]
                exact ⟨rfl, HSy.out⟩
        · go_wp2
          go_quiet (first | (go_at_call 103; refine Calls.quiet_of_same (less_is _ _ _)))
          go_wp2
          have HU : Hid (scanUp (fun x => !ltInt dk[a]! x) dk j i = i') := by
            show scanUp (fun x => !ltInt dk[a]! x) dk j i = i'
            rw [← HEu.out]
            exact scan_up_out (fun x => !ltInt dk[a]! x) dk j i' (.inl hle)
          obtain ⟨wx, ewx⟩ : ∃ y : World, y = wr.drewN nq := ⟨_, rfl⟩
          rw [← ewx]
          have HSv : Hid (Sorted w g o N dk wx) := by rw [ewx]; exact HSu.out.drewN nq
          clear ewx
          go_loopw [10] (fun vj wr1 => vj = .int .i64 j ∧ Sorted w g o N dk wr1) (fun _ _ => 0)
          case atStart => exact ⟨rfl, HSv.out⟩
          case round =>
            obtain ⟨rfl, hSd⟩ := hrel
            have HSd : Hid (Sorted w g o N dk wr) := hSd
            clear hSd
            go_wp2
            go_quiet (first | (go_at_call 103; refine Calls.quiet_of_same (less_is _ _ _)))
            go_wp2
            have HD : Hid (scanDown (fun x => ltInt dk[a]! x) dk i' j = j) := scan_down_out (fun x => ltInt dk[a]! x) dk i' j (.inl hle)
            obtain ⟨wy, ewy⟩ : ∃ y : World, y = wr.drewN nq := ⟨_, rfl⟩
            rw [← ewy]
            have HSy : Hid (Sorted w g o N dk wy) := by rw [ewy]; exact HSd.out.drewN nq
            clear ewy
            go_wp2
            go_ret
            rw [HE.out, ← HO.out, peq_out a i j dk HU.out HD.out (by omega)]
            exact ⟨rfl, HSy.out⟩

end Go.Proofs.YtmfdhcnnhlchbaaGreat
