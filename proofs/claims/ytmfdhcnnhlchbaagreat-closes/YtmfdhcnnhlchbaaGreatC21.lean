import Derived.Test.YtmfdhcnnhlchbaaGreatC20
namespace Go.Proofs.YtmfdhcnnhlchbaaGreat
open Go.RowKit Go.Sort

section
variable {α : Type} [Inhabited α] (lt : α → α → Bool)
theorem inner_on (a j : Nat) (d : Array α) (hj : a < j) (hl : lt d[j]! d[j - 1]! = true) : insInner lt a j d = insInner lt a (j - 1) (swp d j (j - 1)) := by
  cases j with
  | zero => omega
  | succ k =>
    rw [Nat.add_sub_cancel] at hl ⊢
    conv => lhs; unfold insInner
    rw [if_pos (by simp [hl]; omega)]
theorem inner_out (a j : Nat) (d : Array α) (h : j ≤ a ∨ lt d[j]! d[j - 1]! = false) : insInner lt a j d = d := by
  cases j with
  | zero => rfl
  | succ k =>
    rw [Nat.add_sub_cancel] at h
    unfold insInner
    rw [if_neg]
    rcases h with h | h
    · simp; omega
    · simp [h]
end

set_option maxRecDepth 100000 in
set_option maxHeartbeats 1600000 in
/-- slices.insertionSortOrdered. -/
theorem insertion_is {w : World} {g o N cap a b : Nat} {d : Array Int} (h : RowAt w g o N d) (hab : a ≤ b) (hb : b ≤ d.size) (hs : d.size < 1099511627776) :
    Calls Tryz.prog 97 #[.slice (some ⟨g, o, none⟩) d.size cap, .int .i64 a, .int .i64 b] w fun e w' => e = .returned (.tuple #[]) ∧ Sorted w g o N (insertionSort ltInt d a b) w' := by
  go_enter Tryz.func97, Tryz.ntmps97
  go_wp2
  go_loopw [6] (fun vi wr => ∃ (i : Nat) (dk : Array Int), vi = .int .i64 i ∧ a < i ∧ i ≤ b + 1 ∧ dk.size = d.size ∧ Sorted w g o N dk wr ∧ insOuter ltInt a b i dk = insOuter ltInt a b (a + 1) d) (fun vi _ => b + 1 - (intV vi).toNat)
  case atStart => exact ⟨a + 1, d, by go_num, by omega, by omega, rfl, Sorted.start h, rfl⟩
  case round =>
    obtain ⟨i, dk, rfl, hai, hib, hsk, hSk, hO⟩ := hrel
    have HO : Hid (insOuter ltInt a b i dk = insOuter ltInt a b (a + 1) d) := hO
    clear hO
    by_cases hlt : i < b
    · go_wp2
      go_loopw [7] (fun vj wr2 => ∃ (j : Nat) (dj : Array Int), vj = .int .i64 j ∧ a ≤ j ∧ j ≤ i ∧ dj.size = d.size ∧ Sorted w g o N dj wr2 ∧ insInner ltInt a j dj = insInner ltInt a i dk) (fun vj _ => (intV vj).toNat)
      case atStart => exact ⟨i, dk, rfl, by omega, Nat.le_refl _, hsk, hSk, rfl⟩
      case round =>
        obtain ⟨j, dj, rfl, haj, hji, hsj, hSj, hI⟩ := hrel
        obtain ⟨G, hG⟩ : ∃ G : Nat → Int, ∀ t, G t = dj[t]! := ⟨fun t => dj[t]!, fun _ => rfl⟩
        have hcw : ∀ t, t < d.size → wr.cell? ⟨g, o + t, none⟩ = some (.int .u64 (G t)) := fun t ht => by rw [hG]; exact hSj.row.cell t (by omega)
        have hfw : ∀ t, t < d.size → wr.frozen? ⟨g, o + t, none⟩ = false := fun t ht => hSj.row.free t (by omega)
        have HG : Hid (∀ t, G t = dj[t]!) := hG
        have HI : Hid (insInner ltInt a j dj = insInner ltInt a i dk) := hI
        have HS : Hid (Sorted w g o N dj wr) := hSj
        clear hG hI hSj
        have out : (j ≤ a ∨ ltInt dj[j]! dj[j - 1]! = false) → ∀ q, ∃ (i' : Nat) (dk' : Array Int), Value.int .i64 ((i : Int) + 1) = .int .i64 (i' : Nat) ∧ a < i' ∧ i' ≤ b + 1 ∧ dk'.size = d.size ∧ Sorted w g o N dk' (wr.drewN q) ∧ insOuter ltInt a b i' dk' = insOuter ltInt a b (a + 1) d := fun hs q =>
          ⟨i + 1, dj, by go_num, by omega, by omega, hsj, HS.out.drewN q, by
            rw [← HO.out]
            conv => rhs; unfold insOuter
            rw [if_pos hlt, ← HI.out, inner_out _ _ _ _ hs]⟩
        have OUT : Hid _ := out
        clear out
        go_wp2
        by_cases hja : a < j
        · go_quiet (first | (go_at_call 103; refine Calls.quiet_of_same (less_is _ _ _)))
          go_wp2
          · have hl : ltInt (G j) (G (j - 1)) = true := by assumption
            go_region
            all_goals go_wp2
            go_roundw
            case rel =>
              refine ⟨j - 1, swp dj j (j - 1), by congr 1; omega, by omega, by omega, by rw [size_swp]; exact hsj, ?_, ?_⟩
              · rw [HG.out, HG.out]
                exact (HS.out.drewN (nq + 1)).swap (by omega) (by omega)
              · rw [← HI.out, inner_on ltInt a j dj hja (by rw [← HG.out, ← HG.out]; exact hl)]
            case measure => simp [intV]; omega
          · have hl : ltInt (G j) (G (j - 1)) = false := by assumption
            go_roundw
            case rel => exact OUT.out (Or.inr (by rw [← HG.out, ← HG.out]; exact hl)) nq
            case measure => simp [intV]; omega
        · go_quiet (first | (go_at_call 103; refine Calls.quiet_of_same (less_is _ _ _)))
          go_wp2
          go_roundw
          case rel => exact OUT.out (Or.inl (by omega)) nq
          case measure => simp [intV]; omega
    · go_wp2
      go_end0
      refine ⟨rfl, ?_⟩
      unfold insertionSort
      rw [← HO.out]
      unfold insOuter
      rw [if_neg hlt]
      exact hSk

end Go.Proofs.YtmfdhcnnhlchbaaGreat

namespace Go.Proofs.YtmfdhcnnhlchbaaGreat
open Go.RowKit Go.Sort

section
variable (hi first r : Nat) (d : Array Int)
theorem sift_end (h : hi ≤ 2 * r + 1) : siftDown ltInt hi first r d = d := by
  unfold siftDown
  rw [dif_pos h]
theorem sift_two (h : 2 * r + 1 + 1 < hi) (hl : ltInt d[first + (2 * r + 1)]! d[first + (2 * r + 1) + 1]! = true) :
    siftDown ltInt hi first r d = if ltInt d[first + r]! d[first + (2 * r + 2)]! = true then siftDown ltInt hi first (2 * r + 2) (swp d (first + r) (first + (2 * r + 2))) else d := by
  conv => lhs; unfold siftDown
  rw [dif_neg (by omega), if_pos (by simp [h, hl])]
  cases ltInt d[first + r]! d[first + (2 * r + 2)]! with
  | true => rw [if_neg (by simp), dif_pos (by omega), if_pos rfl]
  | false => rw [if_pos (by simp), if_neg (by simp)]
theorem sift_one (h : 2 * r + 1 < hi) (hl : hi ≤ 2 * r + 1 + 1 ∨ ltInt d[first + (2 * r + 1)]! d[first + (2 * r + 1) + 1]! = false) :
    siftDown ltInt hi first r d = if ltInt d[first + r]! d[first + (2 * r + 1)]! = true then siftDown ltInt hi first (2 * r + 1) (swp d (first + r) (first + (2 * r + 1))) else d := by
  conv => lhs; unfold siftDown
  rw [dif_neg (by omega), if_neg (by rcases hl with h1 | h1 <;> simp [h1] <;> omega)]
  cases ltInt d[first + r]! d[first + (2 * r + 1)]! with
  | true => rw [if_neg (by simp), if_pos rfl]
  | false => rw [if_pos (by simp), if_neg (by simp)]
end

set_option maxRecDepth 100000 in
set_option maxHeartbeats 1600000 in
/-- slices.siftDownOrdered. -/
theorem sift_is {w : World} {g o N cap lo hi first : Nat} {d : Array Int} (h : RowAt w g o N d) (hf : first + hi ≤ d.size) (hs : d.size < 1099511627776) (hlo : lo ≤ hi) :
    Calls Tryz.prog 108 #[.slice (some ⟨g, o, none⟩) d.size cap, .int .i64 lo, .int .i64 hi, .int .i64 first] w fun e w' => e = .returned (.tuple #[]) ∧ Sorted w g o N (siftDown ltInt hi first lo d) w' := by
  go_enter Tryz.func108, Tryz.ntmps108
  go_wp2
  go_loopw [8] (fun vi wr => ∃ (r : Nat) (dk : Array Int), vi = .int .i64 r ∧ r ≤ hi ∧ dk.size = d.size ∧ Sorted w g o N dk wr ∧ siftDown ltInt hi first r dk = siftDown ltInt hi first lo d) (fun vi _ => hi - (intV vi).toNat)
  case atStart => exact ⟨lo, d, rfl, hlo, rfl, Sorted.start h, rfl⟩
  case round =>
    obtain ⟨r, dk, rfl, hr, hsk, hSk, hO⟩ := hrel
    have HO : Hid (siftDown ltInt hi first r dk = siftDown ltInt hi first lo d) := hO
    clear hO
    obtain ⟨G, hG⟩ : ∃ G : Nat → Int, ∀ t, G t = dk[t]! := ⟨fun t => dk[t]!, fun _ => rfl⟩
    have hcw : ∀ t, t < d.size → wr.cell? ⟨g, o + t, none⟩ = some (.int .u64 (G t)) := fun t ht => by rw [hG]; exact hSk.row.cell t (by omega)
    have hfw : ∀ t, t < d.size → wr.frozen? ⟨g, o + t, none⟩ = false := fun t ht => hSk.row.free t (by omega)
    have HG : Hid (∀ t, G t = dk[t]!) := hG
    have HS : Hid (Sorted w g o N dk wr) := hSk
    clear hG hSk
    by_cases hc : hi ≤ 2 * r + 1
    · have hc' : (hi : Int) ≤ 2 * (r : Int) + 1 := by omega
      go_wp2
      go_end0
      exact ⟨rfl, by rw [← HO.out, sift_end hi first r dk hc]; exact HS.out⟩
    · have hc' : ¬ (hi : Int) ≤ 2 * (r : Int) + 1 := by omega
      obtain ⟨c1, e1⟩ : ∃ c1 : Nat, 2 * (r : Int) + 1 = c1 := ⟨2 * r + 1, by omega⟩
      obtain ⟨c2, e2⟩ : ∃ c2 : Nat, (c1 : Int) + 1 = c2 := ⟨c1 + 1, by omega⟩
      obtain ⟨p0, f0⟩ : ∃ p0 : Nat, (first : Int) + r = p0 := ⟨first + r, by omega⟩
      obtain ⟨p1, f1⟩ : ∃ p1 : Nat, (first : Int) + c1 = p1 := ⟨first + c1, by omega⟩
      obtain ⟨p2, f2⟩ : ∃ p2 : Nat, (first : Int) + c2 = p2 := ⟨first + c2, by omega⟩
      have f3 : (p1 : Int) + 1 = p2 := by omega
      have u1 := wrap_i (n := c1) (by omega)
      have u2 := wrap_i (n := c2) (by omega)
      have u3 := wrap_i (n := p0) (by omega)
      have u4 := wrap_i (n := p1) (by omega)
      have u5 := wrap_i (n := p2) (by omega)
      go_wp2
      have q0 : first + r = p0 := by omega
      have qp1 : first + (2 * r + 1) = p1 := by omega
      have qp2 : first + (2 * r + 2) = p2 := by omega
      have qc1 : 2 * r + 1 = c1 := by omega
      have qc2 : 2 * r + 2 = c2 := by omega
      have n0 : (p0 : Int) < d.size := by omega
      have n1 : (p1 : Int) < d.size := by omega
      by_cases h2 : (c2 : Int) < hi
      · have n2 : (p2 : Int) < d.size := by omega
        go_quiet (first | (go_at_call 103; refine Calls.quiet_of_same (less_is _ _ _)))
        go_wp2
        · have hl1 : ltInt (G p1) (G p2) = true := by assumption
          obtain ⟨wq, ewq⟩ : ∃ y : World, y = wr.drewN nq := ⟨_, rfl⟩
          rw [← ewq]
          have HQ : Hid (Sorted w g o N dk wq) := by rw [ewq]; exact HS.out.drewN nq
          have hcwq : ∀ t, t < d.size → wq.cell? ⟨g, o + t, none⟩ = some (.int .u64 (G t)) := fun t ht => by rw [HG.out]; exact HQ.out.row.cell t (by omega)
          have hfwq : ∀ t, t < d.size → wq.frozen? ⟨g, o + t, none⟩ = false := fun t ht => HQ.out.row.free t (by omega)
          clear ewq
          go_quiet (first | (go_at_call 103; refine Calls.quiet_of_same (less_is _ _ _)))
          go_wp2
          · have hl2 : ltInt (G p0) (G p2) = false := of_not (by assumption)
            refine bodyPost_ret (results_none rfl _ _ _) rfl ?_
            refine ⟨rfl, ?_⟩
            rw [← HO.out, sift_two hi first r dk (by omega) (by rw [← HG.out, ← HG.out, qp1, show p1 + 1 = p2 from by omega]; exact hl1), if_neg (by rw [← HG.out, ← HG.out, q0, qp2, hl2]; simp)]
            exact HQ.out.drewN nq
          · have hl2 : ltInt (G p0) (G p2) = true := of_nnot (by assumption)
            go_region
            all_goals go_wp2
            go_roundw
            case rel =>
              refine ⟨c2, swp dk p0 p2, rfl, by omega, by rw [size_swp]; exact hsk, ?_, ?_⟩
              · rw [HG.out, HG.out]
                exact (HQ.out.drewN (nq + 1)).swap (by omega) (by omega)
              · rw [← HO.out, sift_two hi first r dk (by omega) (by rw [← HG.out, ← HG.out, qp1, show p1 + 1 = p2 from by omega]; exact hl1), if_pos (by rw [← HG.out, ← HG.out, q0, qp2, hl2])]
                rw [q0, qp2, qc2]
            case measure => simp [intV]; omega
        · have hl1 : ltInt (G p1) (G p2) = false := by assumption
          obtain ⟨wq, ewq⟩ : ∃ y : World, y = wr.drewN nq := ⟨_, rfl⟩
          rw [← ewq]
          have HQ : Hid (Sorted w g o N dk wq) := by rw [ewq]; exact HS.out.drewN nq
          have hcwq : ∀ t, t < d.size → wq.cell? ⟨g, o + t, none⟩ = some (.int .u64 (G t)) := fun t ht => by rw [HG.out]; exact HQ.out.row.cell t (by omega)
          have hfwq : ∀ t, t < d.size → wq.frozen? ⟨g, o + t, none⟩ = false := fun t ht => HQ.out.row.free t (by omega)
          clear ewq
          go_quiet (first | (go_at_call 103; refine Calls.quiet_of_same (less_is _ _ _)))
          go_wp2
          · have hl2 : ltInt (G p0) (G p1) = false := of_not (by assumption)
            refine bodyPost_ret (results_none rfl _ _ _) rfl ?_
            refine ⟨rfl, ?_⟩
            rw [← HO.out, sift_one hi first r dk (by omega) (.inr (by rw [← HG.out, ← HG.out, qp1, show p1 + 1 = p2 from by omega]; exact hl1)), if_neg (by rw [← HG.out, ← HG.out, q0, qp1, hl2]; simp)]
            exact HQ.out.drewN nq
          · have hl2 : ltInt (G p0) (G p1) = true := of_nnot (by assumption)
            go_region
            all_goals go_wp2
            go_roundw
            case rel =>
              refine ⟨c1, swp dk p0 p1, rfl, by omega, by rw [size_swp]; exact hsk, ?_, ?_⟩
              · rw [HG.out, HG.out]
                exact (HQ.out.drewN (nq + 1)).swap (by omega) (by omega)
              · rw [← HO.out, sift_one hi first r dk (by omega) (.inr (by rw [← HG.out, ← HG.out, qp1, show p1 + 1 = p2 from by omega]; exact hl1)), if_pos (by rw [← HG.out, ← HG.out, q0, qp1, hl2])]
                rw [q0, qp1, qc1]
            case measure => simp [intV]; omega
      · go_quiet (first | (go_at_call 103; refine Calls.quiet_of_same (less_is _ _ _)))
        go_wp2
        obtain ⟨wq, ewq⟩ : ∃ y : World, y = wr.drewN nq := ⟨_, rfl⟩
        rw [← ewq]
        have HQ : Hid (Sorted w g o N dk wq) := by rw [ewq]; exact HS.out.drewN nq
        have hcwq : ∀ t, t < d.size → wq.cell? ⟨g, o + t, none⟩ = some (.int .u64 (G t)) := fun t ht => by rw [HG.out]; exact HQ.out.row.cell t (by omega)
        have hfwq : ∀ t, t < d.size → wq.frozen? ⟨g, o + t, none⟩ = false := fun t ht => HQ.out.row.free t (by omega)
        clear ewq
        go_quiet (first | (go_at_call 103; refine Calls.quiet_of_same (less_is _ _ _)))
        go_wp2
        · have hl2 : ltInt (G p0) (G p1) = false := of_not (by assumption)
          refine bodyPost_ret (results_none rfl _ _ _) rfl ?_
          refine ⟨rfl, ?_⟩
          rw [← HO.out, sift_one hi first r dk (by omega) (.inl (by omega)), if_neg (by rw [← HG.out, ← HG.out, q0, qp1, hl2]; simp)]
          exact HQ.out.drewN nq
        · have hl2 : ltInt (G p0) (G p1) = true := of_nnot (by assumption)
          go_region
          all_goals go_wp2
          go_roundw
          case rel =>
            refine ⟨c1, swp dk p0 p1, rfl, by omega, by rw [size_swp]; exact hsk, ?_, ?_⟩
            · rw [HG.out, HG.out]
              exact (HQ.out.drewN (nq + 1)).swap (by omega) (by omega)
            · rw [← HO.out, sift_one hi first r dk (by omega) (.inl (by omega)), if_pos (by rw [← HG.out, ← HG.out, q0, qp1, hl2])]
              rw [q0, qp1, qc1]
          case measure => simp [intV]; omega

end Go.Proofs.YtmfdhcnnhlchbaaGreat

namespace Go.Proofs.YtmfdhcnnhlchbaaGreat
open Go.RowKit Go.Sort

theorem size_insInner (a : Nat) : ∀ (j : Nat) (d : Array Int), (insInner ltInt a j d).size = d.size
  | 0, d => rfl
  | j + 1, d => by
    unfold insInner
    split
    · rw [size_insInner, size_swp]
    · rfl

theorem size_sift (hi first : Nat) : ∀ (n r : Nat) (d : Array Int), hi - r ≤ n → (siftDown ltInt hi first r d).size = d.size := by
  intro n
  induction n with
  | zero =>
    intro r d h
    rw [sift_end hi first r d (by omega)]
  | succ n ih =>
    intro r d h
    unfold siftDown
    repeat' split
    all_goals first
      | rfl
      | (rw [ih _ _ (by omega), size_swp])

theorem size_siftD (hi first r : Nat) (d : Array Int) : (siftDown ltInt hi first r d).size = d.size := size_sift hi first (hi - r) r d (Nat.le_refl _)

theorem sift_at {w : World} {g o N cap lo hi first n : Nat} {d : Array Int} (hn : d.size = n) (h : RowAt w g o N d) (hf : first + hi ≤ n) (hs : n < 1099511627776) (hlo : lo ≤ hi) :
    Calls Tryz.prog 108 #[.slice (some ⟨g, o, none⟩) n cap, .int .i64 lo, .int .i64 hi, .int .i64 first] w fun e w' => e = .returned (.tuple #[]) ∧ Sorted w g o N (siftDown ltInt hi first lo d) w' := by
  subst hn
  exact sift_is h hf hs hlo

theorem half_is (n : Nat) : ((n : Int) - 1).tdiv 2 = ((n - 1) / 2 : Nat) := by
  cases n with
  | zero => rfl
  | succ n =>
    rw [show ((n + 1 : Nat) : Int) - 1 = n from by omega, Int.tdiv_eq_ediv_of_nonneg (by omega)]
    simp

set_option maxRecDepth 100000 in
set_option maxHeartbeats 8000000 in
/-- slices.heapSortOrdered. -/
theorem heap_is {w : World} {g o N cap a b : Nat} {d : Array Int} (h : RowAt w g o N d) (hab : a ≤ b) (hb : b ≤ d.size) (hs : d.size < 1099511627776) :
    Calls Tryz.prog 98 #[.slice (some ⟨g, o, none⟩) d.size cap, .int .i64 a, .int .i64 b] w fun e w' => e = .returned (.tuple #[]) ∧ Sorted w g o N (heapSort ltInt d a b) w' := by
  obtain ⟨hi, e0⟩ : ∃ hi : Nat, (b : Int) - a = hi := ⟨b - a, by omega⟩
  obtain ⟨mm, e1⟩ : ∃ m : Nat, ((hi : Int) - 1).tdiv 2 = m := ⟨(hi - 1) / 2, half_is hi⟩
  have em : mm = (hi - 1) / 2 := by rw [half_is] at e1; omega
  have HE : Hid (heapSort ltInt d a b = heapPop ltInt a hi (heapBuild ltInt hi a (mm + 1) d)) := by
    show heapSort ltInt d a b = _
    unfold heapSort
    rw [show b - a = hi from by omega, em]
  have u0 := wrap_i (n := hi) (by omega)
  have u1 := wrap_i (n := mm) (by omega)
  go_enter Tryz.func98, Tryz.ntmps98
  go_wp2
  go_loopw [9] (fun vi wr => ∃ (k : Nat) (dk : Array Int), vi = .int .i64 ((k : Int) - 1) ∧ k ≤ mm + 1 ∧ dk.size = d.size ∧ Sorted w g o N dk wr ∧ heapBuild ltInt hi a k dk = heapBuild ltInt hi a (mm + 1) d) (fun vi _ => (intV vi + 1).toNat)
  case atStart => exact ⟨mm + 1, d, by congr 1; omega, Nat.le_refl _, rfl, Sorted.start h, rfl⟩
  case round =>
    obtain ⟨k, dk, rfl, hk, hsk, hSk, hO⟩ := hrel
    have HO : Hid (heapBuild ltInt hi a k dk = heapBuild ltInt hi a (mm + 1) d) := hO
    clear hO
    cases k with
    | zero =>
      go_wp2
      clear hk
      go_loopw [10] (fun vi wr2 => ∃ (k : Nat) (dj : Array Int), vi = .int .i64 ((k : Int) - 1) ∧ k ≤ hi ∧ dj.size = d.size ∧ Sorted w g o N dj wr2 ∧ heapPop ltInt a k dj = heapPop ltInt a hi dk) (fun vi _ => (intV vi + 1).toNat)
      case atStart => exact ⟨hi, dk, rfl, Nat.le_refl _, hsk, hSk, rfl⟩
      case round =>
        obtain ⟨k, dj, rfl, hk, hsj, hSj, hP⟩ := hrel
        have HP : Hid (heapPop ltInt a k dj = heapPop ltInt a hi dk) := hP
        clear hP
        cases k with
        | zero =>
          go_wp2
          go_end0
          refine ⟨rfl, ?_⟩
          rw [HE.out, ← HO.out]
          show Sorted w g o N (heapPop ltInt a hi dk) wr
          rw [← HP.out]
          exact hSj
        | succ j =>
          obtain ⟨G, hG⟩ : ∃ G : Nat → Int, ∀ t, G t = dj[t]! := ⟨fun t => dj[t]!, fun _ => rfl⟩
          have hcw : ∀ t, t < d.size → wr.cell? ⟨g, o + t, none⟩ = some (.int .u64 (G t)) := fun t ht => by rw [hG]; exact hSj.row.cell t (by omega)
          have hfw : ∀ t, t < d.size → wr.frozen? ⟨g, o + t, none⟩ = false := fun t ht => hSj.row.free t (by omega)
          have HG : Hid (∀ t, G t = dj[t]!) := hG
          have HS : Hid (Sorted w g o N dj wr) := hSj
          clear hG hSj
          have ej : ((j + 1 : Nat) : Int) - 1 = j := by omega
          rw [ej]
          obtain ⟨p1, f1⟩ : ∃ p1 : Nat, (a : Int) + j = p1 := ⟨a + j, by omega⟩
          have u3 := wrap_i (n := p1) (by omega)
          have n1 : p1 < d.size := by omega
          have n2 : a < d.size := by omega
          by_cases hj0 : p1 = a
          · subst hj0
            go_wp2_with fail
            go_region
            all_goals go_wp2_with fail
            have hS1 : Sorted w g o N (swp dj p1 p1) _ := HS.out.drew.swap (i := p1) (j := p1) (by omega) (by omega)
            rw [← HG.out] at hS1
            refine (sift_at (lo := 0) (hi := j) (first := p1) (by rw [size_swp]; exact hsj) hS1.row (by omega) hs (by omega)).mono ?_
            rintro e w2 ⟨rfl, hS2⟩
            go_wp2_with fail
            go_roundw
            case rel =>
              repeat apply Exists.intro
              refine ⟨?_, rfl⟩
              refine ⟨j, siftDown ltInt j p1 0 (swp dj p1 p1), rfl, by omega, by rw [size_siftD, size_swp]; exact hsj, hS1.trans hS2, ?_⟩
              rw [← HP.out, show heapPop ltInt p1 (j + 1) dj = heapPop ltInt p1 j (siftDown ltInt j p1 0 (swp dj p1 (p1 + j))) from rfl, show p1 + j = p1 from by omega]
            case measure => simp [intV]
          · have hj1 : ¬ a = p1 := fun e => hj0 e.symm
            go_wp2_with fail
            go_region
            all_goals go_wp2_with fail
            have hS1 : Sorted w g o N (swp dj a p1) _ := HS.out.drew.swap (i := a) (j := p1) (by omega) (by omega)
            rw [← HG.out, ← HG.out] at hS1
            refine (sift_at (lo := 0) (hi := j) (first := a) (by rw [size_swp]; exact hsj) hS1.row (by omega) hs (by omega)).mono ?_
            rintro e w2 ⟨rfl, hS2⟩
            go_wp2_with fail
            go_roundw
            case rel =>
              repeat apply Exists.intro
              refine ⟨?_, rfl⟩
              refine ⟨j, siftDown ltInt j a 0 (swp dj a p1), rfl, by omega, by rw [size_siftD, size_swp]; exact hsj, hS1.trans hS2, ?_⟩
              rw [← HP.out, show heapPop ltInt a (j + 1) dj = heapPop ltInt a j (siftDown ltInt j a 0 (swp dj a (a + j))) from rfl, show a + j = p1 from by omega]
            case measure => simp [intV]
    | succ j =>
      have ej : ((j + 1 : Nat) : Int) - 1 = j := by omega
      rw [ej]
      have hcall := sift_is (cap := cap) (lo := j) (hi := hi) (first := a) hSk.row (by omega) (by omega) (by omega)
      rw [hsk] at hcall
      go_wp2_with (go_at_call 108; refine hcall.mono ?_; rintro e w2 ⟨rfl, hS2⟩)
      go_roundw
      case rel =>
        refine ⟨j, siftDown ltInt hi a j dk, rfl, by omega, by rw [size_siftD]; exact hsk, hSk.trans hS2, ?_⟩
        rw [← HO.out]
        rfl
      case measure => simp [intV]

end Go.Proofs.YtmfdhcnnhlchbaaGreat

namespace Go.Proofs.YtmfdhcnnhlchbaaGreat
open Go.RowKit Go.Sort

set_option maxRecDepth 100000 in
set_option maxHeartbeats 1600000 in
/-- slices.reverseRangeOrdered. -/
theorem reverse_is {w : World} {g o N cap a b n : Nat} {d : Array Int} (hn : d.size = n) (h : RowAt w g o N d) (hab : a < b) (hb : b ≤ n) (hs : n < 1099511627776) :
    Calls Tryz.prog 101 #[.slice (some ⟨g, o, none⟩) n cap, .int .i64 a, .int .i64 b] w fun e w' => e = .returned (.tuple #[]) ∧ Sorted w g o N (reverseRange d a b) w' := by
  obtain ⟨b1, e0⟩ : ∃ b1 : Nat, (b : Int) - 1 = b1 := ⟨b - 1, by omega⟩
  have HE : Hid (reverseRange d a b = reverseLoop a b1 d) := by
    show reverseRange d a b = _
    unfold reverseRange
    rw [show b - 1 = b1 from by omega]
  have u0 := wrap_i (n := b1) (by omega)
  go_enter Tryz.func101, Tryz.ntmps101
  go_wp2
  go_loopw [6, 7] (fun vi vj wr => ∃ (i j : Nat) (dk : Array Int), vi = .int .i64 i ∧ vj = .int .i64 j ∧ i ≤ j + 1 ∧ j ≤ b1 ∧ dk.size = n ∧ Sorted w g o N dk wr ∧ reverseLoop i j dk = reverseLoop a b1 d) (fun vi vj _ => (intV vj + 1 - intV vi).toNat)
  case atStart => exact ⟨a, b1, d, rfl, rfl, by omega, Nat.le_refl _, hn, Sorted.start h, rfl⟩
  case round =>
    obtain ⟨i, j, dk, rfl, rfl, hij, hj, hsk, hSk, hO⟩ := hrel
    have HO : Hid (reverseLoop i j dk = reverseLoop a b1 d) := hO
    clear hO
    obtain ⟨G, hG⟩ : ∃ G : Nat → Int, ∀ t, G t = dk[t]! := ⟨fun t => dk[t]!, fun _ => rfl⟩
    have hcw : ∀ t, t < n → wr.cell? ⟨g, o + t, none⟩ = some (.int .u64 (G t)) := fun t ht => by rw [hG]; exact hSk.row.cell t (by omega)
    have hfw : ∀ t, t < n → wr.frozen? ⟨g, o + t, none⟩ = false := fun t ht => hSk.row.free t (by omega)
    have HG : Hid (∀ t, G t = dk[t]!) := hG
    have HS : Hid (Sorted w g o N dk wr) := hSk
    clear hG hSk
    by_cases hlt : i < j
    · have hne : ¬ i = j := by omega
      have hne2 : ¬ j = i := by omega
      go_wp2
      go_region
      all_goals go_wp2
      go_roundw
      case rel =>
        refine ⟨i + 1, j - 1, swp dk i j, by go_num, by congr 1; omega, by omega, by omega, by rw [size_swp]; exact hsk, ?_, ?_⟩
        · rw [HG.out, HG.out]
          exact HS.out.drew.swap (by omega) (by omega)
        · rw [← HO.out]
          conv => rhs; unfold reverseLoop
          rw [if_pos hlt]
      case measure => simp [intV]; omega
    · go_wp2
      go_end0
      refine ⟨rfl, ?_⟩
      rw [HE.out, ← HO.out]
      unfold reverseLoop
      rw [if_neg hlt]
      exact HS.out

end Go.Proofs.YtmfdhcnnhlchbaaGreat

namespace Go.Proofs.YtmfdhcnnhlchbaaGreat
open Go.RowKit Go.Sort

/-- A new int, that only its maker has. -/
def BoxAt (w : World) (s n : Nat) : Prop := w.heap[s]? = some (.cells #[.int .i64 (n : Int)] 3 (0, 0))

structure Picked (w : World) (s n : Nat) (w' : World) : Prop where
  box : BoxAt w' s n
  by_ : w.grownBy w' (some s)
  size : w'.heap.size = w.heap.size

theorem RowAt.keep {w w' : World} {g o N : Nat} {d : Array Int} (h : RowAt w g o N d) (e : w'.heap[g]? = w.heap[g]?) : RowAt w' g o N d := by
  obtain ⟨cur, hb, r⟩ := h
  exact ⟨cur, e.trans hb, r⟩

theorem RowAt.lt {w : World} {g o N : Nat} {d : Array Int} (h : RowAt w g o N d) : g < w.heap.size := by
  obtain ⟨cur, hb, r⟩ := h
  exact blk_lt hb

theorem Picked.row {w w' : World} {s n g o N : Nat} {d : Array Int} (p : Picked w s n w') (h : RowAt w g o N d) (hne : s ≠ g) : RowAt w' g o N d :=
  h.keep (p.by_.block g h.lt (fun e => hne (by simpa using e.symm)))

theorem Picked.trans {w w1 w2 : World} {s n m : Nat} (h1 : Picked w s n w1) (h2 : Picked w1 s m w2) : Picked w s m w2 := ⟨h2.box, grown_trans h1.by_ h2.by_ (fun _ e => .inl e), h2.size.trans h1.size⟩

theorem BoxAt.drewN {w : World} {s n : Nat} (h : BoxAt w s n) (q : Nat) : Picked w s n (w.drewN q) := ⟨by unfold BoxAt; rw [drewN_heap]; exact h, grown_drewN (grown_refl w _) q, by rw [drewN_heap]⟩

theorem BoxAt.set {w : World} {s n : Nat} (h : BoxAt w s n) (m : Nat) : Picked w s m (w.setCell ⟨s, 0, none⟩ (.int .i64 (m : Int))) :=
  ⟨by unfold BoxAt; rw [setCell_same h]; rfl, grown_set (grown_refl w _) _ _ (.inl rfl), setCell_size _ _ _⟩

set_option maxRecDepth 100000 in
set_option maxHeartbeats 1600000 in
theorem order2_is {w : World} {g o N cap a b n s sw : Nat} {d : Array Int} (hn : d.size = n) (h : RowAt w g o N d) (hx : BoxAt w s sw) (ha : a < n) (hb : b < n) (hsw : sw ≤ 1000) :
    Calls Tryz.prog 114 #[.slice (some ⟨g, o, none⟩) n cap, .int .i64 a, .int .i64 b, .pointer (some ⟨s, 0, none⟩)] w fun e w' => e = .returned (.tuple #[.int .i64 (order2 ltInt d a b sw).1, .int .i64 (order2 ltInt d a b sw).2.1]) ∧ Picked w s (order2 ltInt d a b sw).2.2 w' := by
  obtain ⟨G, hG⟩ : ∃ G : Nat → Int, ∀ t, G t = d[t]! := ⟨fun t => d[t]!, fun _ => rfl⟩
  have hcw : ∀ t, t < n → w.cell? ⟨g, o + t, none⟩ = some (.int .u64 (G t)) := fun t ht => by rw [hG]; exact h.cell t (by omega)
  have HG : Hid (∀ t, G t = d[t]!) := hG
  have HX : Hid (BoxAt w s sw) := hx
  have hbc : w.cell? ⟨s, 0, none⟩ = some (.int .i64 (sw : Int)) := by unfold BoxAt at hx; simp [World.cell?, hx]
  have hbf : w.frozen? ⟨s, 0, none⟩ = false := by unfold BoxAt at hx; simp [World.frozen?, hx]
  obtain ⟨sw1, es⟩ : ∃ m : Nat, (sw : Int) + 1 = m := ⟨sw + 1, by omega⟩
  have u1 := wrap_i (n := sw1) (by omega)
  clear hG hx
  go_enter Tryz.func114, Tryz.ntmps114
  go_wp2
  go_quiet (first | (go_at_call 103; refine Calls.quiet_of_same (less_is _ _ _)))
  go_wp2
  · have hl : ltInt (G b) (G a) = true := by assumption
    go_ret2
    unfold order2
    rw [← HG.out, ← HG.out, if_pos hl]
    refine ⟨rfl, ?_⟩
    show Picked w s (sw + 1) _
    rw [show sw + 1 = sw1 from by omega]
    exact (HX.out.drewN nq).trans ((HX.out.drewN nq).box.set sw1)
  · have hl : ltInt (G b) (G a) = false := by assumption
    go_ret2
    unfold order2
    rw [← HG.out, ← HG.out, if_neg (by rw [hl]; simp)]
    exact ⟨rfl, HX.out.drewN nq⟩

theorem order2_in (d : Array Int) {a b sw n : Nat} (ha : a < n) (hb : b < n) : (order2 ltInt d a b sw).1 < n ∧ (order2 ltInt d a b sw).2.1 < n ∧ (order2 ltInt d a b sw).2.2 ≤ sw + 1 := by
  unfold order2
  split
  · exact ⟨hb, ha, Nat.le_refl _⟩
  · exact ⟨ha, hb, Nat.le_succ _⟩

theorem median_in (d : Array Int) {a b c sw n : Nat} (ha : a < n) (hb : b < n) (hc : c < n) : (median ltInt d a b c sw).1 < n ∧ (median ltInt d a b c sw).2 ≤ sw + 3 := by
  unfold median
  have h1 := order2_in d (sw := sw) ha hb
  have h2 := order2_in d (sw := (order2 ltInt d a b sw).2.2) h1.2.1 hc
  have h3 := order2_in d (sw := (order2 ltInt d (order2 ltInt d a b sw).2.1 c (order2 ltInt d a b sw).2.2).2.2) h1.1 h2.1
  exact ⟨h3.2.1, by simp only []; omega⟩

set_option maxRecDepth 100000 in
set_option maxHeartbeats 1600000 in
theorem median_is {w : World} {g o N cap a b c n s sw : Nat} {d : Array Int} (hn : d.size = n) (h : RowAt w g o N d) (hx : BoxAt w s sw) (hne : s ≠ g) (ha : a < n) (hb : b < n) (hc : c < n) (hsw : sw ≤ 900) :
    Calls Tryz.prog 112 #[.slice (some ⟨g, o, none⟩) n cap, .int .i64 a, .int .i64 b, .int .i64 c, .pointer (some ⟨s, 0, none⟩)] w fun e w' => e = .returned (.int .i64 (median ltInt d a b c sw).1) ∧ Picked w s (median ltInt d a b c sw).2 w' := by
  have hM : median ltInt d a b c sw = ((order2 ltInt d (order2 ltInt d a b sw).1 (order2 ltInt d (order2 ltInt d a b sw).2.1 c (order2 ltInt d a b sw).2.2).1 (order2 ltInt d (order2 ltInt d a b sw).2.1 c (order2 ltInt d a b sw).2.2).2.2).2.1, (order2 ltInt d (order2 ltInt d a b sw).1 (order2 ltInt d (order2 ltInt d a b sw).2.1 c (order2 ltInt d a b sw).2.2).1 (order2 ltInt d (order2 ltInt d a b sw).2.1 c (order2 ltInt d a b sw).2.2).2.2).2.2) := rfl
  have i1 := order2_in d (sw := sw) ha hb
  have c1 := order2_is (cap := cap) hn h hx ha hb (by omega)
  obtain ⟨r1, e1⟩ : ∃ r, order2 ltInt d a b sw = r := ⟨_, rfl⟩
  rw [e1] at i1 c1 hM
  obtain ⟨x1, y1, s1⟩ := r1
  have i2 := order2_in d (sw := s1) i1.2.1 hc
  obtain ⟨r2, e2⟩ : ∃ r, order2 ltInt d y1 c s1 = r := ⟨_, rfl⟩
  simp only [e2] at i2 hM
  obtain ⟨x2, y2, s2⟩ := r2
  obtain ⟨r3, e3⟩ : ∃ r, order2 ltInt d x1 x2 s2 = r := ⟨_, rfl⟩
  simp only [e3] at hM
  obtain ⟨x3, y3, s3⟩ := r3
  rw [hM]
  simp only at i1 i2 c1
  clear hM e1
  go_enter Tryz.func112, Tryz.ntmps112
  go_wp2_with fail
  refine c1.mono ?_
  rintro e w1 ⟨rfl, p1⟩
  go_wp2_with fail
  have c2 := order2_is (cap := cap) hn (p1.row h hne) p1.box i1.2.1 hc (by omega)
  rw [e2] at c2
  refine c2.mono ?_
  rintro e w2 ⟨rfl, p2⟩
  go_wp2_with fail
  have p12 := p1.trans p2
  have c3 := order2_is (cap := cap) hn (p12.row h hne) p12.box i1.1 i2.1 (by omega)
  rw [e3] at c3
  refine c3.mono ?_
  rintro e w3 ⟨rfl, p3⟩
  go_wp2_with fail
  go_ret
  exact ⟨rfl, p12.trans p3⟩

set_option maxRecDepth 100000 in
theorem medianAdj_is {w : World} {g o N cap a n s sw : Nat} {d : Array Int} (hn : d.size = n) (h : RowAt w g o N d) (hx : BoxAt w s sw) (hne : s ≠ g) (ha : 0 < a) (hb : a + 1 < n) (hs : n < 1099511627776) (hsw : sw ≤ 900) :
    Calls Tryz.prog 111 #[.slice (some ⟨g, o, none⟩) n cap, .int .i64 a, .pointer (some ⟨s, 0, none⟩)] w fun e w' => e = .returned (.int .i64 (medianAdjacent ltInt d a sw).1) ∧ Picked w s (medianAdjacent ltInt d a sw).2 w' := by
  obtain ⟨a0, e0⟩ : ∃ a0 : Nat, (a : Int) - 1 = a0 := ⟨a - 1, by omega⟩
  obtain ⟨a2, e2⟩ : ∃ a2 : Nat, (a : Int) + 1 = a2 := ⟨a + 1, by omega⟩
  have u0 := wrap_i (n := a0) (by omega)
  have u2 := wrap_i (n := a2) (by omega)
  have hc := median_is (cap := cap) (a := a0) (b := a) (c := a2) hn h hx hne (by omega) (by omega) (by omega) hsw
  rw [show medianAdjacent ltInt d a sw = median ltInt d a0 a a2 sw from by unfold medianAdjacent; rw [show a - 1 = a0 from by omega, show a + 1 = a2 from by omega]]
  go_enter Tryz.func111, Tryz.ntmps111
  go_wp2_with fail
  refine hc.mono ?_
  rintro e w1 ⟨rfl, p1⟩
  go_wp2_with fail
  go_ret
  exact ⟨rfl, p1⟩

end Go.Proofs.YtmfdhcnnhlchbaaGreat
