import Derived.Test.YtmfdhcnnhlchbaaGreatC21
namespace Go.Proofs.YtmfdhcnnhlchbaaGreat
open Go.RowKit Go.Sort

def hintN : Hint → Int
  | .unknown => 0
  | .increasing => 1
  | .decreasing => 2

set_option maxRecDepth 100000 in
set_option maxHeartbeats 4000000 in
theorem choose_is {w : World} {g o N cap a b n : Nat} {d : Array Int} (hn : d.size = n) (h : RowAt w g o N d) (hab : a < b) (hb : b ≤ n) (hs : n < 1099511627776) :
    Calls Tryz.prog 100 #[.slice (some ⟨g, o, none⟩) n cap, .int .i64 a, .int .i64 b] w fun e w' => e = .returned (.tuple #[.int .i64 (choosePivot ltInt d a b).1, .int .i64 (hintN (choosePivot ltInt d a b).2)]) ∧ w.grownBy w' none := by
  obtain ⟨l, el⟩ : ∃ l : Nat, (b : Int) - a = l := ⟨b - a, by omega⟩
  obtain ⟨q, eq⟩ : ∃ q : Nat, (l : Int) / 4 = q := ⟨l / 4, by omega⟩
  obtain ⟨q2, eq2⟩ : ∃ m : Nat, (q : Int) * 2 = m := ⟨q * 2, by omega⟩
  obtain ⟨q3, eq3⟩ : ∃ m : Nat, (q : Int) * 3 = m := ⟨q * 3, by omega⟩
  obtain ⟨i, ei⟩ : ∃ m : Nat, (a : Int) + q = m := ⟨a + q, by omega⟩
  obtain ⟨j, ej⟩ : ∃ m : Nat, (a : Int) + q2 = m := ⟨a + q2, by omega⟩
  obtain ⟨k, ek⟩ : ∃ m : Nat, (a : Int) + q3 = m := ⟨a + q3, by omega⟩
  have u1 := wrap_i (n := l) (by omega)
  have u2 := wrap_i (n := q) (by omega)
  have u3 := wrap_i (n := q2) (by omega)
  have u4 := wrap_i (n := q3) (by omega)
  have u5 := wrap_i (n := i) (by omega)
  have u6 := wrap_i (n := j) (by omega)
  have u7 := wrap_i (n := k) (by omega)
  have eb : b - a = l := by omega
  have eq' : l / 4 = q := by omega
  have ei' : a + q * 1 = i := by omega
  have ej' : a + q * 2 = j := by omega
  have ek' : a + q * 3 = k := by omega
  by_cases h8 : l < 8
  · have HC : Hid (choosePivot ltInt d a b = (j, .increasing)) := by
      show choosePivot ltInt d a b = _
      unfold choosePivot
      simp only [eb, eq', ei', ej', ek']
      rw [if_neg (by omega)]
      simp
    go_enter Tryz.func100, Tryz.ntmps100
    go_wp2_with fail
    go_ret2
    rw [HC.out]
    exact ⟨rfl, World.grownBy_alloc _ _ _⟩
  · obtain ⟨w1, hw1⟩ : ∃ y : World, y = w.alloc (.cells #[.int .i64 0] 3) := ⟨_, rfl⟩
    have g1 : w.grownBy w1 none := by rw [hw1]; exact World.grownBy_alloc _ _ _
    have hb1 : BoxAt w1 w.heap.size 0 := by rw [hw1]; exact heap_alloc_new w _
    have hr1 : RowAt w1 g o N d := h.keep (g1.block g h.lt (by simp))
    have hne : w.heap.size ≠ g := by have := h.lt; omega
    by_cases h50 : l < 50
    · have hc := median_is (cap := cap) (a := i) (b := j) (c := k) hn hr1 hb1 hne (by omega) (by omega) (by omega) (by omega)
      obtain ⟨r, er⟩ : ∃ r, median ltInt d i j k 0 = r := ⟨_, rfl⟩
      rw [er] at hc
      have HC : Hid (choosePivot ltInt d a b = (r.1, if r.2 = 0 then .increasing else if r.2 = 12 then .decreasing else .unknown)) := by
        show choosePivot ltInt d a b = _
        unfold choosePivot
        simp only [eb, eq', ei', ej', ek', er]
        rw [if_pos (by omega), if_neg (by omega)]
      obtain ⟨pv, m⟩ := r
      simp only at hc HC
      go_enter Tryz.func100, Tryz.ntmps100
      go_wp2_with fail
      rw [← hw1]
      refine hc.mono ?_
      rintro e w2 ⟨rfl, p2⟩
      have hbx := p2.box
      unfold BoxAt at hbx
      have hzl := blk_lt hbx
      by_cases hm0 : m = 0
      · rw [hm0] at hbx HC
        have hc0 : w2.cell? ⟨w.heap.size, 0, none⟩ = some (.int .i64 0) := by simp [World.cell?, hbx]
        go_wp2_with fail
        go_ret2
        rw [HC.out]
        exact ⟨by simp [hintN], (grown_trans g1 p2.by_ (fun k e => by cases e; exact .inr (Nat.le_refl _)))⟩
      · by_cases hm12 : m = 12
        · rw [hm12] at hbx HC
          have hc0 : w2.cell? ⟨w.heap.size, 0, none⟩ = some (.int .i64 12) := by simp [World.cell?, hbx]
          go_wp2_with fail
          go_ret2
          rw [HC.out]
          exact ⟨by simp [hintN], (grown_trans g1 p2.by_ (fun k e => by cases e; exact .inr (Nat.le_refl _)))⟩
        · have hc0 : w2.cell? ⟨w.heap.size, 0, none⟩ = some (.int .i64 (m : Int)) := by simp [World.cell?, hbx]
          have hn0 : ((m : Int) == 0) = false := by rw [beq_eq_false_iff_ne]; omega
          have hn1 : ((m : Int) == 12) = false := by rw [beq_eq_false_iff_ne]; omega
          have hn2 : ¬ (m : Int) = 0 := by omega
          have hn3 : ¬ (m : Int) = 12 := by omega
          go_wp2_with fail
          go_ret2
          rw [HC.out]
          exact ⟨by simp [hintN, hm0, hm12], (grown_trans g1 p2.by_ (fun k e => by cases e; exact .inr (Nat.le_refl _)))⟩
    · have hc1 := medianAdj_is (cap := cap) (a := i) hn hr1 hb1 hne (by omega) (by omega) hs (by omega)
      have in1 := median_in d (a := i - 1) (b := i) (c := i + 1) (sw := 0) (n := n) (by omega) (by omega) (by omega)
      obtain ⟨r1, er1⟩ : ∃ r, medianAdjacent ltInt d i 0 = r := ⟨_, rfl⟩
      rw [show median ltInt d (i - 1) i (i + 1) 0 = r1 from er1] at in1
      rw [er1] at hc1
      obtain ⟨i1, m1⟩ := r1
      have in2 := median_in d (a := j - 1) (b := j) (c := j + 1) (sw := m1) (n := n) (by omega) (by omega) (by omega)
      obtain ⟨r2, er2⟩ : ∃ r, medianAdjacent ltInt d j m1 = r := ⟨_, rfl⟩
      rw [show median ltInt d (j - 1) j (j + 1) m1 = r2 from er2] at in2
      obtain ⟨j1, m2⟩ := r2
      have in3 := median_in d (a := k - 1) (b := k) (c := k + 1) (sw := m2) (n := n) (by omega) (by omega) (by omega)
      obtain ⟨r3, er3⟩ : ∃ r, medianAdjacent ltInt d k m2 = r := ⟨_, rfl⟩
      rw [show median ltInt d (k - 1) k (k + 1) m2 = r3 from er3] at in3
      obtain ⟨k1, m3⟩ := r3
      obtain ⟨r, er⟩ : ∃ r, median ltInt d i1 j1 k1 m3 = r := ⟨_, rfl⟩
      have HC : Hid (choosePivot ltInt d a b = (r.1, if r.2 = 0 then .increasing else if r.2 = 12 then .decreasing else .unknown)) := by
        show choosePivot ltInt d a b = _
        unfold choosePivot
        simp only [eb, eq', ei', ej', ek', er1, er2, er3, er]
        rw [if_pos (by omega), if_pos (by omega)]
      obtain ⟨pv, m⟩ := r
      simp only at hc1 HC in1 in2 in3
      go_enter Tryz.func100, Tryz.ntmps100
      go_wp2_with fail
      rw [← hw1]
      refine hc1.mono ?_
      rintro e v1 ⟨rfl, p1⟩
      go_wp2_with fail
      have hc2 := medianAdj_is (cap := cap) (a := j) hn (p1.row hr1 hne) p1.box hne (by omega) (by omega) hs (by omega)
      rw [er2] at hc2
      refine hc2.mono ?_
      rintro e v2 ⟨rfl, p2⟩
      go_wp2_with fail
      have p12 := p1.trans p2
      have hc3 := medianAdj_is (cap := cap) (a := k) hn (p12.row hr1 hne) p12.box hne (by omega) (by omega) hs (by omega)
      rw [er3] at hc3
      refine hc3.mono ?_
      rintro e v3 ⟨rfl, p3⟩
      go_wp2_with fail
      have p13 := p12.trans p3
      have hc4 := median_is (cap := cap) (a := i1) (b := j1) (c := k1) hn (p13.row hr1 hne) p13.box hne in1.1 in2.1 in3.1 (by omega)
      rw [er] at hc4
      refine hc4.mono ?_
      rintro e v4 ⟨rfl, p4⟩
      have p14 := p13.trans p4
      have hbx := p14.box
      unfold BoxAt at hbx
      have hzl := blk_lt hbx
      by_cases hm0 : m = 0
      · rw [hm0] at hbx HC
        have hc0 : v4.cell? ⟨w.heap.size, 0, none⟩ = some (.int .i64 0) := by simp [World.cell?, hbx]
        go_wp2_with fail
        go_ret2
        rw [HC.out]
        exact ⟨by simp [hintN], (grown_trans g1 p14.by_ (fun k e => by cases e; exact .inr (Nat.le_refl _)))⟩
      · by_cases hm12 : m = 12
        · rw [hm12] at hbx HC
          have hc0 : v4.cell? ⟨w.heap.size, 0, none⟩ = some (.int .i64 12) := by simp [World.cell?, hbx]
          go_wp2_with fail
          go_ret2
          rw [HC.out]
          exact ⟨by simp [hintN], (grown_trans g1 p14.by_ (fun k e => by cases e; exact .inr (Nat.le_refl _)))⟩
        · have hc0 : v4.cell? ⟨w.heap.size, 0, none⟩ = some (.int .i64 (m : Int)) := by simp [World.cell?, hbx]
          have hn0 : ((m : Int) == 0) = false := by rw [beq_eq_false_iff_ne]; omega
          have hn1 : ((m : Int) == 12) = false := by rw [beq_eq_false_iff_ne]; omega
          have hn2 : ¬ (m : Int) = 0 := by omega
          have hn3 : ¬ (m : Int) = 12 := by omega
          go_wp2_with fail
          go_ret2
          rw [HC.out]
          exact ⟨by simp [hintN, hm0, hm12], (grown_trans g1 p14.by_ (fun k e => by cases e; exact .inr (Nat.le_refl _)))⟩

end Go.Proofs.YtmfdhcnnhlchbaaGreat
