import Derived.Test.YtmfdhcnnhlchbaaC15
namespace Go.Proofs.Ytmfdhcnnhlchbaa
open Go.RowKit Go.Maps

section
variable {w : World}

abbrev brMid (bp bf ah kp ka bp' bf' ah' : Nat) : Array Value := #[.bool true, .int .u64 1, .int .u64 1, .map (some bp), .slice none 0 0, .slice none 0 0, .slice none 0 0, .int .i64 0, .int .u64 0, .int .u64 0, .map (some bf), .int .u64 0, .int .u64 0, .slice (some ⟨ah, 0, none⟩) 1 1, .int .u64 0, .int .u64 0, .bool true, .int .u64 1, .int .i64 0, .int .i64 0, .map (some kp), .map (some ka), .bool true, .int .u64 1, .int .u64 1, .map (some bp'), .slice none 0 0, .slice none 0 0, .slice none 0 0, .int .i64 1, .int .u64 0, .int .u64 0, .map (some bf'), .int .u64 0, .int .u64 0, .slice (some ⟨ah', 0, none⟩) 1 1, .int .u64 0, .int .u64 0, .bool false, .int .u64 0, .int .i64 0, .int .i64 0, .map none, .map none, .int .i64 0]

theorem view_cells1 {W : World} {x bp bf ah kp ka bp' bf' ah' : Nat} (hX : W.heap[x]? = some (.cells (brMid bp bf ah kp ka bp' bf' ah') tBr (0, 0))) (hA : W.heap[ah]? = some (.cells #[Value.int .u64 0, Value.int .u64 0, Value.bool true, Value.int .u64 1, Value.int .i64 0, Value.int .i64 0, Value.slice none 0 0, Value.slice none 0 0, Value.slice none 0 0] tHeader (0, 0))) :
    W.cell? ⟨x, 13, none⟩ = some (.slice (some ⟨ah, 0, none⟩) 1 1) ∧ W.cell? ⟨ah, 0, none⟩ = some (.int .u64 0) ∧ W.cell? ⟨ah, 1, none⟩ = some (.int .u64 0) ∧ W.cell? ⟨ah, 2, none⟩ = some (.bool true) ∧ W.cell? ⟨ah, 3, none⟩ = some (.int .u64 1) ∧ W.cell? ⟨ah, 4, none⟩ = some (.int .i64 0) ∧ W.cell? ⟨ah, 5, none⟩ = some (.int .i64 0) ∧ W.cell? ⟨ah, 6, none⟩ = some (.slice none 0 0) ∧ W.cell? ⟨ah, 7, none⟩ = some (.slice none 0 0) ∧ W.cell? ⟨ah, 8, none⟩ = some (.slice none 0 0) := by
  refine ⟨?_, ?_, ?_, ?_, ?_, ?_, ?_, ?_, ?_, ?_⟩
  all_goals first
    | (simp [World.cell?, hX]; done)
    | (simp [World.cell?, hA]; done)

theorem known_cells1 {W : World} {x bp bf ah kp ka bp' bf' ah' : Nat} (hX : W.heap[x]? = some (.cells (brMid bp bf ah kp ka bp' bf' ah') tBr (0, 0))) :
    W.cell? ⟨x, 36, none⟩ = some (.int .u64 0) ∧ W.cell? ⟨x, 37, none⟩ = some (.int .u64 0) ∧ W.cell? ⟨x, 38, none⟩ = some (.bool false) ∧ W.cell? ⟨x, 39, none⟩ = some (.int .u64 0) ∧ W.cell? ⟨x, 40, none⟩ = some (.int .i64 0) ∧ W.cell? ⟨x, 41, none⟩ = some (.int .i64 0) ∧ W.cell? ⟨x, 42, none⟩ = some (.map none) ∧ W.cell? ⟨x, 43, none⟩ = some (.map none) ∧ (∀ k, W.frozen? ⟨x, k, none⟩ = false) := by
  refine ⟨?_, ?_, ?_, ?_, ?_, ?_, ?_, ?_, ?_⟩
  all_goals first
    | (intro k; simp [World.frozen?, hX])
    | simp [World.cell?, hX]


theorem mid_set {W : World} {x bp bf ah bp' bf' ah' kp ka : Nat} (hX : W.heap[x]? = some (.cells (brRaw bp bf ah bp' bf' ah') tBr (0, 0))) :
    ((((((((W.setCell ⟨x, 14, none⟩ (Value.int IntKind.u64 newHd.height)).setCell ⟨x, 15, none⟩ (Value.int IntKind.u64 newHd.time)).setCell ⟨x, 16, none⟩ (Value.bool newHd.isOpen)).setCell ⟨x, 17, none⟩ (Value.int IntKind.u64 newHd.nextRecv)).setCell ⟨x, 18, none⟩ (Value.int IntKind.i64 newHd.packets.length)).setCell ⟨x, 19, none⟩ (Value.int IntKind.i64 newHd.answers.length)).setCell ⟨x, 20, none⟩ (Value.map (some kp))).setCell ⟨x, 21, none⟩ (Value.map (some ka))).heap[x]? = some (.cells (brMid bp bf ah kp ka bp' bf' ah') tBr (0, 0)) := by
  refine (setCell_same (setCell_same (setCell_same (setCell_same (setCell_same (setCell_same (setCell_same (setCell_same hX _ _) _ _) _ _) _ _) _ _) _ _) _ _) _ _).trans ?_
  simp only [List.setIfInBounds_toArray, List.set_cons_succ, List.set_cons_zero, newHd, List.length_nil]
  rfl

theorem end_set {W : World} {x bp bf ah bp' bf' ah' kp ka kp' ka' : Nat} (hX : W.heap[x]? = some (.cells (brMid bp bf ah kp ka bp' bf' ah') tBr (0, 0))) :
    ((((((((W.setCell ⟨x, 36, none⟩ (Value.int IntKind.u64 newHd.height)).setCell ⟨x, 37, none⟩ (Value.int IntKind.u64 newHd.time)).setCell ⟨x, 38, none⟩ (Value.bool newHd.isOpen)).setCell ⟨x, 39, none⟩ (Value.int IntKind.u64 newHd.nextRecv)).setCell ⟨x, 40, none⟩ (Value.int IntKind.i64 newHd.packets.length)).setCell ⟨x, 41, none⟩ (Value.int IntKind.i64 newHd.answers.length)).setCell ⟨x, 42, none⟩ (Value.map (some kp'))).setCell ⟨x, 43, none⟩ (Value.map (some ka'))).heap[x]? = some (.cells (brEnd bp bf ah kp ka bp' bf' ah' kp' ka') tBr (0, 0)) := by
  refine (setCell_same (setCell_same (setCell_same (setCell_same (setCell_same (setCell_same (setCell_same (setCell_same hX _ _) _ _) _ _) _ _) _ _) _ _) _ _) _ _).trans ?_
  simp only [List.setIfInBounds_toArray, List.set_cons_succ, List.set_cons_zero, newHd, List.length_nil]
  rfl

set_option maxRecDepth 100000 in
set_option maxHeartbeats 1600000 in
theorem new_ok {coins : Int} (h0 : 0 ≤ coins) (hc : ¬ 1152921504606846976 < coins) : Calls Try.prog 14 #[.int .u64 coins] w (BrNew w coins) := by
  go_enter Try.func14, Try.ntmps14
  go_wp2_with fail
  refine (newChain_any h0 (by omega)).mono ?_
  rintro e w1 ⟨bp, bf, ah, nf, ff, rfl, p1, m1, n1, f1, r1, z1, y1, g1⟩
  go_wp2_with fail
  refine (newChain_any h0 (by omega)).mono ?_
  rintro e w2 ⟨bp', bf', ah', nf', ff', rfl, p2, m2, n2, f2, r2, z2, y2, g2⟩
  go_wp2_with fail
  obtain ⟨w3, hw3⟩ : ∃ w3 : World, w3 = w2.alloc (.cells (brRaw bp bf ah bp' bf' ah') tBr) := ⟨_, rfl⟩
  have g3 : w2.grownBy w3 none := by rw [hw3]; exact World.grownBy_alloc _ _ _
  have hX3 : w3.heap[w2.heap.size]? = some (.cells (brRaw bp bf ah bp' bf' ah') tBr (0, 0)) := by rw [hw3]; exact heap_alloc_new w2 _
  rw [← hw3]
  clear hw3
  have c13 : w3.cell? ⟨w2.heap.size, 13, none⟩ = some (.slice (some ⟨ah, 0, none⟩) 1 1) := by simp [World.cell?, hX3]
  have c35 : w3.cell? ⟨w2.heap.size, 35, none⟩ = some (.slice (some ⟨ah', 0, none⟩) 1 1) := by simp [World.cell?, hX3]
  have c14 : w3.cell? ⟨w2.heap.size, 14, none⟩ = some (.int .u64 0) := by simp [World.cell?, hX3]
  have c15 : w3.cell? ⟨w2.heap.size, 15, none⟩ = some (.int .u64 0) := by simp [World.cell?, hX3]
  have c16 : w3.cell? ⟨w2.heap.size, 16, none⟩ = some (.bool false) := by simp [World.cell?, hX3]
  have c17 : w3.cell? ⟨w2.heap.size, 17, none⟩ = some (.int .u64 0) := by simp [World.cell?, hX3]
  have c18 : w3.cell? ⟨w2.heap.size, 18, none⟩ = some (.int .i64 0) := by simp [World.cell?, hX3]
  have c19 : w3.cell? ⟨w2.heap.size, 19, none⟩ = some (.int .i64 0) := by simp [World.cell?, hX3]
  have c20 : w3.cell? ⟨w2.heap.size, 20, none⟩ = some (.map none) := by simp [World.cell?, hX3]
  have c21 : w3.cell? ⟨w2.heap.size, 21, none⟩ = some (.map none) := by simp [World.cell?, hX3]
  have c36 : w3.cell? ⟨w2.heap.size, 36, none⟩ = some (.int .u64 0) := by simp [World.cell?, hX3]
  have c37 : w3.cell? ⟨w2.heap.size, 37, none⟩ = some (.int .u64 0) := by simp [World.cell?, hX3]
  have c38 : w3.cell? ⟨w2.heap.size, 38, none⟩ = some (.bool false) := by simp [World.cell?, hX3]
  have c39 : w3.cell? ⟨w2.heap.size, 39, none⟩ = some (.int .u64 0) := by simp [World.cell?, hX3]
  have c40 : w3.cell? ⟨w2.heap.size, 40, none⟩ = some (.int .i64 0) := by simp [World.cell?, hX3]
  have c41 : w3.cell? ⟨w2.heap.size, 41, none⟩ = some (.int .i64 0) := by simp [World.cell?, hX3]
  have c42 : w3.cell? ⟨w2.heap.size, 42, none⟩ = some (.map none) := by simp [World.cell?, hX3]
  have c43 : w3.cell? ⟨w2.heap.size, 43, none⟩ = some (.map none) := by simp [World.cell?, hX3]
  have cf : ∀ k, w3.frozen? ⟨w2.heap.size, k, none⟩ = false := fun k => by simp [World.frozen?, hX3]
  have zx := blk_lt hX3
  have hA0 := ((g3.block _ (by have := blk_lt y1; have := g2.size; omega) (by simp)).trans (g2.block _ (blk_lt y1) (by simp))).trans y1
  have hA1 := (g3.block _ (blk_lt y2) (by simp)).trans y2
  have e0 : w3.cell? ⟨ah', 0, none⟩ = some (.int .u64 0) := by simp [World.cell?, hA1]
  have e1 : w3.cell? ⟨ah', 1, none⟩ = some (.int .u64 0) := by simp [World.cell?, hA1]
  have e2 : w3.cell? ⟨ah', 2, none⟩ = some (.bool true) := by simp [World.cell?, hA1]
  have e3 : w3.cell? ⟨ah', 3, none⟩ = some (.int .u64 1) := by simp [World.cell?, hA1]
  have e4 : w3.cell? ⟨ah', 4, none⟩ = some (.int .i64 0) := by simp [World.cell?, hA1]
  have e5 : w3.cell? ⟨ah', 5, none⟩ = some (.int .i64 0) := by simp [World.cell?, hA1]
  have e6 : w3.cell? ⟨ah', 6, none⟩ = some (.slice none 0 0) := by simp [World.cell?, hA1]
  have e7 : w3.cell? ⟨ah', 7, none⟩ = some (.slice none 0 0) := by simp [World.cell?, hA1]
  have e8 : w3.cell? ⟨ah', 8, none⟩ = some (.slice none 0 0) := by simp [World.cell?, hA1]
  have hv := fun W => newView0 (w := W)
  have hwz : IntKind.i64.wrap 1 = 1 := by decide
  have hne : ah' ≠ w2.heap.size := by have := blk_lt y2; omega
  have hnf : ¬ ah' = w2.heap.size := hne
  have bx : ∀ W, w3.grownBy W none → W.heap[w2.heap.size]? = w3.heap[w2.heap.size]? := fun W g => g.block _ zx (by simp)
  have bh : ∀ W, w3.grownBy W none → W.heap[ah']? = w3.heap[ah']? := fun W g => g.block _ (blk_lt hA1) (by simp)
  refine wp_loop_rounds 3 ?_
  rw [rounds_succ]
  go_wp2_with fail
  go_region_held3 (fun w' => w'.cell? ⟨w2.heap.size, 35, none⟩ = some (.slice (some ⟨ah', 0, none⟩) 1 1) ∧ w'.cell? ⟨ah', 0, none⟩ = some (.int .u64 0) ∧ w'.cell? ⟨ah', 1, none⟩ = some (.int .u64 0) ∧ w'.cell? ⟨ah', 2, none⟩ = some (.bool true) ∧ w'.cell? ⟨ah', 3, none⟩ = some (.int .u64 1) ∧ w'.cell? ⟨ah', 4, none⟩ = some (.int .i64 0) ∧ w'.cell? ⟨ah', 5, none⟩ = some (.int .i64 0) ∧ w'.cell? ⟨ah', 6, none⟩ = some (.slice none 0 0) ∧ w'.cell? ⟨ah', 7, none⟩ = some (.slice none 0 0) ∧ w'.cell? ⟨ah', 8, none⟩ = some (.slice none 0 0)) (first | go_keep | (refine ⟨?_, ?_, ?_, ?_, ?_, ?_, ?_, ?_, ?_, ?_⟩ <;> first | (rw [cell_far hne, cell_far hne, cell_far hne, cell_far hne, cell_far hne, cell_far hne, cell_far hne, cell_far hne]; assumption) | (rw [cell_off (by decide), cell_off (by decide), cell_off (by decide), cell_off (by decide), cell_off (by decide), cell_off (by decide), cell_off (by decide), cell_off (by decide)]; assumption)))
    (first | (go_at_call 22; refine (hv _).mono ?_; rintro e w4 ⟨kp, ka, rfl, k1, k2, k3, k4, k5, g4⟩; have hX4 := (bx w4 (grown_trans (grown_drew (grown_refl _ _)) g4 (fun k e => by cases e))).trans hX3; have hA4 := (bh w4 (grown_trans (grown_drew (grown_refl _ _)) g4 (fun k e => by cases e))).trans hA1; obtain ⟨d35, a0, a1, a2, a3, a4, a5, a6, a7, a8⟩ := view_cells hX4 hA4; obtain ⟨o14, o15, o16, o17, o18, o19, o20, o21, o36, o37, o38, o39, o40, o41, o42, o43, of⟩ := known_cells hX4))
  obtain ⟨w5, hw5⟩ : ∃ w5 : World, w5 = ((((((((w4.setCell ⟨w2.heap.size, 14, none⟩ (Value.int IntKind.u64 newHd.height)).setCell ⟨w2.heap.size, 15, none⟩ (Value.int IntKind.u64 newHd.time)).setCell ⟨w2.heap.size, 16, none⟩ (Value.bool newHd.isOpen)).setCell ⟨w2.heap.size, 17, none⟩ (Value.int IntKind.u64 newHd.nextRecv)).setCell ⟨w2.heap.size, 18, none⟩ (Value.int IntKind.i64 newHd.packets.length)).setCell ⟨w2.heap.size, 19, none⟩ (Value.int IntKind.i64 newHd.answers.length)).setCell ⟨w2.heap.size, 20, none⟩ (Value.map (some kp))).setCell ⟨w2.heap.size, 21, none⟩ (Value.map (some ka))) := ⟨_, rfl⟩
  have far5 : ∀ k, k ≠ w2.heap.size → w5.heap[k]? = w4.heap[k]? := fun k hk => by rw [hw5, setCell_other _ _ _ hk, setCell_other _ _ _ hk, setCell_other _ _ _ hk, setCell_other _ _ _ hk, setCell_other _ _ _ hk, setCell_other _ _ _ hk, setCell_other _ _ _ hk, setCell_other _ _ _ hk]
  have hX5 : w5.heap[w2.heap.size]? = some (.cells (brMid bp bf ah kp ka bp' bf' ah') tBr (0, 0)) := by
    rw [hw5]
    exact mid_set hX4
  have g5 : w3.grownBy w5 (some w2.heap.size) := by
    rw [hw5]
    refine grown_set ?_ ⟨w2.heap.size, 21, none⟩ _ (.inl rfl)
    refine grown_set ?_ ⟨w2.heap.size, 20, none⟩ _ (.inl rfl)
    refine grown_set ?_ ⟨w2.heap.size, 19, none⟩ _ (.inl rfl)
    refine grown_set ?_ ⟨w2.heap.size, 18, none⟩ _ (.inl rfl)
    refine grown_set ?_ ⟨w2.heap.size, 17, none⟩ _ (.inl rfl)
    refine grown_set ?_ ⟨w2.heap.size, 16, none⟩ _ (.inl rfl)
    refine grown_set ?_ ⟨w2.heap.size, 15, none⟩ _ (.inl rfl)
    refine grown_set ?_ ⟨w2.heap.size, 14, none⟩ _ (.inl rfl)
    exact grown_none (grown_trans (grown_drew (grown_refl _ _)) g4 (fun k e => by cases e)) _
  rw [← hw5]
  clear hw5 d35 a0 a1 a2 a3 a4 a5 a6 a7 a8 o14 o15 o16 o17 o18 o19 o20 o21 o36 o37 o38 o39 o40 o41 o42 o43 of e0 e1 e2 e3 e4 e5 e6 e7 e8 c13 c35 c14 c15 c16 c17 c18 c19 c20 c21 c36 c37 c38 c39 c40 c41 c42 c43 cf
  have hny : ah ≠ w2.heap.size := by have := blk_lt y1; have := g2.size; omega
  have hA5 := (g5.block _ (blk_lt hA0) (by simpa using hny)).trans hA0
  obtain ⟨b13, e0, e1, e2, e3, e4, e5, e6, e7, e8⟩ := view_cells1 hX5 hA5
  obtain ⟨c36, c37, c38, c39, c40, c41, c42, c43, cf⟩ := known_cells1 hX5
  have hwo : IntKind.i64.wrap 0 = 0 := by decide
  have zx5 := blk_lt hX5
  have bx5 : ∀ W, w5.grownBy W none → W.heap[w2.heap.size]? = w5.heap[w2.heap.size]? := fun W g => g.block _ zx5 (by simp)
  have bh5 : ∀ W, w5.grownBy W none → W.heap[ah]? = w5.heap[ah]? := fun W g => g.block _ (blk_lt hA5) (by simp)
  go_wp2_with fail
  rw [rounds_succ]
  go_wp2_with fail
  go_region_held3 (fun w' => w'.cell? ⟨w2.heap.size, 13, none⟩ = some (.slice (some ⟨ah, 0, none⟩) 1 1) ∧ w'.cell? ⟨ah, 0, none⟩ = some (.int .u64 0) ∧ w'.cell? ⟨ah, 1, none⟩ = some (.int .u64 0) ∧ w'.cell? ⟨ah, 2, none⟩ = some (.bool true) ∧ w'.cell? ⟨ah, 3, none⟩ = some (.int .u64 1) ∧ w'.cell? ⟨ah, 4, none⟩ = some (.int .i64 0) ∧ w'.cell? ⟨ah, 5, none⟩ = some (.int .i64 0) ∧ w'.cell? ⟨ah, 6, none⟩ = some (.slice none 0 0) ∧ w'.cell? ⟨ah, 7, none⟩ = some (.slice none 0 0) ∧ w'.cell? ⟨ah, 8, none⟩ = some (.slice none 0 0)) (first | go_keep | (refine ⟨?_, ?_, ?_, ?_, ?_, ?_, ?_, ?_, ?_, ?_⟩ <;> first | (rw [cell_far hny, cell_far hny, cell_far hny, cell_far hny, cell_far hny, cell_far hny, cell_far hny, cell_far hny]; assumption) | (rw [cell_off (by decide), cell_off (by decide), cell_off (by decide), cell_off (by decide), cell_off (by decide), cell_off (by decide), cell_off (by decide), cell_off (by decide)]; assumption)))
    (first | (go_at_call 22; refine (hv _).mono ?_; rintro e w6 ⟨kp', ka', rfl, l1, l2, l3, l4, l5, g6⟩; have hX6 := (bx5 w6 (grown_trans (grown_drew (grown_refl _ _)) g6 (fun k e => by cases e))).trans hX5; have hA6 := (bh5 w6 (grown_trans (grown_drew (grown_refl _ _)) g6 (fun k e => by cases e))).trans hA5; obtain ⟨d13, a0, a1, a2, a3, a4, a5, a6, a7, a8⟩ := view_cells1 hX6 hA6; obtain ⟨o36, o37, o38, o39, o40, o41, o42, o43, of⟩ := known_cells1 hX6))
  obtain ⟨w7, hw7⟩ : ∃ w7 : World, w7 = ((((((((w6.setCell ⟨w2.heap.size, 36, none⟩ (Value.int IntKind.u64 newHd.height)).setCell ⟨w2.heap.size, 37, none⟩ (Value.int IntKind.u64 newHd.time)).setCell ⟨w2.heap.size, 38, none⟩ (Value.bool newHd.isOpen)).setCell ⟨w2.heap.size, 39, none⟩ (Value.int IntKind.u64 newHd.nextRecv)).setCell ⟨w2.heap.size, 40, none⟩ (Value.int IntKind.i64 newHd.packets.length)).setCell ⟨w2.heap.size, 41, none⟩ (Value.int IntKind.i64 newHd.answers.length)).setCell ⟨w2.heap.size, 42, none⟩ (Value.map (some kp'))).setCell ⟨w2.heap.size, 43, none⟩ (Value.map (some ka'))) := ⟨_, rfl⟩
  have far7 : ∀ k, k ≠ w2.heap.size → w7.heap[k]? = w6.heap[k]? := fun k hk => by rw [hw7, setCell_other _ _ _ hk, setCell_other _ _ _ hk, setCell_other _ _ _ hk, setCell_other _ _ _ hk, setCell_other _ _ _ hk, setCell_other _ _ _ hk, setCell_other _ _ _ hk, setCell_other _ _ _ hk]
  have hX7 : w7.heap[w2.heap.size]? = some (.cells (brEnd bp bf ah kp ka bp' bf' ah' kp' ka') tBr (0, 0)) := by
    rw [hw7]
    exact end_set hX6
  have g7 : w5.grownBy w7 (some w2.heap.size) := by
    rw [hw7]
    refine grown_set ?_ ⟨w2.heap.size, 43, none⟩ _ (.inl rfl)
    refine grown_set ?_ ⟨w2.heap.size, 42, none⟩ _ (.inl rfl)
    refine grown_set ?_ ⟨w2.heap.size, 41, none⟩ _ (.inl rfl)
    refine grown_set ?_ ⟨w2.heap.size, 40, none⟩ _ (.inl rfl)
    refine grown_set ?_ ⟨w2.heap.size, 39, none⟩ _ (.inl rfl)
    refine grown_set ?_ ⟨w2.heap.size, 38, none⟩ _ (.inl rfl)
    refine grown_set ?_ ⟨w2.heap.size, 37, none⟩ _ (.inl rfl)
    refine grown_set ?_ ⟨w2.heap.size, 36, none⟩ _ (.inl rfl)
    exact grown_none (grown_trans (grown_drew (grown_refl _ _)) g6 (fun k e => by cases e)) _
  rw [← hw7]
  clear hw7 d13 a0 a1 a2 a3 a4 a5 a6 a7 a8 o36 o37 o38 o39 o40 o41 o42 o43 of e0 e1 e2 e3 e4 e5 e6 e7 e8 b13 c36 c37 c38 c39 c40 c41 c42 c43 cf
  go_wp2_with fail
  rw [rounds_succ]
  go_wp2_with fail
  have q1 := g1.size
  have q2 := g2.size
  have q3 := g3.size
  have q5 := g5.size
  have k3' : w3.heap.size ≤ kp := k3
  have k4' : w3.heap.size ≤ ka := k4
  have l3' : w5.heap.size ≤ kp' := l3
  have l4' : w5.heap.size ≤ ka' := l4
  have keep : ∀ k, k < w2.heap.size → w7.heap[k]? = w2.heap[k]? := fun k hk => ((g7.block k (by omega) (by simp only [ne_eq, Option.some.injEq]; omega)).trans (g5.block k (by omega) (by simp only [ne_eq, Option.some.injEq]; omega))).trans (g3.block k hk (by simp))
  have keep1 : ∀ k, k < w1.heap.size → w7.heap[k]? = w1.heap[k]? := fun k hk => (keep k (by omega)).trans (g2.block k hk (by simp))
  have v5 : w5.heap[kp]? = some (.map #[] 0) := (far5 kp (by omega)).trans k1
  have v5' : w5.heap[ka]? = some (.map #[] 0) := (far5 ka (by omega)).trans k2
  have gw : w.grownBy w7 none := grown_trans (grown_trans (grown_trans (grown_trans g1 g2 (fun k e => by cases e)) g3 (fun k e => by cases e)) g5 (fun k e => by cases e; exact .inr (by omega))) g7 (fun k e => by cases e; exact .inr (by omega))
  go_ret2
  exact br_new (w := w) (w1 := w1) (w2 := w2) (w4 := w5) hX7 ((keep1 _ (blk_lt p1)).trans p1) (m1.keep (keep1 _ m1.lt)) ((g7.block _ (blk_lt v5) (by simp only [ne_eq, Option.some.injEq]; omega)).trans v5) ((g7.block _ (blk_lt v5') (by simp only [ne_eq, Option.some.injEq]; omega)).trans v5') n1 f1 (owns_keep r1 fun k e => keep1 k (owns_lt r1 e))
    ((keep _ (blk_lt p2)).trans p2) (m2.keep (keep _ m2.lt)) ((far7 _ (by omega)).trans l1) ((far7 _ (by omega)).trans l2) n2 f2 (owns_keep r2 fun k e => keep k (owns_lt r2 e))
    z1 ⟨blk_lt p1, m1.lt, blk_lt y1⟩ q1 z2 ⟨blk_lt p2, m2.lt, blk_lt y2⟩ q2 ⟨by omega, by omega, k5, blk_lt v5, blk_lt v5'⟩ ⟨l3', l4', l5⟩ gw

end

end Go.Proofs.Ytmfdhcnnhlchbaa
