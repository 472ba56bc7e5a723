import Derived.Test.YtmfdhcnnhlchbaaGreatC02
namespace Go.Proofs.YtmfdhcnnhlchbaaGreat
open Go.RowKit

set_option maxRecDepth 100000 in
set_option maxHeartbeats 1600000 in
theorem send_ok {own : Nat → Nat} {o : Nat} {w : World} {b : Nat} {S : Ch} {a : At} {p : Pk} (h : RefCh own o w b S a) (ho : o ≠ 0)
    (bp : S.hd.packets.length ≤ 1048576) (hop : S.hd.isOpen = true) (hs0 : 0 ≤ p.src) (hs1 : p.src ≤ 2) (hc0 : 0 ≤ p.coin) (hc1 : p.coin ≤ 1) (ham : (p.amount == 0) = false)
    (hlt : ¬ S.get (hasAt p.src p.coin) < p.amount) (hdue : (p.height == 0 && p.time == 0) = false) :
    Calls Tryz.prog 49 #[.pointer (some ⟨b, 0, none⟩), p.agg] w fun e w' => e = .returned (.tuple #[.int .u64 S.nextSend, .int .i64 0]) ∧ RefTo own o w b (S.sent p) w' := by
  have hkk : hasAt p.src p.coin < 6 := by unfold hasAt; omega
  obtain ⟨c0, c1, c2, c3, c4, c5, c6, c7, c8, c9, c10, c11, c12, c13, c14, c15, c16, c17, hf⟩ := ch_cells h.blk
  have hx := has_cell h.blk hkk
  rw [show 7 + hasAt p.src p.coin = 7 + p.src.toNat * 2 + p.coin.toNat from by unfold hasAt; omega] at hx
  have hbl : b < w.heap.size := blk_lt h.blk
  have hd1 : decide (p.src < 0) = false := by simp; omega
  have hd2 : decide (2 < p.src) = false := by simp; omega
  have hd3 : decide (p.coin < 0) = false := by simp; omega
  have hd4 : decide (1 < p.coin) = false := by simp; omega
  obtain ⟨i0, hi0, z0, s0, y0⟩ := info_parts infoPk
  generalize hG : S.get (hasAt p.src p.coin) = G at hx hlt
  go_enter Tryz.func49, Tryz.ntmps49
  go_wp2_with fail
  go_quiet (fail)
  have hdd : (p.height == 0) = false ∨ (p.height == 0) = true ∧ (p.time == 0) = false := by
    cases e : (p.height == 0) <;> simp [e] at hdue ⊢ <;> exact hdue
  have hcn : (p.coin == S.n) = true ∨ (p.coin == S.n) = false := by cases (p.coin == S.n) <;> simp
  clear hdue
  rcases hdd with hdd | ⟨hdd, hdt⟩
  all_goals
    go_wp2_with fail
    go_region
    rcases hcn with hcn | hcn
  all_goals
    obtain ⟨w1, hw1⟩ : ∃ w1 : World, w1 = ((w.alloc (.cells p.arr 28)).drewN (nq + 1)).setCell ⟨b, 7 + p.src.toNat * 2 + p.coin.toNat, none⟩ (.int .u64 (IntKind.u64.wrap (G - p.amount))) := ⟨_, rfl⟩
    rw [← hw1]
    have g1 : w.grownBy w1 (some b) := by rw [hw1]; exact grown_set (grown_drewN (grown_alloc (grown_refl w _) _) _) _ _ (.inl rfl)
    have hB1 : w1.heap[b]? = some (.cells (chCells (S.spent p) a).toArray tCh (0, 0)) := by
      rw [hw1, Nat.add_assoc, ← hG]
      exact has_set (by rw [drewN_heap, heap_alloc_old w _ hbl]; exact h.blk) hkk _
    have hX1 : w1.heap[w.heap.size]? = some (.cells p.arr 28 (0, 0)) := by
      rw [hw1, setCell_other _ _ _ (by simp; omega), drewN_heap, heap_alloc_new w]
    clear c0 c1 c2 c3 c4 c5 c6 c7 c8 c9 c10 c11 c12 c13 c14 c15 c16 c17 hf hx hw1 hlt hd1 hd2 hd3 hd4
    have hxl1 : w.heap.size < w1.heap.size := blk_lt hX1
    have hbl1 : b < w1.heap.size := by omega
    obtain ⟨c0, c1, c2, c3, c4, c5, c6, c7, c8, c9, c10, c11, c12, c13, c14, c15, c16, c17, hf⟩ := ch_cells hB1
    obtain ⟨x0, x1, x2, x3, x4, x5, x6, xf⟩ := blk7 hX1
    change w1.cell? ⟨b, 4, none⟩ = some (.slice a.ap S.hd.packets.length a.cp) at c4
    change w1.cell? ⟨b, 6, none⟩ = some (.int .i64 S.n) at c6
    change w1.cell? ⟨b, 13, none⟩ = some (.int .u64 S.locked) at c13
    change w1.cell? ⟨b, 14, none⟩ = some (.int .u64 S.about) at c14
    change w1.cell? ⟨b, 15, none⟩ = some (.int .u64 S.nextSend) at c15
    go_wp2_with fail
    go_quiet (fail)
    go_wp2_with fail
    go_region
    go_wp2_with fail
    obtain ⟨w3, hw3, g3, hB3, hX3⟩ : ∃ w3 : World, w3 = (((w1.drewN (nq + 1)).setCell ⟨b, if p.coin = S.n then 13 else 14, none⟩ (.int .u64 (if p.coin = S.n then IntKind.u64.wrap (S.locked + p.amount) else IntKind.u64.wrap (S.about - p.amount)))).setCell ⟨w.heap.size, 0, none⟩ (.int .u64 S.nextSend)).setCell ⟨b, 15, none⟩ (.int .u64 (IntKind.u64.wrap (S.nextSend + 1))) ∧ w.grownBy w3 (some b) ∧ w3.heap[b]? = some (.cells (chCells (S.counted p) a).toArray tCh (0, 0)) ∧ w3.heap[w.heap.size]? = some (.cells (Pk.arr { p with seq := S.nextSend }) tPk (0, 0)) := by
      refine ⟨_, rfl, send_mid (nq + 1) _ _ g1 hbl hB1 hX1 ?_ rfl⟩
      by_cases e : p.coin = S.n <;> simp [e]
    first
      | rw [if_pos (beq_iff_eq.1 hcn), if_pos (beq_iff_eq.1 hcn)] at hw3
      | rw [if_neg (beq_eq_false_iff_ne.1 hcn), if_neg (beq_eq_false_iff_ne.1 hcn)] at hw3
    rw [← hw3]
    clear c0 c1 c2 c3 c4 c5 c6 c7 c8 c9 c10 c11 c12 c13 c14 c15 c16 c17 hf x0 x1 x2 x3 x4 x5 x6 xf hw3 hB1 hX1 g1 hxl1 hbl1
    have hxl3 : w.heap.size < w3.heap.size := blk_lt hX3
    have hbl3 : b < w3.heap.size := by omega
    have hP3 : w3.ownsRow 0 tPk 7 (.slice a.ap S.hd.packets.length a.cp) S.hd.packets.length (S.hd.packets.flatMap Pk.cells) := row_keep h.pk h.blk (by decide) (r := none) (fun _ _ => by simp) (fun k hk hkb _ => g3.block k hk (by simpa using hkb))
    obtain ⟨c0, c1, c2, c3, c4, c5, c6, c7, c8, c9, c10, c11, c12, c13, c14, c15, c16, c17, hf⟩ := ch_cells hB3
    obtain ⟨x0, x1, x2, x3, x4, x5, x6, xf⟩ := blk7 hX3
    change w3.cell? ⟨b, 4, none⟩ = some (.slice a.ap S.hd.packets.length a.cp) at c4
    have hnb : some b ≠ (Value.slice a.ap S.hd.packets.length a.cp).ownBlock := owns_ne h.blk h.pk (by decide)
    have hnx : some w.heap.size ≠ (Value.slice a.ap S.hd.packets.length a.cp).ownBlock := fun e => by have := owns_lt h.pk e.symm; omega
    go_region_law (refine step_append_rows rfl (.tmp 111) (.tmp 113) 57 rfl 28 i0 _ 7 56 Tryz.underlying57 hi0 z0 s0 y0 rfl (by decide) (.slice a.ap S.hd.packets.length a.cp) S.hd.packets.length (S.hd.packets.flatMap Pk.cells) (by simp [Act.eval]) (by exact hP3.alloc _) (.slice (some ⟨w3.heap.size, 0, none⟩) 1 1) 1 (Pk.cells { p with seq := S.nextSend }) (by simp [Act.eval]) (by exact src7 _ _ _ _ _ _ _ _ _) (by exact Pk.one _) (by omega) (by omega) ?_; intro v4 w4 own4 grow4 lab4; obtain ⟨d0, d1, d2, d3, d4, d5, d6, d7, d8, d9, d10, d11, d12, d13, d14, d15, d16, d17, df⟩ := ch_cells (app_after hB3 grow4 hnb); obtain ⟨y0, y1, y2, y3, y4, y5, y6, yf⟩ := blk7 (app_after hX3 grow4 hnx); obtain ⟨a4, k4, hv4⟩ := owns_form own4; rw [hv4])
  all_goals
    go_wp2_with fail
    go_ret2
    subst hv4
    exact ⟨rfl, send_done h ho g3 hB3 grow4 own4 lab4⟩

end Go.Proofs.YtmfdhcnnhlchbaaGreat
