import Derived.Test.YtmfdhcnnhlchbaaGreatC17
import Derived.Deep.RegionHeld3
namespace Go.Proofs.YtmfdhcnnhlchbaaGreat
open Go.RowKit

set_option maxRecDepth 100000 in
set_option maxHeartbeats 1600000 in
theorem alike_far11 {own : Nat → Nat} {l : Nat} {w : World} {bm b0 b1 : Nat} {m : Mod} {a0 a1 : At} {N : Nat} {o : OpV} (h : RefMod own l w bm b0 b1 m a0 a1) (hL : Lim m N) (hN : N ≤ 1000000) (hoc : o.c = 1) (hod : o.d = 1) (hn : 0 ≤ o.num) (hn2 : 0 ≤ o.n)
    (hb : (m.c1.heads.length : Int) ≤ o.num ∨ o.num < (m.c1.heads.length : Int) ∧ (m.c1.heads.length : Int) ≤ o.n) :
    Calls Tryz.prog 28 #[.pointer (some ⟨bm, 0, none⟩), o.agg] w fun e w' => e = .returned (.bool (sameM m o.c o.num o.d o.n)) ∧ w.grownBy w' none := by
  have hsm : sameM m o.c o.num o.d o.n = false := by
    have hh : headM m o.c o.num = none ∨ headM m o.d o.n = none := by
      unfold headM
      rw [hoc, hod]
      rcases hb with e | ⟨_, e⟩
      · left; rw [if_pos (by omega)]; show m.c1.heads[o.num.toNat]? = none; rw [List.getElem?_eq_none_iff]; omega
      · right; rw [if_pos (by omega)]; show m.c1.heads[o.n.toNat]? = none; rw [List.getElem?_eq_none_iff]; omega
    unfold sameM
    rcases hh with e | e
    · rw [e]
    · rw [e]; split <;> simp_all
  rw [hsm]
  clear hsm
  obtain ⟨m0, m1, m2, mf⟩ := blk3 h.blk
  obtain ⟨c0, c1, c2, c3, c4, c5, c6, c7, c8, c9, c10, c11, c12, c13, c14, c15, c16, c17, cf⟩ := ch_cells h.c0.blk
  obtain ⟨d0, d1, d2, d3, d4, d5, d6, d7, d8, d9, d10, d11, d12, d13, d14, d15, d16, d17, df⟩ := ch_cells h.c1.blk
  rw [heads_len h.c0] at c16
  rw [heads_len h.c1] at d16
  have z1 := blk_lt h.blk
  have z2 := blk_lt h.c0.blk
  have z3 := blk_lt h.c1.blk
  have w0 : IntKind.u64.wrap (m.c0.heads.length : Int) = m.c0.heads.length := wrapU_small (by omega) (by have := hL.l0.h; omega)
  have w1 : IntKind.u64.wrap (m.c1.heads.length : Int) = m.c1.heads.length := wrapU_small (by omega) (by have := hL.l1.h; omega)
  clear c0 c1 c2 c3 c4 c5 c6 c7 c8 c9 c10 c11 c12 c13 c14 c15 c17 cf d0 d1 d2 d3 d4 d5 d6 d7 d8 d9 d10 d11 d12 d13 d14 d15 d17 df m2 mf
  rcases hb with e | ⟨e1, e⟩
  · have b1 : decide ((m.c1.heads.length : Int) ≤ o.num) = true := by simpa using e
    go_enter Tryz.func28, Tryz.ntmps28
    go_wp2_with fail
    go_quiet (fail)
    go_wp2_with fail
    go_ret
    exact ⟨rfl, grown_drewN (World.grownBy_alloc _ _ _) _⟩
  · have b1 : decide ((m.c1.heads.length : Int) ≤ o.num) = false := by simp; omega
    have b2 : decide ((m.c1.heads.length : Int) ≤ o.n) = true := by simpa using e
    go_enter Tryz.func28, Tryz.ntmps28
    go_wp2_with fail
    go_quiet (fail)
    go_wp2_with fail
    go_ret
    exact ⟨rfl, grown_drewN (World.grownBy_alloc _ _ _) _⟩

end Go.Proofs.YtmfdhcnnhlchbaaGreat

namespace Go.Proofs.YtmfdhcnnhlchbaaGreat
open Go.RowKit

set_option maxRecDepth 100000 in
set_option maxHeartbeats 3200000 in
theorem alike_ok00 {own : Nat → Nat} {l : Nat} {w : World} {bm b0 b1 : Nat} {m : Mod} {a0 a1 : At} {N n n2 : Nat} {o : OpV} {X Y : HdV} (h : RefMod own l w bm b0 b1 m a0 a1) (hL : Lim m N) (hN : N ≤ 1000000) (hoc : o.c = 0) (hod : o.d = 0) (hn : o.num = n) (hn2 : o.n = n2)
    (hX : a0.hs[n]? = some X) (hY : a0.hs[n2]? = some Y) :
    Calls Tryz.prog 28 #[.pointer (some ⟨bm, 0, none⟩), o.agg] w fun e w' => e = .returned (.bool (decide (short X.hd = short Y.hd))) ∧ w.grownBy w' none := by
  have lX := (List.getElem?_eq_some_iff.1 hX).1
  have lY := (List.getElem?_eq_some_iff.1 hY).1
  obtain ⟨gx, hgx, _⟩ := owns_some' h.c0.hd (by omega)
  have rX := h.c0.hd
  have rY := h.c0.hd
  simp only [At.vh, hgx] at rX
  simp only [At.vh, hgx] at rY
  obtain ⟨x0, x1, x2, x3, x4, x5⟩ := hdr_cells rX hX
  obtain ⟨y0, y1, y2, y3, y4, y5⟩ := hdr_cells rY hY
  have zx : gx < w.heap.size := owns_lt rX rfl
  have zy : gx < w.heap.size := owns_lt rY rfl
  obtain ⟨m0, m1, m2, mf⟩ := blk3 h.blk
  obtain ⟨_, _, _, _, _, _, _, _, _, _, _, _, _, _, _, _, u16, _, _⟩ := ch_cells h.c0.blk
  obtain ⟨_, _, _, _, _, _, _, _, _, _, _, _, _, _, _, _, v16, _, _⟩ := ch_cells h.c0.blk
  rw [hgx] at u16
  rw [hgx] at v16
  have z1 := blk_lt h.blk
  have z2 := blk_lt h.c0.blk
  have z3 := blk_lt h.c0.blk
  have eX := heads_len h.c0
  have eY := heads_len h.c0
  have w0 : IntKind.u64.wrap (a0.hs.length : Int) = a0.hs.length := wrapU_small (by omega) (by have := hL.l0.h; omega)
  have w1 : IntKind.u64.wrap (a0.hs.length : Int) = a0.hs.length := wrapU_small (by omega) (by have := hL.l0.h; omega)
  clear eX eY
  have b1' : decide ((a0.hs.length : Int) ≤ (n : Int)) = false := by simp; omega
  have b2' : decide ((a0.hs.length : Int) ≤ (n2 : Int)) = false := by simp; omega
  have f1 : (n : Int) < (a0.hs.length : Int) := by omega
  have f2 : (n2 : Int) < (a0.hs.length : Int) := by omega
  clear m2 mf
  have hq := fun w => head_eq X.hd Y.hd w
  generalize decide (short X.hd = short Y.hd) = B at hq
  go_enter Tryz.func28, Tryz.ntmps28
  go_wp2_with fail
  go_quiet (fail)
  go_wp2_with fail
  obtain ⟨w4, hw4⟩ : ∃ w4 : World, w4 = (w.alloc (.cells o.arr 33)).drewN nq := ⟨_, rfl⟩
  have g4 : w.grownBy w4 none := by rw [hw4]; exact grown_drewN (World.grownBy_alloc w _ none) _
  have hB4 : w4.heap[w.heap.size]? = some (.cells o.arr 33 (0, 0)) := by rw [hw4, drewN_heap]; exact heap_alloc_new w _
  simp only [OpV.arr, hoc, hod, hn, hn2] at hw4
  rw [← hw4]
  clear hw4
  obtain ⟨o0, o1, o2, o3, o4, o5, o6, o7, o8, o9, o10, o11, o12, o13, o14, o15, of⟩ := blkOp hB4
  rw [hoc] at o2
  rw [hod] at o15
  rw [hn] at o14
  rw [hn2] at o4
  have c4 := fun b hb j => cell_grown g4 (b := b) hb j
  replace x0 := (c4 _ zx _).trans x0
  replace x1 := (c4 _ zx _).trans x1
  replace x2 := (c4 _ zx _).trans x2
  replace x3 := (c4 _ zx _).trans x3
  replace x4 := (c4 _ zx _).trans x4
  replace x5 := (c4 _ zx _).trans x5
  replace y0 := (c4 _ zy _).trans y0
  replace y1 := (c4 _ zy _).trans y1
  replace y2 := (c4 _ zy _).trans y2
  replace y3 := (c4 _ zy _).trans y3
  replace y4 := (c4 _ zy _).trans y4
  replace y5 := (c4 _ zy _).trans y5
  replace m0 := (c4 _ z1 _).trans m0
  replace m1 := (c4 _ z1 _).trans m1
  replace u16 := (c4 _ z2 _).trans u16
  replace v16 := (c4 _ z3 _).trans v16
  have z7 : w.heap.size < w4.heap.size := blk_lt hB4
  have s4 := g4.size
  have t0 : w.heap.size < w4.heap.size := by omega
  have t1 : bm < w4.heap.size := by omega
  have t2 : b0 < w4.heap.size := by omega
  have t3 : b0 < w4.heap.size := by omega
  have t4 : gx < w4.heap.size := by omega
  have t5 : gx < w4.heap.size := by omega
  clear c4 o0 o1 o3 o5 o6 o7 o8 o9 o10 o11 o12 o13 of
  go_region_held3 (fun w' => w'.cell? ⟨w.heap.size, 2, none⟩ = some (.int .i64 0) ∧ w'.cell? ⟨w.heap.size, 15, none⟩ = some (.int .i64 0) ∧ w'.cell? ⟨w.heap.size, 14, none⟩ = some (.int .u64 n) ∧ w'.cell? ⟨w.heap.size, 4, none⟩ = some (.int .u64 n2) ∧ w'.cell? ⟨bm, 0, none⟩ = some (.pointer (some ⟨b0, 0, none⟩)) ∧ w'.cell? ⟨bm, 0, none⟩ = some (.pointer (some ⟨b0, 0, none⟩)) ∧ w'.cell? ⟨b0, 16, none⟩ = some (.slice (some ⟨gx, 0, none⟩) a0.hs.length a0.ch) ∧ w'.cell? ⟨b0, 16, none⟩ = some (.slice (some ⟨gx, 0, none⟩) a0.hs.length a0.ch) ∧
      w'.cell? ⟨gx, n * 6, none⟩ = some (.int .u64 X.hd.height) ∧ w'.cell? ⟨gx, n * 6 + 1, none⟩ = some (.int .u64 X.hd.time) ∧ w'.cell? ⟨gx, n * 6 + 2, none⟩ = some (.bool X.hd.isOpen) ∧ w'.cell? ⟨gx, n * 6 + 3, none⟩ = some (.int .u64 X.hd.nextRecv) ∧ w'.cell? ⟨gx, n * 6 + 4, none⟩ = some X.vp ∧ w'.cell? ⟨gx, n * 6 + 5, none⟩ = some X.va ∧
      w'.cell? ⟨gx, n2 * 6, none⟩ = some (.int .u64 Y.hd.height) ∧ w'.cell? ⟨gx, n2 * 6 + 1, none⟩ = some (.int .u64 Y.hd.time) ∧ w'.cell? ⟨gx, n2 * 6 + 2, none⟩ = some (.bool Y.hd.isOpen) ∧ w'.cell? ⟨gx, n2 * 6 + 3, none⟩ = some (.int .u64 Y.hd.nextRecv) ∧ w'.cell? ⟨gx, n2 * 6 + 4, none⟩ = some Y.vp ∧ w'.cell? ⟨gx, n2 * 6 + 5, none⟩ = some Y.va) (go_keep)
    (first | (go_at_call_of 26 (X.hd.height); refine (rhead X _).mono ?_; rintro e w5 ⟨rfl, g5⟩; have e0 := cell_grown g5 (b := w.heap.size) t0; have e1 := cell_grown g5 (b := bm) t1; have e2 := cell_grown g5 (b := b0) t2; have e3 := cell_grown g5 (b := b0) t3; have e4 := cell_grown g5 (b := gx) t4; have e5 := cell_grown g5 (b := gx) t5) | (go_at_call_of 26 (Y.hd.height); refine (rhead Y _).mono ?_; rintro e w6 ⟨rfl, g6⟩; have r0 := cell_grown g6 (b := w.heap.size) (Nat.lt_of_lt_of_le t0 g5.size); have r1 := cell_grown g6 (b := bm) (Nat.lt_of_lt_of_le t1 g5.size); have r2 := cell_grown g6 (b := b0) (Nat.lt_of_lt_of_le t2 g5.size); have r3 := cell_grown g6 (b := b0) (Nat.lt_of_lt_of_le t3 g5.size); have r4 := cell_grown g6 (b := gx) (Nat.lt_of_lt_of_le t4 g5.size); have r5 := cell_grown g6 (b := gx) (Nat.lt_of_lt_of_le t5 g5.size)))
  all_goals
    go_wp2_with fail
    go_ret
    exact ⟨rfl, grown_trans g4 (grown_trans (grown_trans (grown_drew (grown_refl w4 none)) g5 (fun k e => by cases e)) g6 (fun k e => by cases e)) (fun k e => by cases e)⟩

end Go.Proofs.YtmfdhcnnhlchbaaGreat

namespace Go.Proofs.YtmfdhcnnhlchbaaGreat
open Go.RowKit

set_option maxRecDepth 100000 in
set_option maxHeartbeats 3200000 in
theorem alike_ok01 {own : Nat → Nat} {l : Nat} {w : World} {bm b0 b1 : Nat} {m : Mod} {a0 a1 : At} {N n n2 : Nat} {o : OpV} {X Y : HdV} (h : RefMod own l w bm b0 b1 m a0 a1) (hL : Lim m N) (hN : N ≤ 1000000) (hoc : o.c = 0) (hod : o.d = 1) (hn : o.num = n) (hn2 : o.n = n2)
    (hX : a0.hs[n]? = some X) (hY : a1.hs[n2]? = some Y) :
    Calls Tryz.prog 28 #[.pointer (some ⟨bm, 0, none⟩), o.agg] w fun e w' => e = .returned (.bool (decide (short X.hd = short Y.hd))) ∧ w.grownBy w' none := by
  have lX := (List.getElem?_eq_some_iff.1 hX).1
  have lY := (List.getElem?_eq_some_iff.1 hY).1
  obtain ⟨gx, hgx, _⟩ := owns_some' h.c0.hd (by omega)
  obtain ⟨gy, hgy, _⟩ := owns_some' h.c1.hd (by omega)
  have rX := h.c0.hd
  have rY := h.c1.hd
  simp only [At.vh, hgx] at rX
  simp only [At.vh, hgy] at rY
  obtain ⟨x0, x1, x2, x3, x4, x5⟩ := hdr_cells rX hX
  obtain ⟨y0, y1, y2, y3, y4, y5⟩ := hdr_cells rY hY
  have zx : gx < w.heap.size := owns_lt rX rfl
  have zy : gy < w.heap.size := owns_lt rY rfl
  obtain ⟨m0, m1, m2, mf⟩ := blk3 h.blk
  obtain ⟨_, _, _, _, _, _, _, _, _, _, _, _, _, _, _, _, u16, _, _⟩ := ch_cells h.c0.blk
  obtain ⟨_, _, _, _, _, _, _, _, _, _, _, _, _, _, _, _, v16, _, _⟩ := ch_cells h.c1.blk
  rw [hgx] at u16
  rw [hgy] at v16
  have z1 := blk_lt h.blk
  have z2 := blk_lt h.c0.blk
  have z3 := blk_lt h.c1.blk
  have eX := heads_len h.c0
  have eY := heads_len h.c1
  have w0 : IntKind.u64.wrap (a0.hs.length : Int) = a0.hs.length := wrapU_small (by omega) (by have := hL.l0.h; omega)
  have w1 : IntKind.u64.wrap (a1.hs.length : Int) = a1.hs.length := wrapU_small (by omega) (by have := hL.l1.h; omega)
  clear eX eY
  have b1' : decide ((a0.hs.length : Int) ≤ (n : Int)) = false := by simp; omega
  have b2' : decide ((a1.hs.length : Int) ≤ (n2 : Int)) = false := by simp; omega
  have f1 : (n : Int) < (a0.hs.length : Int) := by omega
  have f2 : (n2 : Int) < (a1.hs.length : Int) := by omega
  clear m2 mf
  have hq := fun w => head_eq X.hd Y.hd w
  generalize decide (short X.hd = short Y.hd) = B at hq
  go_enter Tryz.func28, Tryz.ntmps28
  go_wp2_with fail
  go_quiet (fail)
  go_wp2_with fail
  obtain ⟨w4, hw4⟩ : ∃ w4 : World, w4 = (w.alloc (.cells o.arr 33)).drewN nq := ⟨_, rfl⟩
  have g4 : w.grownBy w4 none := by rw [hw4]; exact grown_drewN (World.grownBy_alloc w _ none) _
  have hB4 : w4.heap[w.heap.size]? = some (.cells o.arr 33 (0, 0)) := by rw [hw4, drewN_heap]; exact heap_alloc_new w _
  simp only [OpV.arr, hoc, hod, hn, hn2] at hw4
  rw [← hw4]
  clear hw4
  obtain ⟨o0, o1, o2, o3, o4, o5, o6, o7, o8, o9, o10, o11, o12, o13, o14, o15, of⟩ := blkOp hB4
  rw [hoc] at o2
  rw [hod] at o15
  rw [hn] at o14
  rw [hn2] at o4
  have c4 := fun b hb j => cell_grown g4 (b := b) hb j
  replace x0 := (c4 _ zx _).trans x0
  replace x1 := (c4 _ zx _).trans x1
  replace x2 := (c4 _ zx _).trans x2
  replace x3 := (c4 _ zx _).trans x3
  replace x4 := (c4 _ zx _).trans x4
  replace x5 := (c4 _ zx _).trans x5
  replace y0 := (c4 _ zy _).trans y0
  replace y1 := (c4 _ zy _).trans y1
  replace y2 := (c4 _ zy _).trans y2
  replace y3 := (c4 _ zy _).trans y3
  replace y4 := (c4 _ zy _).trans y4
  replace y5 := (c4 _ zy _).trans y5
  replace m0 := (c4 _ z1 _).trans m0
  replace m1 := (c4 _ z1 _).trans m1
  replace u16 := (c4 _ z2 _).trans u16
  replace v16 := (c4 _ z3 _).trans v16
  have z7 : w.heap.size < w4.heap.size := blk_lt hB4
  have s4 := g4.size
  have t0 : w.heap.size < w4.heap.size := by omega
  have t1 : bm < w4.heap.size := by omega
  have t2 : b0 < w4.heap.size := by omega
  have t3 : b1 < w4.heap.size := by omega
  have t4 : gx < w4.heap.size := by omega
  have t5 : gy < w4.heap.size := by omega
  clear c4 o0 o1 o3 o5 o6 o7 o8 o9 o10 o11 o12 o13 of
  go_region_held3 (fun w' => w'.cell? ⟨w.heap.size, 2, none⟩ = some (.int .i64 0) ∧ w'.cell? ⟨w.heap.size, 15, none⟩ = some (.int .i64 1) ∧ w'.cell? ⟨w.heap.size, 14, none⟩ = some (.int .u64 n) ∧ w'.cell? ⟨w.heap.size, 4, none⟩ = some (.int .u64 n2) ∧ w'.cell? ⟨bm, 0, none⟩ = some (.pointer (some ⟨b0, 0, none⟩)) ∧ w'.cell? ⟨bm, 1, none⟩ = some (.pointer (some ⟨b1, 0, none⟩)) ∧ w'.cell? ⟨b0, 16, none⟩ = some (.slice (some ⟨gx, 0, none⟩) a0.hs.length a0.ch) ∧ w'.cell? ⟨b1, 16, none⟩ = some (.slice (some ⟨gy, 0, none⟩) a1.hs.length a1.ch) ∧
      w'.cell? ⟨gx, n * 6, none⟩ = some (.int .u64 X.hd.height) ∧ w'.cell? ⟨gx, n * 6 + 1, none⟩ = some (.int .u64 X.hd.time) ∧ w'.cell? ⟨gx, n * 6 + 2, none⟩ = some (.bool X.hd.isOpen) ∧ w'.cell? ⟨gx, n * 6 + 3, none⟩ = some (.int .u64 X.hd.nextRecv) ∧ w'.cell? ⟨gx, n * 6 + 4, none⟩ = some X.vp ∧ w'.cell? ⟨gx, n * 6 + 5, none⟩ = some X.va ∧
      w'.cell? ⟨gy, n2 * 6, none⟩ = some (.int .u64 Y.hd.height) ∧ w'.cell? ⟨gy, n2 * 6 + 1, none⟩ = some (.int .u64 Y.hd.time) ∧ w'.cell? ⟨gy, n2 * 6 + 2, none⟩ = some (.bool Y.hd.isOpen) ∧ w'.cell? ⟨gy, n2 * 6 + 3, none⟩ = some (.int .u64 Y.hd.nextRecv) ∧ w'.cell? ⟨gy, n2 * 6 + 4, none⟩ = some Y.vp ∧ w'.cell? ⟨gy, n2 * 6 + 5, none⟩ = some Y.va) (go_keep)
    (first | (go_at_call_of 26 (X.hd.height); refine (rhead X _).mono ?_; rintro e w5 ⟨rfl, g5⟩; have e0 := cell_grown g5 (b := w.heap.size) t0; have e1 := cell_grown g5 (b := bm) t1; have e2 := cell_grown g5 (b := b0) t2; have e3 := cell_grown g5 (b := b1) t3; have e4 := cell_grown g5 (b := gx) t4; have e5 := cell_grown g5 (b := gy) t5) | (go_at_call_of 26 (Y.hd.height); refine (rhead Y _).mono ?_; rintro e w6 ⟨rfl, g6⟩; have r0 := cell_grown g6 (b := w.heap.size) (Nat.lt_of_lt_of_le t0 g5.size); have r1 := cell_grown g6 (b := bm) (Nat.lt_of_lt_of_le t1 g5.size); have r2 := cell_grown g6 (b := b0) (Nat.lt_of_lt_of_le t2 g5.size); have r3 := cell_grown g6 (b := b1) (Nat.lt_of_lt_of_le t3 g5.size); have r4 := cell_grown g6 (b := gx) (Nat.lt_of_lt_of_le t4 g5.size); have r5 := cell_grown g6 (b := gy) (Nat.lt_of_lt_of_le t5 g5.size)))
  all_goals
    go_wp2_with fail
    go_ret
    exact ⟨rfl, grown_trans g4 (grown_trans (grown_trans (grown_drew (grown_refl w4 none)) g5 (fun k e => by cases e)) g6 (fun k e => by cases e)) (fun k e => by cases e)⟩

end Go.Proofs.YtmfdhcnnhlchbaaGreat

namespace Go.Proofs.YtmfdhcnnhlchbaaGreat
open Go.RowKit

set_option maxRecDepth 100000 in
set_option maxHeartbeats 3200000 in
theorem alike_ok10 {own : Nat → Nat} {l : Nat} {w : World} {bm b0 b1 : Nat} {m : Mod} {a0 a1 : At} {N n n2 : Nat} {o : OpV} {X Y : HdV} (h : RefMod own l w bm b0 b1 m a0 a1) (hL : Lim m N) (hN : N ≤ 1000000) (hoc : o.c = 1) (hod : o.d = 0) (hn : o.num = n) (hn2 : o.n = n2)
    (hX : a1.hs[n]? = some X) (hY : a0.hs[n2]? = some Y) :
    Calls Tryz.prog 28 #[.pointer (some ⟨bm, 0, none⟩), o.agg] w fun e w' => e = .returned (.bool (decide (short X.hd = short Y.hd))) ∧ w.grownBy w' none := by
  have lX := (List.getElem?_eq_some_iff.1 hX).1
  have lY := (List.getElem?_eq_some_iff.1 hY).1
  obtain ⟨gx, hgx, _⟩ := owns_some' h.c1.hd (by omega)
  obtain ⟨gy, hgy, _⟩ := owns_some' h.c0.hd (by omega)
  have rX := h.c1.hd
  have rY := h.c0.hd
  simp only [At.vh, hgx] at rX
  simp only [At.vh, hgy] at rY
  obtain ⟨x0, x1, x2, x3, x4, x5⟩ := hdr_cells rX hX
  obtain ⟨y0, y1, y2, y3, y4, y5⟩ := hdr_cells rY hY
  have zx : gx < w.heap.size := owns_lt rX rfl
  have zy : gy < w.heap.size := owns_lt rY rfl
  obtain ⟨m0, m1, m2, mf⟩ := blk3 h.blk
  obtain ⟨_, _, _, _, _, _, _, _, _, _, _, _, _, _, _, _, u16, _, _⟩ := ch_cells h.c1.blk
  obtain ⟨_, _, _, _, _, _, _, _, _, _, _, _, _, _, _, _, v16, _, _⟩ := ch_cells h.c0.blk
  rw [hgx] at u16
  rw [hgy] at v16
  have z1 := blk_lt h.blk
  have z2 := blk_lt h.c1.blk
  have z3 := blk_lt h.c0.blk
  have eX := heads_len h.c1
  have eY := heads_len h.c0
  have w0 : IntKind.u64.wrap (a1.hs.length : Int) = a1.hs.length := wrapU_small (by omega) (by have := hL.l1.h; omega)
  have w1 : IntKind.u64.wrap (a0.hs.length : Int) = a0.hs.length := wrapU_small (by omega) (by have := hL.l0.h; omega)
  clear eX eY
  have b1' : decide ((a1.hs.length : Int) ≤ (n : Int)) = false := by simp; omega
  have b2' : decide ((a0.hs.length : Int) ≤ (n2 : Int)) = false := by simp; omega
  have f1 : (n : Int) < (a1.hs.length : Int) := by omega
  have f2 : (n2 : Int) < (a0.hs.length : Int) := by omega
  clear m2 mf
  have hq := fun w => head_eq X.hd Y.hd w
  generalize decide (short X.hd = short Y.hd) = B at hq
  go_enter Tryz.func28, Tryz.ntmps28
  go_wp2_with fail
  go_quiet (fail)
  go_wp2_with fail
  obtain ⟨w4, hw4⟩ : ∃ w4 : World, w4 = (w.alloc (.cells o.arr 33)).drewN nq := ⟨_, rfl⟩
  have g4 : w.grownBy w4 none := by rw [hw4]; exact grown_drewN (World.grownBy_alloc w _ none) _
  have hB4 : w4.heap[w.heap.size]? = some (.cells o.arr 33 (0, 0)) := by rw [hw4, drewN_heap]; exact heap_alloc_new w _
  simp only [OpV.arr, hoc, hod, hn, hn2] at hw4
  rw [← hw4]
  clear hw4
  obtain ⟨o0, o1, o2, o3, o4, o5, o6, o7, o8, o9, o10, o11, o12, o13, o14, o15, of⟩ := blkOp hB4
  rw [hoc] at o2
  rw [hod] at o15
  rw [hn] at o14
  rw [hn2] at o4
  have c4 := fun b hb j => cell_grown g4 (b := b) hb j
  replace x0 := (c4 _ zx _).trans x0
  replace x1 := (c4 _ zx _).trans x1
  replace x2 := (c4 _ zx _).trans x2
  replace x3 := (c4 _ zx _).trans x3
  replace x4 := (c4 _ zx _).trans x4
  replace x5 := (c4 _ zx _).trans x5
  replace y0 := (c4 _ zy _).trans y0
  replace y1 := (c4 _ zy _).trans y1
  replace y2 := (c4 _ zy _).trans y2
  replace y3 := (c4 _ zy _).trans y3
  replace y4 := (c4 _ zy _).trans y4
  replace y5 := (c4 _ zy _).trans y5
  replace m0 := (c4 _ z1 _).trans m0
  replace m1 := (c4 _ z1 _).trans m1
  replace u16 := (c4 _ z2 _).trans u16
  replace v16 := (c4 _ z3 _).trans v16
  have z7 : w.heap.size < w4.heap.size := blk_lt hB4
  have s4 := g4.size
  have t0 : w.heap.size < w4.heap.size := by omega
  have t1 : bm < w4.heap.size := by omega
  have t2 : b1 < w4.heap.size := by omega
  have t3 : b0 < w4.heap.size := by omega
  have t4 : gx < w4.heap.size := by omega
  have t5 : gy < w4.heap.size := by omega
  clear c4 o0 o1 o3 o5 o6 o7 o8 o9 o10 o11 o12 o13 of
  go_region_held3 (fun w' => w'.cell? ⟨w.heap.size, 2, none⟩ = some (.int .i64 1) ∧ w'.cell? ⟨w.heap.size, 15, none⟩ = some (.int .i64 0) ∧ w'.cell? ⟨w.heap.size, 14, none⟩ = some (.int .u64 n) ∧ w'.cell? ⟨w.heap.size, 4, none⟩ = some (.int .u64 n2) ∧ w'.cell? ⟨bm, 1, none⟩ = some (.pointer (some ⟨b1, 0, none⟩)) ∧ w'.cell? ⟨bm, 0, none⟩ = some (.pointer (some ⟨b0, 0, none⟩)) ∧ w'.cell? ⟨b1, 16, none⟩ = some (.slice (some ⟨gx, 0, none⟩) a1.hs.length a1.ch) ∧ w'.cell? ⟨b0, 16, none⟩ = some (.slice (some ⟨gy, 0, none⟩) a0.hs.length a0.ch) ∧
      w'.cell? ⟨gx, n * 6, none⟩ = some (.int .u64 X.hd.height) ∧ w'.cell? ⟨gx, n * 6 + 1, none⟩ = some (.int .u64 X.hd.time) ∧ w'.cell? ⟨gx, n * 6 + 2, none⟩ = some (.bool X.hd.isOpen) ∧ w'.cell? ⟨gx, n * 6 + 3, none⟩ = some (.int .u64 X.hd.nextRecv) ∧ w'.cell? ⟨gx, n * 6 + 4, none⟩ = some X.vp ∧ w'.cell? ⟨gx, n * 6 + 5, none⟩ = some X.va ∧
      w'.cell? ⟨gy, n2 * 6, none⟩ = some (.int .u64 Y.hd.height) ∧ w'.cell? ⟨gy, n2 * 6 + 1, none⟩ = some (.int .u64 Y.hd.time) ∧ w'.cell? ⟨gy, n2 * 6 + 2, none⟩ = some (.bool Y.hd.isOpen) ∧ w'.cell? ⟨gy, n2 * 6 + 3, none⟩ = some (.int .u64 Y.hd.nextRecv) ∧ w'.cell? ⟨gy, n2 * 6 + 4, none⟩ = some Y.vp ∧ w'.cell? ⟨gy, n2 * 6 + 5, none⟩ = some Y.va) (go_keep)
    (first | (go_at_call_of 26 (X.hd.height); refine (rhead X _).mono ?_; rintro e w5 ⟨rfl, g5⟩; have e0 := cell_grown g5 (b := w.heap.size) t0; have e1 := cell_grown g5 (b := bm) t1; have e2 := cell_grown g5 (b := b1) t2; have e3 := cell_grown g5 (b := b0) t3; have e4 := cell_grown g5 (b := gx) t4; have e5 := cell_grown g5 (b := gy) t5) | (go_at_call_of 26 (Y.hd.height); refine (rhead Y _).mono ?_; rintro e w6 ⟨rfl, g6⟩; have r0 := cell_grown g6 (b := w.heap.size) (Nat.lt_of_lt_of_le t0 g5.size); have r1 := cell_grown g6 (b := bm) (Nat.lt_of_lt_of_le t1 g5.size); have r2 := cell_grown g6 (b := b1) (Nat.lt_of_lt_of_le t2 g5.size); have r3 := cell_grown g6 (b := b0) (Nat.lt_of_lt_of_le t3 g5.size); have r4 := cell_grown g6 (b := gx) (Nat.lt_of_lt_of_le t4 g5.size); have r5 := cell_grown g6 (b := gy) (Nat.lt_of_lt_of_le t5 g5.size)))
  all_goals
    go_wp2_with fail
    go_ret
    exact ⟨rfl, grown_trans g4 (grown_trans (grown_trans (grown_drew (grown_refl w4 none)) g5 (fun k e => by cases e)) g6 (fun k e => by cases e)) (fun k e => by cases e)⟩

end Go.Proofs.YtmfdhcnnhlchbaaGreat

namespace Go.Proofs.YtmfdhcnnhlchbaaGreat
open Go.RowKit

set_option maxRecDepth 100000 in
set_option maxHeartbeats 3200000 in
theorem alike_ok11 {own : Nat → Nat} {l : Nat} {w : World} {bm b0 b1 : Nat} {m : Mod} {a0 a1 : At} {N n n2 : Nat} {o : OpV} {X Y : HdV} (h : RefMod own l w bm b0 b1 m a0 a1) (hL : Lim m N) (hN : N ≤ 1000000) (hoc : o.c = 1) (hod : o.d = 1) (hn : o.num = n) (hn2 : o.n = n2)
    (hX : a1.hs[n]? = some X) (hY : a1.hs[n2]? = some Y) :
    Calls Tryz.prog 28 #[.pointer (some ⟨bm, 0, none⟩), o.agg] w fun e w' => e = .returned (.bool (decide (short X.hd = short Y.hd))) ∧ w.grownBy w' none := by
  have lX := (List.getElem?_eq_some_iff.1 hX).1
  have lY := (List.getElem?_eq_some_iff.1 hY).1
  obtain ⟨gx, hgx, _⟩ := owns_some' h.c1.hd (by omega)
  have rX := h.c1.hd
  have rY := h.c1.hd
  simp only [At.vh, hgx] at rX
  simp only [At.vh, hgx] at rY
  obtain ⟨x0, x1, x2, x3, x4, x5⟩ := hdr_cells rX hX
  obtain ⟨y0, y1, y2, y3, y4, y5⟩ := hdr_cells rY hY
  have zx : gx < w.heap.size := owns_lt rX rfl
  have zy : gx < w.heap.size := owns_lt rY rfl
  obtain ⟨m0, m1, m2, mf⟩ := blk3 h.blk
  obtain ⟨_, _, _, _, _, _, _, _, _, _, _, _, _, _, _, _, u16, _, _⟩ := ch_cells h.c1.blk
  obtain ⟨_, _, _, _, _, _, _, _, _, _, _, _, _, _, _, _, v16, _, _⟩ := ch_cells h.c1.blk
  rw [hgx] at u16
  rw [hgx] at v16
  have z1 := blk_lt h.blk
  have z2 := blk_lt h.c1.blk
  have z3 := blk_lt h.c1.blk
  have eX := heads_len h.c1
  have eY := heads_len h.c1
  have w0 : IntKind.u64.wrap (a1.hs.length : Int) = a1.hs.length := wrapU_small (by omega) (by have := hL.l1.h; omega)
  have w1 : IntKind.u64.wrap (a1.hs.length : Int) = a1.hs.length := wrapU_small (by omega) (by have := hL.l1.h; omega)
  clear eX eY
  have b1' : decide ((a1.hs.length : Int) ≤ (n : Int)) = false := by simp; omega
  have b2' : decide ((a1.hs.length : Int) ≤ (n2 : Int)) = false := by simp; omega
  have f1 : (n : Int) < (a1.hs.length : Int) := by omega
  have f2 : (n2 : Int) < (a1.hs.length : Int) := by omega
  clear m2 mf
  have hq := fun w => head_eq X.hd Y.hd w
  generalize decide (short X.hd = short Y.hd) = B at hq
  go_enter Tryz.func28, Tryz.ntmps28
  go_wp2_with fail
  go_quiet (fail)
  go_wp2_with fail
  obtain ⟨w4, hw4⟩ : ∃ w4 : World, w4 = (w.alloc (.cells o.arr 33)).drewN nq := ⟨_, rfl⟩
  have g4 : w.grownBy w4 none := by rw [hw4]; exact grown_drewN (World.grownBy_alloc w _ none) _
  have hB4 : w4.heap[w.heap.size]? = some (.cells o.arr 33 (0, 0)) := by rw [hw4, drewN_heap]; exact heap_alloc_new w _
  simp only [OpV.arr, hoc, hod, hn, hn2] at hw4
  rw [← hw4]
  clear hw4
  obtain ⟨o0, o1, o2, o3, o4, o5, o6, o7, o8, o9, o10, o11, o12, o13, o14, o15, of⟩ := blkOp hB4
  rw [hoc] at o2
  rw [hod] at o15
  rw [hn] at o14
  rw [hn2] at o4
  have c4 := fun b hb j => cell_grown g4 (b := b) hb j
  replace x0 := (c4 _ zx _).trans x0
  replace x1 := (c4 _ zx _).trans x1
  replace x2 := (c4 _ zx _).trans x2
  replace x3 := (c4 _ zx _).trans x3
  replace x4 := (c4 _ zx _).trans x4
  replace x5 := (c4 _ zx _).trans x5
  replace y0 := (c4 _ zy _).trans y0
  replace y1 := (c4 _ zy _).trans y1
  replace y2 := (c4 _ zy _).trans y2
  replace y3 := (c4 _ zy _).trans y3
  replace y4 := (c4 _ zy _).trans y4
  replace y5 := (c4 _ zy _).trans y5
  replace m0 := (c4 _ z1 _).trans m0
  replace m1 := (c4 _ z1 _).trans m1
  replace u16 := (c4 _ z2 _).trans u16
  replace v16 := (c4 _ z3 _).trans v16
  have z7 : w.heap.size < w4.heap.size := blk_lt hB4
  have s4 := g4.size
  have t0 : w.heap.size < w4.heap.size := by omega
  have t1 : bm < w4.heap.size := by omega
  have t2 : b1 < w4.heap.size := by omega
  have t3 : b1 < w4.heap.size := by omega
  have t4 : gx < w4.heap.size := by omega
  have t5 : gx < w4.heap.size := by omega
  clear c4 o0 o1 o3 o5 o6 o7 o8 o9 o10 o11 o12 o13 of
  go_region_held3 (fun w' => w'.cell? ⟨w.heap.size, 2, none⟩ = some (.int .i64 1) ∧ w'.cell? ⟨w.heap.size, 15, none⟩ = some (.int .i64 1) ∧ w'.cell? ⟨w.heap.size, 14, none⟩ = some (.int .u64 n) ∧ w'.cell? ⟨w.heap.size, 4, none⟩ = some (.int .u64 n2) ∧ w'.cell? ⟨bm, 1, none⟩ = some (.pointer (some ⟨b1, 0, none⟩)) ∧ w'.cell? ⟨bm, 1, none⟩ = some (.pointer (some ⟨b1, 0, none⟩)) ∧ w'.cell? ⟨b1, 16, none⟩ = some (.slice (some ⟨gx, 0, none⟩) a1.hs.length a1.ch) ∧ w'.cell? ⟨b1, 16, none⟩ = some (.slice (some ⟨gx, 0, none⟩) a1.hs.length a1.ch) ∧
      w'.cell? ⟨gx, n * 6, none⟩ = some (.int .u64 X.hd.height) ∧ w'.cell? ⟨gx, n * 6 + 1, none⟩ = some (.int .u64 X.hd.time) ∧ w'.cell? ⟨gx, n * 6 + 2, none⟩ = some (.bool X.hd.isOpen) ∧ w'.cell? ⟨gx, n * 6 + 3, none⟩ = some (.int .u64 X.hd.nextRecv) ∧ w'.cell? ⟨gx, n * 6 + 4, none⟩ = some X.vp ∧ w'.cell? ⟨gx, n * 6 + 5, none⟩ = some X.va ∧
      w'.cell? ⟨gx, n2 * 6, none⟩ = some (.int .u64 Y.hd.height) ∧ w'.cell? ⟨gx, n2 * 6 + 1, none⟩ = some (.int .u64 Y.hd.time) ∧ w'.cell? ⟨gx, n2 * 6 + 2, none⟩ = some (.bool Y.hd.isOpen) ∧ w'.cell? ⟨gx, n2 * 6 + 3, none⟩ = some (.int .u64 Y.hd.nextRecv) ∧ w'.cell? ⟨gx, n2 * 6 + 4, none⟩ = some Y.vp ∧ w'.cell? ⟨gx, n2 * 6 + 5, none⟩ = some Y.va) (go_keep)
    (first | (go_at_call_of 26 (X.hd.height); refine (rhead X _).mono ?_; rintro e w5 ⟨rfl, g5⟩; have e0 := cell_grown g5 (b := w.heap.size) t0; have e1 := cell_grown g5 (b := bm) t1; have e2 := cell_grown g5 (b := b1) t2; have e3 := cell_grown g5 (b := b1) t3; have e4 := cell_grown g5 (b := gx) t4; have e5 := cell_grown g5 (b := gx) t5) | (go_at_call_of 26 (Y.hd.height); refine (rhead Y _).mono ?_; rintro e w6 ⟨rfl, g6⟩; have r0 := cell_grown g6 (b := w.heap.size) (Nat.lt_of_lt_of_le t0 g5.size); have r1 := cell_grown g6 (b := bm) (Nat.lt_of_lt_of_le t1 g5.size); have r2 := cell_grown g6 (b := b1) (Nat.lt_of_lt_of_le t2 g5.size); have r3 := cell_grown g6 (b := b1) (Nat.lt_of_lt_of_le t3 g5.size); have r4 := cell_grown g6 (b := gx) (Nat.lt_of_lt_of_le t4 g5.size); have r5 := cell_grown g6 (b := gx) (Nat.lt_of_lt_of_le t5 g5.size)))
  all_goals
    go_wp2_with fail
    go_ret
    exact ⟨rfl, grown_trans g4 (grown_trans (grown_trans (grown_drew (grown_refl w4 none)) g5 (fun k e => by cases e)) g6 (fun k e => by cases e)) (fun k e => by cases e)⟩

end Go.Proofs.YtmfdhcnnhlchbaaGreat

namespace Go.Proofs.YtmfdhcnnhlchbaaGreat
open Go.RowKit

theorem same_near {m : Mod} {c d : Int} {n n2 : Nat} {X Y : Hd} (hc : c = 0 ∨ c = 1) (hd : d = 0 ∨ d = 1) (hX : (chainOf m c).heads[n]? = some X) (hY : (chainOf m d).heads[n2]? = some Y) : sameM m c n d n2 = decide (short X = short Y) := by
  unfold sameM headM
  rw [if_pos hc, if_pos hd, Int.toNat_natCast, Int.toNat_natCast, hX, hY]

theorem head_hd {own : Nat → Nat} {o : Nat} {w : World} {b : Nat} {S : Ch} {a : At} (h : RefCh own o w b S a) {n : Nat} (hn : n < S.heads.length) : ∃ K, a.hs[n]? = some K ∧ S.heads[n]? = some K.hd := by
  have hl := heads_len h
  refine ⟨a.hs[n]'(by omega), List.getElem?_eq_getElem _, ?_⟩
  rw [← h.heads]
  simp [show n < a.hs.length by omega]

theorem alike_spec {own : Nat → Nat} {l : Nat} {w : World} {bm b0 b1 : Nat} {m : Mod} {a0 a1 : At} {N : Nat} {o : OpV} (h : RefMod own l w bm b0 b1 m a0 a1) (hL : Lim m N) (hN : N ≤ 1000000) (hn : 0 ≤ o.num) (hn2 : 0 ≤ o.n) :
    Calls Tryz.prog 28 #[.pointer (some ⟨bm, 0, none⟩), o.agg] w fun e w' => e = .returned (.bool (sameM m o.c o.num o.d o.n)) ∧ w.grownBy w' none := by
  by_cases hb : o.c < 0 ∨ 1 < o.c ∨ o.d < 0 ∨ 1 < o.d
  · exact alike_bad hb
  have hc : o.c = 0 ∨ o.c = 1 := by omega
  have hd : o.d = 0 ∨ o.d = 1 := by omega
  obtain ⟨n, en⟩ := Int.eq_ofNat_of_zero_le hn
  obtain ⟨n2, en2⟩ := Int.eq_ofNat_of_zero_le hn2
  rcases hc with hc | hc <;> rcases hd with hd | hd
  · by_cases hf : (m.c0.heads.length : Int) ≤ o.num ∨ o.num < (m.c0.heads.length : Int) ∧ (m.c0.heads.length : Int) ≤ o.n
    · exact alike_far00 h hL hN hc hd hn hn2 hf
    · obtain ⟨X, x1, x2⟩ := head_hd h.c0 (n := n) (by omega)
      obtain ⟨Y, y1, y2⟩ := head_hd h.c0 (n := n2) (by omega)
      rw [en, en2, same_near (.inl hc) (.inl hd) (by rw [hc]; exact x2) (by rw [hd]; exact y2)]
      exact alike_ok00 h hL hN hc hd en en2 x1 y1
  · by_cases hf : (m.c0.heads.length : Int) ≤ o.num ∨ o.num < (m.c0.heads.length : Int) ∧ (m.c1.heads.length : Int) ≤ o.n
    · exact alike_far01 h hL hN hc hd hn hn2 hf
    · obtain ⟨X, x1, x2⟩ := head_hd h.c0 (n := n) (by omega)
      obtain ⟨Y, y1, y2⟩ := head_hd h.c1 (n := n2) (by omega)
      rw [en, en2, same_near (.inl hc) (.inr hd) (by rw [hc]; exact x2) (by rw [hd]; exact y2)]
      exact alike_ok01 h hL hN hc hd en en2 x1 y1
  · by_cases hf : (m.c1.heads.length : Int) ≤ o.num ∨ o.num < (m.c1.heads.length : Int) ∧ (m.c0.heads.length : Int) ≤ o.n
    · exact alike_far10 h hL hN hc hd hn hn2 hf
    · obtain ⟨X, x1, x2⟩ := head_hd h.c1 (n := n) (by omega)
      obtain ⟨Y, y1, y2⟩ := head_hd h.c0 (n := n2) (by omega)
      rw [en, en2, same_near (.inr hc) (.inl hd) (by rw [hc]; exact x2) (by rw [hd]; exact y2)]
      exact alike_ok10 h hL hN hc hd en en2 x1 y1
  · by_cases hf : (m.c1.heads.length : Int) ≤ o.num ∨ o.num < (m.c1.heads.length : Int) ∧ (m.c1.heads.length : Int) ≤ o.n
    · exact alike_far11 h hL hN hc hd hn hn2 hf
    · obtain ⟨X, x1, x2⟩ := head_hd h.c1 (n := n) (by omega)
      obtain ⟨Y, y1, y2⟩ := head_hd h.c1 (n := n2) (by omega)
      rw [en, en2, same_near (.inr hc) (.inr hd) (by rw [hc]; exact x2) (by rw [hd]; exact y2)]
      exact alike_ok11 h hL hN hc hd en en2 x1 y1

end Go.Proofs.YtmfdhcnnhlchbaaGreat
