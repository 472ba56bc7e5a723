import Derived.Test.YtmfdhcnnhlchbabC16
namespace Go.Proofs.Ytmfdhcnnhlchbab
open Go.RowKit Go.Maps

def dosA : List Dos := [
  ⟨0, 1, 0, ⟨0, 0, 1, 0, 5, 99, 0⟩, 1, 0⟩,
  ⟨0, 2, 0, pk0, 0, 0⟩,
  ⟨1, 3, 1, pk0, 0, 0⟩,
  ⟨1, 4, 1, pk0, 0, 0⟩,
  ⟨1, 1, 0, ⟨0, 1, 9, 0, 3, 99, 0⟩, 1, 0⟩,
  ⟨1, 2, 0, pk0, 0, 0⟩,
  ⟨0, 3, 1, pk0, 0, 0⟩,
  ⟨0, 4, 1, pk0, 0, 0⟩,
  ⟨0, 5, 1, pk0, 0, 0⟩,
  ⟨0, 2, 0, pk0, 0, 0⟩,
  ⟨1, 3, 2, pk0, 0, 0⟩,
  ⟨1, 5, 1, pk0, 0, 0⟩]

abbrev endA : Mod := runD (newMod 10) (dosA.take 12)
theorem endA_p0 : endA.c0.hd.packets = [] := by kernel_rfl
theorem endA_p1 : endA.c1.hd.packets = [] := by kernel_rfl
theorem endA_l : endA.c0.locked = 5 := by kernel_rfl
theorem endA_a : endA.c1.about = 5 := by kernel_rfl
theorem endA_b0 : balM endA 0 0 0 = 5 := by kernel_rfl
theorem endA_b1 : balM endA 1 1 0 = 5 := by kernel_rfl

theorem dosA_ok : okD (newMod 10) dosA = true := by kernel_rfl

set_option maxRecDepth 100000 in
set_option maxHeartbeats 4000000 in
theorem returned_true {w : World} : Calls Try.prog 13 #[] w fun e w' => e = .returned (.bool true) ∧ w.grownBy w' none := by
  go_enter Try.func13, Try.ntmps13
  go_wp2_with fail
  refine (new_ok (coins := 10) (by decide) (by decide)).mono ?_
  rintro e v0 ⟨x, lab, a0, a1, rfl, hb, hl, hx, g0⟩
  go_wp2_with fail
  refine (packet_any _ _ _ _ _ _).mono ?_
  rintro e v1 ⟨rfl, g1⟩
  go_wp2_with fail
  refine (step_plain _ _).mono ?_
  rintro e v2 ⟨rfl, g2⟩
  go_wp2_with fail
  refine (step_plain _ _).mono ?_
  rintro e v3 ⟨rfl, g3⟩
  go_wp2_with fail
  refine (step_plain _ _).mono ?_
  rintro e v4 ⟨rfl, g4⟩
  go_wp2_with fail
  refine (packet_any _ _ _ _ _ _).mono ?_
  rintro e v5 ⟨rfl, g5⟩
  go_wp2_with fail
  refine (step_plain _ _).mono ?_
  rintro e v6 ⟨rfl, g6⟩
  go_wp2_with fail
  refine (step_plain _ _).mono ?_
  rintro e v7 ⟨rfl, g7⟩
  go_wp2_with fail
  refine (step_plain _ _).mono ?_
  rintro e v8 ⟨rfl, g8⟩
  go_wp2_with fail
  refine (step_plain _ _).mono ?_
  rintro e v9 ⟨rfl, g9⟩
  go_wp2_with fail
  refine (step_plain _ _).mono ?_
  rintro e v10 ⟨rfl, g10⟩
  go_wp2_with fail
  refine (step_plain _ _).mono ?_
  rintro e v11 ⟨rfl, g11⟩
  go_wp2_with fail
  refine (step_plain _ _).mono ?_
  rintro e v12 ⟨rfl, g12⟩
  go_wp2_with fail
  obtain ⟨W, hW⟩ : ∃ W : World, W = v12.alloc (.cells (dosA.flatMap Dos.cells).toArray tDo) := ⟨_, rfl⟩
  have gW : v0.grownBy W none := by
    rw [hW]
    refine grown_alloc ?_ _
    refine grown_trans ?_ g12 (fun k e => by cases e)
    refine grown_trans ?_ g11 (fun k e => by cases e)
    refine grown_trans ?_ g10 (fun k e => by cases e)
    refine grown_trans ?_ g9 (fun k e => by cases e)
    refine grown_trans ?_ g8 (fun k e => by cases e)
    refine grown_trans ?_ g7 (fun k e => by cases e)
    refine grown_trans ?_ g6 (fun k e => by cases e)
    refine grown_trans ?_ g5 (fun k e => by cases e)
    refine grown_trans ?_ g4 (fun k e => by cases e)
    refine grown_trans ?_ g3 (fun k e => by cases e)
    exact grown_trans g1 g2 (fun k e => by cases e)
  have hRow : W.heap[v12.heap.size]? = some (.cells (dosA.flatMap Dos.cells).toArray tDo (0, 0)) := by rw [hW]; exact heap_alloc_new v12 _
  have hs12 : v0.heap.size ≤ v12.heap.size := by have := g1.size; have := g2.size; have := g3.size; have := g4.size; have := g5.size; have := g6.size; have := g7.size; have := g8.size; have := g9.size; have := g10.size; have := g11.size; have := g12.size; omega
  have hl0 : labN lab v0.heap.size v12.heap.size = 0 := labN_new hs12
  have hxx := hb.lx
  have hb0 := hb.fresh gW
  have hR0 : RunAt x (labN lab v0.heap.size) W (newMod 10) dosA 0 W := ⟨_, a0, a1, _, _, hb0, StepB.refl _ _ _, by decide, by decide⟩
  have hd12 : dosA.length = 12 := rfl
  change Code.wp _ _ _ _ (v12.alloc (.cells (dosA.flatMap Dos.cells).toArray tDo))
  rw [← hW]
  clear hW g1 g2 g3 g4 g5 g6 g7 g8 g9 g10 g11 g12
  go_loopw [46] (fun i wr => ∃ k : Nat, i = .int .i64 k ∧ k ≤ 12 ∧ RunAt x (labN lab v0.heap.size) W (newMod 10) dosA k wr) (fun i _ => 12 - (intOf i).toNat)
  case atStart => exact ⟨0, rfl, Nat.zero_le _, hR0⟩
  case round =>
    obtain ⟨k, rfl, hk, hR⟩ := hrel
    by_cases hlt : k < 12
    · have hkl : (k : Int) < 12 := by omega
      obtain ⟨d, hd⟩ : ∃ d, dosA[k]? = some d := ⟨dosA[k], List.getElem?_eq_getElem (by omega)⟩
      have hrow : wr.heap[v12.heap.size]? = some (.cells (dosA.flatMap Dos.cells).toArray tDo (0, 0)) := by
        obtain ⟨_, _, _, _, _, _, st, _⟩ := hR
        exact (st.block _ (blk_lt hRow) hl0).trans hRow
      obtain ⟨z0, z1, z2, z3, z4, z5, z6, z7, z8, z9, z10, z11⟩ := dos_cells hrow hd
      have hzr := blk_lt hrow
      go_wp2_with fail
      obtain ⟨w2, hw2⟩ : ∃ w2 : World, w2 = wr.alloc (.cells d.arr tDo) := ⟨_, rfl⟩
      rw [← hw2]
      have g2 : wr.grownBy w2 none := by rw [hw2]; exact World.grownBy_alloc _ _ _
      have hX2 : w2.heap[wr.heap.size]? = some (.cells d.arr tDo (0, 0)) := by rw [hw2]; exact heap_alloc_new wr _
      clear hw2 z0 z1 z2 z3 z4 z5 z6 z7 z8 z9 z10 z11
      obtain ⟨x0, x1, x2, x3, x4, x5, x6, x7, x8, x9, x10, x11, xf⟩ := blk12c hX2
      have hstep := run_step hR (by omega) dosA_ok hd g2
      have z2l := blk_lt hX2
      go_wp2_with fail
      refine hstep.mono ?_
      rintro e w3 ⟨rfl, hR3, hkeep⟩
      have hX3 := (hkeep _ (Nat.le_refl _) z2l).trans hX2
      clear x0 x1 x2 x3 x4 x5 x6 x7 x8 x9 x10 x11 xf
      obtain ⟨x0, x1, x2, x3, x4, x5, x6, x7, x8, x9, x10, x11, xf⟩ := blk12c hX3
      go_wp2_with fail
      go_roundw
      case rel => exact ⟨k + 1, by go_num, by omega, hR3⟩
      case measure => simp [intOf]; omega
    · have hke : k = 12 := by omega
      subst hke
      go_wp2_with fail
      obtain ⟨lab', b0, b1, k0, k1, hB, st, t0, t1⟩ := hR
      have hL0 := look0_none hB endA_p0
      rw [endA_l] at hL0
      generalize endA.c0.hd.height = i1, endA.c0.hd.time = i2, k0.height = i3, endA.c0.hd.isOpen = i4, endA.c0.nextSend = i5, endA.c0.hd.nextRecv = i6, endA.c0.about = i7 at hL0
      refine hL0.mono ?_
      rintro e u1 ⟨rfl, gu1⟩
      go_wp2_with fail
      obtain ⟨u2, hu2⟩ : ∃ u2 : World, u2 = u1.alloc (.cells #[.int .u64 i1, .int .u64 i2, .int .u64 i3, .bool i4, .int .u64 i5, .int .u64 i6, .slice none 0 0, .int .u64 5, .int .u64 i7] 28) := ⟨_, rfl⟩
      have gu2 : wr.grownBy u2 none := by rw [hu2]; exact grown_alloc gu1 _
      have hX2 : u2.heap[u1.heap.size]? = some (.cells #[.int .u64 i1, .int .u64 i2, .int .u64 i3, .bool i4, .int .u64 i5, .int .u64 i6, .slice none 0 0, .int .u64 5, .int .u64 i7] 28 (0, 0)) := by rw [hu2]; exact heap_alloc_new u1 _
      rw [← hu2]
      clear hu2
      have zl2 := blk_lt hX2
      have hL1 := look1_none (hB.grown gu2) endA_p1
      rw [endA_a] at hL1
      generalize endA.c1.hd.height = j1, endA.c1.hd.time = j2, k1.height = j3, endA.c1.hd.isOpen = j4, endA.c1.nextSend = j5, endA.c1.hd.nextRecv = j6, endA.c1.locked = j7 at hL1
      refine hL1.mono ?_
      rintro e u3 ⟨rfl, gu3⟩
      go_wp2_with fail
      obtain ⟨u4, hu4⟩ : ∃ u4 : World, u4 = u3.alloc (.cells #[.int .u64 j1, .int .u64 j2, .int .u64 j3, .bool j4, .int .u64 j5, .int .u64 j6, .slice none 0 0, .int .u64 j7, .int .u64 5] 28) := ⟨_, rfl⟩
      have gu4 : u2.grownBy u4 none := by rw [hu4]; exact grown_alloc gu3 _
      have hX4 : u4.heap[u3.heap.size]? = some (.cells #[.int .u64 j1, .int .u64 j2, .int .u64 j3, .bool j4, .int .u64 j5, .int .u64 j6, .slice none 0 0, .int .u64 j7, .int .u64 5] 28 (0, 0)) := by rw [hu4]; exact heap_alloc_new u3 _
      rw [← hu4]
      clear hu4
      have hB4 := hB.grown (grown_trans gu2 gu4 (fun k e => by cases e))
      have hX24 := (gu4.block _ zl2 (by simp)).trans hX2
      have zl4 := blk_lt hX4
      have zl24 := blk_lt hX24
      obtain ⟨x0, x1, x2, x3, x4, x5, x6, x7, x8, xf⟩ := blk9c hX24
      obtain ⟨y0, y1, y2, y3, y4, y5, y6, y7, y8, yf⟩ := blk9c hX4
      clear x0 x1 x2 x3 x4 x5 x8 xf y0 y1 y2 y3 y4 y5 y7 yf
      have hb0 := balance0 hB4 (user := 0) (coin := 0) (by decide) (by decide)
      rw [endA_b0] at hb0
      have hb1 := balance1 hB4 (user := 1) (coin := 0) (by decide) (by decide)
      rw [endA_b1] at hb1
      have hwz : IntKind.i64.wrap 0 = 0 := by decide
      refine hb0.mono ?_
      rintro e u5 ⟨rfl, rfl⟩
      go_wp2_with fail
      refine hb1.mono ?_
      rintro e u6 ⟨rfl, rfl⟩
      go_wp2_with fail
      go_ret
      exact ⟨rfl, run_grown g0 hl gW st (grown_trans gu2 gu4 (fun k e => by cases e))⟩

end Go.Proofs.Ytmfdhcnnhlchbab
