import Derived.Test.YtmfdhcnnhlchbaaGreatC07
namespace Go.Proofs.YtmfdhcnnhlchbaaGreat
open Go.RowKit

set_option maxRecDepth 100000 in
set_option maxHeartbeats 1600000 in
theorem step_headN {Dev : Nat → (Nat → Nat) → Nat → World → Nat → Mod → Prop} {kd : Int → Prop} (D : DevSide Dev kd) {own : Nat → Nat} {w : World} {W N : Nat} {qs : List PairS} {o : OpV} (h : Inv Dev own w W qs N) (hN : N ≤ 900000)
    (hk : o.kind = 5) (hc0 : (o.c == 0) = false) (hc1 : (o.c == 1) = false) (ha : -9223372036854775808 ≤ o.a ∧ o.a ≤ 9223372036854775807) (hq : 0 < qs.length) :
    Calls Tryz.prog 15 #[.pointer (some ⟨W, 0, none⟩), o.agg] w fun e w' => e = .returned (.bool true) ∧ StepTo Dev own w W N w' := by
  obtain ⟨ls, a, hW, hnl⟩ := h.wr
  have hil : pickV o.a qs.length < qs.length := pickV_lt o.a hq
  obtain ⟨i, hi⟩ : ∃ i, i = pickV o.a qs.length := ⟨_, rfl⟩
  have hpick := fun w => pick_is o.a qs.length w hq (by have := h.len; omega) ha
  rw [← hi] at hil hpick
  obtain ⟨q, hqi⟩ : ∃ q, qs[i]? = some q := ⟨_, List.getElem?_eq_getElem hil⟩
  obtain ⟨hD, ⟨b0, b1, a0, a1, hM⟩, hL, ho3⟩ := h.ok q (List.mem_of_getElem? hqi)
  have hps : (qs.map fun q => (q.x, q.bm))[i]? = some (q.x, q.bm) := by simp [hqi]
  have hrow := hW.bs
  obtain ⟨gb, hgb, _⟩ := owns_some' hrow (by simpa using hq)
  rw [hgb] at hrow
  obtain ⟨r0, r1⟩ := pair_cells hrow hps
  obtain ⟨y0, y1, y2, y3, yf⟩ := blk4 hW.blk
  rw [hgb] at y0
  simp only [List.length_map] at y0
  have hWl := blk_lt hW.blk
  have hgl : gb < w.heap.size := owns_lt hrow rfl
  have hq0 : ((qs.length : Int) == 0) = false := by rw [beq_eq_false_iff_ne]; omega
  have hil' : (i : Int) < (qs.length : Int) := by omega
  have HI : Hid (i = pickV o.a qs.length) := hi
  clear hi
  go_enter Tryz.func15, Tryz.ntmps15
  go_wp2_with fail
  obtain ⟨w1, hw1⟩ : ∃ w1 : World, w1 = w.alloc (.cells o.arr 33) := ⟨_, rfl⟩
  have g1 : w.grownBy w1 none := by rw [hw1]; exact World.grownBy_alloc _ _ _
  have hX1 : w1.heap[w.heap.size]? = some (.cells o.arr 33 (0, 0)) := by rw [hw1]; exact heap_alloc_new w _
  simp only [OpV.arr, hk] at hw1
  rw [← hw1]
  have hcell : ∀ b j v, b < w.heap.size → w.cell? ⟨b, j, none⟩ = some v → w1.cell? ⟨b, j, none⟩ = some v := fun b j v hb hv => (World.cell?_of_block (g1.block b hb (by simp))).trans hv
  replace r0 := hcell _ _ _ hgl r0
  replace r1 := hcell _ _ _ hgl r1
  replace y0 := hcell _ _ _ hWl y0
  obtain ⟨o0, o1, o2, o3, o4, o5, o6, o7, o8, o9, o10, o11, o12, o13, o14, o15, of⟩ := blkOp hX1
  have hz1 : w.heap.size < w1.heap.size := blk_lt hX1
  clear y1 y2 y3 yf hcell hw1
  go_region_held3 (fun w' => w'.cell? ⟨W, 0, none⟩ = some (.slice (some ⟨gb, 0, none⟩) qs.length a.cb) ∧ w'.cell? ⟨w.heap.size, 1, none⟩ = some (.int .i64 o.a) ∧ w'.cell? ⟨gb, i * 2, none⟩ = some (.pointer (some ⟨q.x, 0, none⟩)) ∧ w'.cell? ⟨gb, i * 2 + 1, none⟩ = some (.pointer (some ⟨q.bm, 0, none⟩))) (go_keep)
    (first | (go_at_call 20; refine (hpick _).mono ?_; rintro e w' ⟨rfl, rfl⟩))
  all_goals
    go_wp2_with fail
    obtain ⟨w2, hw2⟩ : ∃ w2 : World, w2 = (w1.alloc (.cells #[.pointer (some ⟨q.x, 0, none⟩), .pointer (some ⟨q.bm, 0, none⟩)] 52)).drew := ⟨_, rfl⟩
    rw [← hw2]
    have g2 : w.grownBy w2 none := by rw [hw2]; exact grown_drew (grown_alloc g1 _)
    have hX2 : w2.heap[w.heap.size]? = some (.cells o.arr 33 (0, 0)) := by rw [hw2]; exact (heap_alloc_old w1 _ hz1).trans hX1
    have hP2 : w2.heap[w1.heap.size]? = some (.cells #[.pointer (some ⟨q.x, 0, none⟩), .pointer (some ⟨q.bm, 0, none⟩)] 52 (0, 0)) := by rw [hw2]; exact heap_alloc_new w1 _
    clear hw2 o0 o1 o2 o3 o4 o5 o6 o7 o8 o9 o10 o11 o12 o13 o14 o15 of r0 r1 y0 hpick
    have st2 : ∀ T, StepS T own (relab own w) w w2 := fun T => (relab_step T own w).trans (grown_stepS g2)
    have hD2 : Dev N (relab own w) q.o w2 q.x q.m := D.keep hD (st2 (fun _ => False)) (by simp) (by simp)
    have hM2 : RefMod (relab own w) q.o w2 q.bm b0 b1 q.m a0 a1 := hM.keepS (st2 (fun _ => False)) (by simp) (by simp) (by simp) (by simp)
    have hz2 : w1.heap.size < w2.heap.size := blk_lt hP2
    have hX := blkOp hX2
    obtain ⟨o0, o1, o2, o3, o4, o5, o6, o7, o8, o9, o10, o11, o12, o13, o14, o15, of⟩ := hX
    obtain ⟨p0, p1, pf⟩ := blk2 hP2
    skip
    go_wp2_with fail
    refine (D.headNo hD2 (by simpa using hc0) (by simpa using hc1)).mono ?_
    rintro e w3 ⟨rfl, g3⟩
    have hX3 := (g3.block _ (by omega) (by simp)).trans hX2
    have hP3 := (g3.block _ hz2 (by simp)).trans hP2
    have hM3 : RefMod (relab own w) q.o w3 q.bm b0 b1 q.m a0 a1 := hM2.keepS (grown_stepS (T := fun _ => False) g3) (by simp) (by simp) (by simp) (by simp)
    clear o0 o1 o2 o3 o4 o5 o6 o7 o8 o9 o10 o11 o12 o13 o14 o15 of p0 p1 pf
    obtain ⟨o0, o1, o2, o3, o4, o5, o6, o7, o8, o9, o10, o11, o12, o13, o14, o15, of⟩ := blkOp hX3
    obtain ⟨p0, p1, pf⟩ := blk2 hP3
    have z1 := blk_lt hX3
    have z2 := blk_lt hP3
    have z3 := blk_lt hM3.blk
    have z4 := blk_lt hM3.c0.blk
    have z5 := blk_lt hM3.c1.blk
    skip
    go_wp2_with fail
    go_ret
    exact ⟨rfl, relab own w, qs, h.same D ((st2 (fun _ => False)).trans (grown_stepS (grown_alloc g3 _))) (fun l hl => hl.elim) (by omega), (st2 _).trans (grown_stepS (grown_alloc g3 _))⟩

end Go.Proofs.YtmfdhcnnhlchbaaGreat

namespace Go.Proofs.YtmfdhcnnhlchbaaGreat
open Go.RowKit

set_option maxRecDepth 100000 in
set_option maxHeartbeats 1600000 in
theorem step_headFar0 {Dev : Nat → (Nat → Nat) → Nat → World → Nat → Mod → Prop} {kd : Int → Prop} (D : DevSide Dev kd) {own : Nat → Nat} {w : World} {W N : Nat} {qs : List PairS} {o : OpV} (h : Inv Dev own w W qs N) (hN : N ≤ 900000)
    (hk : o.kind = 5) (hoc : o.c = 0) (hfar : ∀ q, qs[pickV o.a qs.length]? = some q → (q.m.c0.heads.length : Int) ≤ o.num) (ha : -9223372036854775808 ≤ o.a ∧ o.a ≤ 9223372036854775807) (hq : 0 < qs.length) :
    Calls Tryz.prog 15 #[.pointer (some ⟨W, 0, none⟩), o.agg] w fun e w' => e = .returned (.bool true) ∧ StepTo Dev own w W N w' := by
  obtain ⟨ls, a, hW, hnl⟩ := h.wr
  have hil : pickV o.a qs.length < qs.length := pickV_lt o.a hq
  obtain ⟨i, hi⟩ : ∃ i, i = pickV o.a qs.length := ⟨_, rfl⟩
  have hpick := fun w => pick_is o.a qs.length w hq (by have := h.len; omega) ha
  rw [← hi] at hil hpick
  obtain ⟨q, hqi⟩ : ∃ q, qs[i]? = some q := ⟨_, List.getElem?_eq_getElem hil⟩
  obtain ⟨hD, ⟨b0, b1, a0, a1, hM⟩, hL, ho3⟩ := h.ok q (List.mem_of_getElem? hqi)
  have hps : (qs.map fun q => (q.x, q.bm))[i]? = some (q.x, q.bm) := by simp [hqi]
  have hrow := hW.bs
  obtain ⟨gb, hgb, _⟩ := owns_some' hrow (by simpa using hq)
  rw [hgb] at hrow
  obtain ⟨r0, r1⟩ := pair_cells hrow hps
  obtain ⟨y0, y1, y2, y3, yf⟩ := blk4 hW.blk
  rw [hgb] at y0
  simp only [List.length_map] at y0
  have hWl := blk_lt hW.blk
  have hgl : gb < w.heap.size := owns_lt hrow rfl
  have hq0 : ((qs.length : Int) == 0) = false := by rw [beq_eq_false_iff_ne]; omega
  have hil' : (i : Int) < (qs.length : Int) := by omega
  have HI : Hid (i = pickV o.a qs.length) := hi
  clear hi
  go_enter Tryz.func15, Tryz.ntmps15
  go_wp2_with fail
  obtain ⟨w1, hw1⟩ : ∃ w1 : World, w1 = w.alloc (.cells o.arr 33) := ⟨_, rfl⟩
  have g1 : w.grownBy w1 none := by rw [hw1]; exact World.grownBy_alloc _ _ _
  have hX1 : w1.heap[w.heap.size]? = some (.cells o.arr 33 (0, 0)) := by rw [hw1]; exact heap_alloc_new w _
  simp only [OpV.arr, hk, hoc] at hw1
  rw [← hw1]
  have hcell : ∀ b j v, b < w.heap.size → w.cell? ⟨b, j, none⟩ = some v → w1.cell? ⟨b, j, none⟩ = some v := fun b j v hb hv => (World.cell?_of_block (g1.block b hb (by simp))).trans hv
  replace r0 := hcell _ _ _ hgl r0
  replace r1 := hcell _ _ _ hgl r1
  replace y0 := hcell _ _ _ hWl y0
  obtain ⟨o0, o1, o2, o3, o4, o5, o6, o7, o8, o9, o10, o11, o12, o13, o14, o15, of⟩ := blkOp hX1
  have hz1 : w.heap.size < w1.heap.size := blk_lt hX1
  clear y1 y2 y3 yf hcell hw1
  go_region_held3 (fun w' => w'.cell? ⟨W, 0, none⟩ = some (.slice (some ⟨gb, 0, none⟩) qs.length a.cb) ∧ w'.cell? ⟨w.heap.size, 1, none⟩ = some (.int .i64 o.a) ∧ w'.cell? ⟨gb, i * 2, none⟩ = some (.pointer (some ⟨q.x, 0, none⟩)) ∧ w'.cell? ⟨gb, i * 2 + 1, none⟩ = some (.pointer (some ⟨q.bm, 0, none⟩))) (go_keep)
    (first | (go_at_call 20; refine (hpick _).mono ?_; rintro e w' ⟨rfl, rfl⟩))
  all_goals
    go_wp2_with fail
    obtain ⟨w2, hw2⟩ : ∃ w2 : World, w2 = (w1.alloc (.cells #[.pointer (some ⟨q.x, 0, none⟩), .pointer (some ⟨q.bm, 0, none⟩)] 52)).drew := ⟨_, rfl⟩
    rw [← hw2]
    have g2 : w.grownBy w2 none := by rw [hw2]; exact grown_drew (grown_alloc g1 _)
    have hX2 : w2.heap[w.heap.size]? = some (.cells o.arr 33 (0, 0)) := by rw [hw2]; exact (heap_alloc_old w1 _ hz1).trans hX1
    have hP2 : w2.heap[w1.heap.size]? = some (.cells #[.pointer (some ⟨q.x, 0, none⟩), .pointer (some ⟨q.bm, 0, none⟩)] 52 (0, 0)) := by rw [hw2]; exact heap_alloc_new w1 _
    clear hw2 o0 o1 o2 o3 o4 o5 o6 o7 o8 o9 o10 o11 o12 o13 o14 o15 of r0 r1 y0 hpick
    have st2 : ∀ T, StepS T own (relab own w) w w2 := fun T => (relab_step T own w).trans (grown_stepS g2)
    have hD2 : Dev N (relab own w) q.o w2 q.x q.m := D.keep hD (st2 (fun _ => False)) (by simp) (by simp)
    have hM2 : RefMod (relab own w) q.o w2 q.bm b0 b1 q.m a0 a1 := hM.keepS (st2 (fun _ => False)) (by simp) (by simp) (by simp) (by simp)
    have hz2 : w1.heap.size < w2.heap.size := blk_lt hP2
    have hX := blkOp hX2
    obtain ⟨o0, o1, o2, o3, o4, o5, o6, o7, o8, o9, o10, o11, o12, o13, o14, o15, of⟩ := hX
    obtain ⟨p0, p1, pf⟩ := blk2 hP2
    rw [hoc] at o2
    go_wp2_with fail
    refine (D.headFar hD2 hL (by omega) (by omega) (by have := hfar q (by rw [← HI.out]; exact hqi); simpa [chainOf] using this)).mono ?_
    rintro e w3 ⟨rfl, g3⟩
    have hX3 := (g3.block _ (by omega) (by simp)).trans hX2
    have hP3 := (g3.block _ hz2 (by simp)).trans hP2
    have hM3 : RefMod (relab own w) q.o w3 q.bm b0 b1 q.m a0 a1 := hM2.keepS (grown_stepS (T := fun _ => False) g3) (by simp) (by simp) (by simp) (by simp)
    clear o0 o1 o2 o3 o4 o5 o6 o7 o8 o9 o10 o11 o12 o13 o14 o15 of p0 p1 pf
    obtain ⟨o0, o1, o2, o3, o4, o5, o6, o7, o8, o9, o10, o11, o12, o13, o14, o15, of⟩ := blkOp hX3
    obtain ⟨p0, p1, pf⟩ := blk2 hP3
    have z1 := blk_lt hX3
    have z2 := blk_lt hP3
    have z3 := blk_lt hM3.blk
    have z4 := blk_lt hM3.c0.blk
    have z5 := blk_lt hM3.c1.blk
    rw [hoc] at o2
    obtain ⟨m0, m1, m2, mf⟩ := blk3 hM3.blk
    obtain ⟨d0, d1, d2, d3, d4, d5, d6, d7, d8, d9, d10, d11, d12, d13, d14, d15, d16, d17, df⟩ := ch_cells hM3.c0.blk
    rw [heads_len hM3.c0] at d16
    have wl : IntKind.u64.wrap (q.m.c0.heads.length : Int) = q.m.c0.heads.length := wrapU_small (by omega) (by have := hL.l0.h; omega)
    have hf' := hfar q (by rw [← HI.out]; exact hqi)
    clear d0 d1 d2 d3 d4 d5 d6 d7 d8 d9 d10 d11 d12 d13 d14 d15 d17 df
    go_wp2_with fail
    go_quiet (fail)
    go_wp2_with fail
    go_ret
    exact ⟨rfl, relab own w, qs, h.same D ((st2 (fun _ => False)).trans (grown_stepS (grown_drewN (grown_alloc g3 _) _))) (fun l hl => hl.elim) (by omega), (st2 _).trans (grown_stepS (grown_drewN (grown_alloc g3 _) _))⟩

end Go.Proofs.YtmfdhcnnhlchbaaGreat

namespace Go.Proofs.YtmfdhcnnhlchbaaGreat
open Go.RowKit

set_option maxRecDepth 100000 in
set_option maxHeartbeats 1600000 in
theorem step_headFar1 {Dev : Nat → (Nat → Nat) → Nat → World → Nat → Mod → Prop} {kd : Int → Prop} (D : DevSide Dev kd) {own : Nat → Nat} {w : World} {W N : Nat} {qs : List PairS} {o : OpV} (h : Inv Dev own w W qs N) (hN : N ≤ 900000)
    (hk : o.kind = 5) (hoc : o.c = 1) (hfar : ∀ q, qs[pickV o.a qs.length]? = some q → (q.m.c1.heads.length : Int) ≤ o.num) (ha : -9223372036854775808 ≤ o.a ∧ o.a ≤ 9223372036854775807) (hq : 0 < qs.length) :
    Calls Tryz.prog 15 #[.pointer (some ⟨W, 0, none⟩), o.agg] w fun e w' => e = .returned (.bool true) ∧ StepTo Dev own w W N w' := by
  obtain ⟨ls, a, hW, hnl⟩ := h.wr
  have hil : pickV o.a qs.length < qs.length := pickV_lt o.a hq
  obtain ⟨i, hi⟩ : ∃ i, i = pickV o.a qs.length := ⟨_, rfl⟩
  have hpick := fun w => pick_is o.a qs.length w hq (by have := h.len; omega) ha
  rw [← hi] at hil hpick
  obtain ⟨q, hqi⟩ : ∃ q, qs[i]? = some q := ⟨_, List.getElem?_eq_getElem hil⟩
  obtain ⟨hD, ⟨b0, b1, a0, a1, hM⟩, hL, ho3⟩ := h.ok q (List.mem_of_getElem? hqi)
  have hps : (qs.map fun q => (q.x, q.bm))[i]? = some (q.x, q.bm) := by simp [hqi]
  have hrow := hW.bs
  obtain ⟨gb, hgb, _⟩ := owns_some' hrow (by simpa using hq)
  rw [hgb] at hrow
  obtain ⟨r0, r1⟩ := pair_cells hrow hps
  obtain ⟨y0, y1, y2, y3, yf⟩ := blk4 hW.blk
  rw [hgb] at y0
  simp only [List.length_map] at y0
  have hWl := blk_lt hW.blk
  have hgl : gb < w.heap.size := owns_lt hrow rfl
  have hq0 : ((qs.length : Int) == 0) = false := by rw [beq_eq_false_iff_ne]; omega
  have hil' : (i : Int) < (qs.length : Int) := by omega
  have HI : Hid (i = pickV o.a qs.length) := hi
  clear hi
  go_enter Tryz.func15, Tryz.ntmps15
  go_wp2_with fail
  obtain ⟨w1, hw1⟩ : ∃ w1 : World, w1 = w.alloc (.cells o.arr 33) := ⟨_, rfl⟩
  have g1 : w.grownBy w1 none := by rw [hw1]; exact World.grownBy_alloc _ _ _
  have hX1 : w1.heap[w.heap.size]? = some (.cells o.arr 33 (0, 0)) := by rw [hw1]; exact heap_alloc_new w _
  simp only [OpV.arr, hk, hoc] at hw1
  rw [← hw1]
  have hcell : ∀ b j v, b < w.heap.size → w.cell? ⟨b, j, none⟩ = some v → w1.cell? ⟨b, j, none⟩ = some v := fun b j v hb hv => (World.cell?_of_block (g1.block b hb (by simp))).trans hv
  replace r0 := hcell _ _ _ hgl r0
  replace r1 := hcell _ _ _ hgl r1
  replace y0 := hcell _ _ _ hWl y0
  obtain ⟨o0, o1, o2, o3, o4, o5, o6, o7, o8, o9, o10, o11, o12, o13, o14, o15, of⟩ := blkOp hX1
  have hz1 : w.heap.size < w1.heap.size := blk_lt hX1
  clear y1 y2 y3 yf hcell hw1
  go_region_held3 (fun w' => w'.cell? ⟨W, 0, none⟩ = some (.slice (some ⟨gb, 0, none⟩) qs.length a.cb) ∧ w'.cell? ⟨w.heap.size, 1, none⟩ = some (.int .i64 o.a) ∧ w'.cell? ⟨gb, i * 2, none⟩ = some (.pointer (some ⟨q.x, 0, none⟩)) ∧ w'.cell? ⟨gb, i * 2 + 1, none⟩ = some (.pointer (some ⟨q.bm, 0, none⟩))) (go_keep)
    (first | (go_at_call 20; refine (hpick _).mono ?_; rintro e w' ⟨rfl, rfl⟩))
  all_goals
    go_wp2_with fail
    obtain ⟨w2, hw2⟩ : ∃ w2 : World, w2 = (w1.alloc (.cells #[.pointer (some ⟨q.x, 0, none⟩), .pointer (some ⟨q.bm, 0, none⟩)] 52)).drew := ⟨_, rfl⟩
    rw [← hw2]
    have g2 : w.grownBy w2 none := by rw [hw2]; exact grown_drew (grown_alloc g1 _)
    have hX2 : w2.heap[w.heap.size]? = some (.cells o.arr 33 (0, 0)) := by rw [hw2]; exact (heap_alloc_old w1 _ hz1).trans hX1
    have hP2 : w2.heap[w1.heap.size]? = some (.cells #[.pointer (some ⟨q.x, 0, none⟩), .pointer (some ⟨q.bm, 0, none⟩)] 52 (0, 0)) := by rw [hw2]; exact heap_alloc_new w1 _
    clear hw2 o0 o1 o2 o3 o4 o5 o6 o7 o8 o9 o10 o11 o12 o13 o14 o15 of r0 r1 y0 hpick
    have st2 : ∀ T, StepS T own (relab own w) w w2 := fun T => (relab_step T own w).trans (grown_stepS g2)
    have hD2 : Dev N (relab own w) q.o w2 q.x q.m := D.keep hD (st2 (fun _ => False)) (by simp) (by simp)
    have hM2 : RefMod (relab own w) q.o w2 q.bm b0 b1 q.m a0 a1 := hM.keepS (st2 (fun _ => False)) (by simp) (by simp) (by simp) (by simp)
    have hz2 : w1.heap.size < w2.heap.size := blk_lt hP2
    have hX := blkOp hX2
    obtain ⟨o0, o1, o2, o3, o4, o5, o6, o7, o8, o9, o10, o11, o12, o13, o14, o15, of⟩ := hX
    obtain ⟨p0, p1, pf⟩ := blk2 hP2
    rw [hoc] at o2
    go_wp2_with fail
    refine (D.headFar hD2 hL (by omega) (by omega) (by have := hfar q (by rw [← HI.out]; exact hqi); simpa [chainOf] using this)).mono ?_
    rintro e w3 ⟨rfl, g3⟩
    have hX3 := (g3.block _ (by omega) (by simp)).trans hX2
    have hP3 := (g3.block _ hz2 (by simp)).trans hP2
    have hM3 : RefMod (relab own w) q.o w3 q.bm b0 b1 q.m a0 a1 := hM2.keepS (grown_stepS (T := fun _ => False) g3) (by simp) (by simp) (by simp) (by simp)
    clear o0 o1 o2 o3 o4 o5 o6 o7 o8 o9 o10 o11 o12 o13 o14 o15 of p0 p1 pf
    obtain ⟨o0, o1, o2, o3, o4, o5, o6, o7, o8, o9, o10, o11, o12, o13, o14, o15, of⟩ := blkOp hX3
    obtain ⟨p0, p1, pf⟩ := blk2 hP3
    have z1 := blk_lt hX3
    have z2 := blk_lt hP3
    have z3 := blk_lt hM3.blk
    have z4 := blk_lt hM3.c0.blk
    have z5 := blk_lt hM3.c1.blk
    rw [hoc] at o2
    obtain ⟨m0, m1, m2, mf⟩ := blk3 hM3.blk
    obtain ⟨d0, d1, d2, d3, d4, d5, d6, d7, d8, d9, d10, d11, d12, d13, d14, d15, d16, d17, df⟩ := ch_cells hM3.c1.blk
    rw [heads_len hM3.c1] at d16
    have wl : IntKind.u64.wrap (q.m.c1.heads.length : Int) = q.m.c1.heads.length := wrapU_small (by omega) (by have := hL.l1.h; omega)
    have hf' := hfar q (by rw [← HI.out]; exact hqi)
    clear d0 d1 d2 d3 d4 d5 d6 d7 d8 d9 d10 d11 d12 d13 d14 d15 d17 df
    go_wp2_with fail
    go_quiet (fail)
    go_wp2_with fail
    go_ret
    exact ⟨rfl, relab own w, qs, h.same D ((st2 (fun _ => False)).trans (grown_stepS (grown_drewN (grown_alloc g3 _) _))) (fun l hl => hl.elim) (by omega), (st2 _).trans (grown_stepS (grown_drewN (grown_alloc g3 _) _))⟩

end Go.Proofs.YtmfdhcnnhlchbaaGreat

namespace Go.Proofs.YtmfdhcnnhlchbaaGreat
open Go.RowKit

set_option maxRecDepth 100000 in
set_option maxHeartbeats 1600000 in
theorem step_head0 {Dev : Nat → (Nat → Nat) → Nat → World → Nat → Mod → Prop} {kd : Int → Prop} (D : DevSide Dev kd) {own : Nat → Nat} {w : World} {W N : Nat} {qs : List PairS} {o : OpV} (h : Inv Dev own w W qs N) (hN : N ≤ 900000)
    (hk : o.kind = 5) (hoc : o.c = 0) {n : Nat} (hnum : Hid (o.num = (n : Int))) (hnear : ∀ q, qs[pickV o.a qs.length]? = some q → n < q.m.c0.heads.length) (ha : -9223372036854775808 ≤ o.a ∧ o.a ≤ 9223372036854775807) (hq : 0 < qs.length) :
    Calls Tryz.prog 15 #[.pointer (some ⟨W, 0, none⟩), o.agg] w fun e w' => e = .returned (.bool true) ∧ StepTo Dev own w W N w' := by
  obtain ⟨ls, a, hW, hnl⟩ := h.wr
  have hil : pickV o.a qs.length < qs.length := pickV_lt o.a hq
  obtain ⟨i, hi⟩ : ∃ i, i = pickV o.a qs.length := ⟨_, rfl⟩
  have hpick := fun w => pick_is o.a qs.length w hq (by have := h.len; omega) ha
  rw [← hi] at hil hpick
  obtain ⟨q, hqi⟩ : ∃ q, qs[i]? = some q := ⟨_, List.getElem?_eq_getElem hil⟩
  obtain ⟨hD, ⟨b0, b1, a0, a1, hM⟩, hL, ho3⟩ := h.ok q (List.mem_of_getElem? hqi)
  have hps : (qs.map fun q => (q.x, q.bm))[i]? = some (q.x, q.bm) := by simp [hqi]
  have hrow := hW.bs
  obtain ⟨gb, hgb, _⟩ := owns_some' hrow (by simpa using hq)
  rw [hgb] at hrow
  obtain ⟨r0, r1⟩ := pair_cells hrow hps
  obtain ⟨y0, y1, y2, y3, yf⟩ := blk4 hW.blk
  rw [hgb] at y0
  simp only [List.length_map] at y0
  have hWl := blk_lt hW.blk
  have hgl : gb < w.heap.size := owns_lt hrow rfl
  have hq0 : ((qs.length : Int) == 0) = false := by rw [beq_eq_false_iff_ne]; omega
  have hil' : (i : Int) < (qs.length : Int) := by omega
  have HI : Hid (i = pickV o.a qs.length) := hi
  clear hi
  go_enter Tryz.func15, Tryz.ntmps15
  go_wp2_with fail
  obtain ⟨w1, hw1⟩ : ∃ w1 : World, w1 = w.alloc (.cells o.arr 33) := ⟨_, rfl⟩
  have g1 : w.grownBy w1 none := by rw [hw1]; exact World.grownBy_alloc _ _ _
  have hX1 : w1.heap[w.heap.size]? = some (.cells o.arr 33 (0, 0)) := by rw [hw1]; exact heap_alloc_new w _
  simp only [OpV.arr, hk, hoc] at hw1
  rw [← hw1]
  have hcell : ∀ b j v, b < w.heap.size → w.cell? ⟨b, j, none⟩ = some v → w1.cell? ⟨b, j, none⟩ = some v := fun b j v hb hv => (World.cell?_of_block (g1.block b hb (by simp))).trans hv
  replace r0 := hcell _ _ _ hgl r0
  replace r1 := hcell _ _ _ hgl r1
  replace y0 := hcell _ _ _ hWl y0
  obtain ⟨o0, o1, o2, o3, o4, o5, o6, o7, o8, o9, o10, o11, o12, o13, o14, o15, of⟩ := blkOp hX1
  have hz1 : w.heap.size < w1.heap.size := blk_lt hX1
  clear y1 y2 y3 yf hcell hw1
  go_region_held3 (fun w' => w'.cell? ⟨W, 0, none⟩ = some (.slice (some ⟨gb, 0, none⟩) qs.length a.cb) ∧ w'.cell? ⟨w.heap.size, 1, none⟩ = some (.int .i64 o.a) ∧ w'.cell? ⟨gb, i * 2, none⟩ = some (.pointer (some ⟨q.x, 0, none⟩)) ∧ w'.cell? ⟨gb, i * 2 + 1, none⟩ = some (.pointer (some ⟨q.bm, 0, none⟩))) (go_keep)
    (first | (go_at_call 20; refine (hpick _).mono ?_; rintro e w' ⟨rfl, rfl⟩))
  all_goals
    go_wp2_with fail
    obtain ⟨w2, hw2⟩ : ∃ w2 : World, w2 = (w1.alloc (.cells #[.pointer (some ⟨q.x, 0, none⟩), .pointer (some ⟨q.bm, 0, none⟩)] 52)).drew := ⟨_, rfl⟩
    rw [← hw2]
    have g2 : w.grownBy w2 none := by rw [hw2]; exact grown_drew (grown_alloc g1 _)
    have hX2 : w2.heap[w.heap.size]? = some (.cells o.arr 33 (0, 0)) := by rw [hw2]; exact (heap_alloc_old w1 _ hz1).trans hX1
    have hP2 : w2.heap[w1.heap.size]? = some (.cells #[.pointer (some ⟨q.x, 0, none⟩), .pointer (some ⟨q.bm, 0, none⟩)] 52 (0, 0)) := by rw [hw2]; exact heap_alloc_new w1 _
    clear hw2 o0 o1 o2 o3 o4 o5 o6 o7 o8 o9 o10 o11 o12 o13 o14 o15 of r0 r1 y0 hpick
    have st2 : ∀ T, StepS T own (relab own w) w w2 := fun T => (relab_step T own w).trans (grown_stepS g2)
    have hD2 : Dev N (relab own w) q.o w2 q.x q.m := D.keep hD (st2 (fun _ => False)) (by simp) (by simp)
    have hM2 : RefMod (relab own w) q.o w2 q.bm b0 b1 q.m a0 a1 := hM.keepS (st2 (fun _ => False)) (by simp) (by simp) (by simp) (by simp)
    have hz2 : w1.heap.size < w2.heap.size := blk_lt hP2
    have hn' := hnear q (by rw [← HI.out]; exact hqi)
    obtain ⟨K, hK, hKd⟩ : ∃ K, a0.hs[n]? = some K ∧ q.m.c0.heads[n]? = some K.hd := by
      have hl := heads_len hM2.c0
      refine ⟨a0.hs[n]'(by omega), List.getElem?_eq_getElem _, ?_⟩
      rw [← hM2.c0.heads]
      simp [show n < a0.hs.length by omega]
    obtain ⟨gh, hgh, _⟩ := owns_some' hM2.c0.hd (by have := heads_len hM2.c0; omega)
    have hX := blkOp hX2
    obtain ⟨o0, o1, o2, o3, o4, o5, o6, o7, o8, o9, o10, o11, o12, o13, o14, o15, of⟩ := hX
    obtain ⟨p0, p1, pf⟩ := blk2 hP2
    rw [hnum.out]
    go_wp2_with fail
    refine (D.head (n := n) hD2 hL (by omega) (by omega) (by simpa [chainOf] using hKd)).mono ?_
    rintro e w3 ⟨rfl, g3⟩
    have hX3 := (g3.block _ (by omega) (by simp)).trans hX2
    have hP3 := (g3.block _ hz2 (by simp)).trans hP2
    have hM3 : RefMod (relab own w) q.o w3 q.bm b0 b1 q.m a0 a1 := hM2.keepS (grown_stepS (T := fun _ => False) g3) (by simp) (by simp) (by simp) (by simp)
    clear o0 o1 o2 o3 o4 o5 o6 o7 o8 o9 o10 o11 o12 o13 o14 o15 of p0 p1 pf
    obtain ⟨o0, o1, o2, o3, o4, o5, o6, o7, o8, o9, o10, o11, o12, o13, o14, o15, of⟩ := blkOp hX3
    obtain ⟨p0, p1, pf⟩ := blk2 hP3
    have z1 := blk_lt hX3
    have z2 := blk_lt hP3
    have z3 := blk_lt hM3.blk
    have z4 := blk_lt hM3.c0.blk
    have z5 := blk_lt hM3.c1.blk
    rw [hoc] at o2
    rw [hnum.out] at o14
    obtain ⟨m0, m1, m2, mf⟩ := blk3 hM3.blk
    obtain ⟨d0, d1, d2, d3, d4, d5, d6, d7, d8, d9, d10, d11, d12, d13, d14, d15, d16, d17, df⟩ := ch_cells hM3.c0.blk
    rw [heads_len hM3.c0, hgh] at d16
    have hrowh := hM3.c0.hd
    simp only [At.vh, hgh] at hrowh
    obtain ⟨k0, k1, k2, k3, k4, k5⟩ := hdr_cells hrowh hK
    have z6 : gh < w3.heap.size := owns_lt hrowh rfl
    have wl : IntKind.u64.wrap (q.m.c0.heads.length : Int) = q.m.c0.heads.length := wrapU_small (by omega) (by have := hL.l0.h; omega)
    have hf' : (n : Int) < (q.m.c0.heads.length : Int) := by omega
    clear d0 d1 d2 d3 d4 d5 d6 d7 d8 d9 d10 d11 d12 d13 d14 d15 d17 df
    go_wp2_with fail
    go_quiet (fail)
    go_wp2_with fail
    obtain ⟨w4, hw4⟩ : ∃ w4 : World, w4 = (w3.alloc (.cells #[.int .u64 K.hd.height, .int .u64 K.hd.time, .bool K.hd.isOpen, .int .u64 K.hd.nextRecv, .int .i64 K.hd.packets.length, .int .i64 K.hd.answers.length] 73)).drewN nq := ⟨_, rfl⟩
    rw [← hw4]
    have g4 : w3.grownBy w4 none := by rw [hw4]; exact grown_drewN (World.grownBy_alloc w3 _ none) _
    have hH4 : w4.heap[w3.heap.size]? = some (.cells #[.int .u64 K.hd.height, .int .u64 K.hd.time, .bool K.hd.isOpen, .int .u64 K.hd.nextRecv, .int .i64 K.hd.packets.length, .int .i64 K.hd.answers.length] 73 (0, 0)) := by rw [hw4, drewN_heap]; exact heap_alloc_new w3 _
    clear hw4
    have c4 := fun b hb j => cell_grown g4 (b := b) hb j
    obtain ⟨h0', h1', h2', h3', h4', h5', hf6⟩ := blk6 hH4
    replace p1 := (c4 _ z2 _).trans p1
    replace o2 := (c4 _ z1 _).trans o2
    replace o14 := (c4 _ z1 _).trans o14
    replace m0 := (c4 _ z3 _).trans m0
    replace m1 := (c4 _ z3 _).trans m1
    replace d16 := (c4 _ z4 _).trans d16
    replace k0 := (c4 _ z6 _).trans k0
    replace k1 := (c4 _ z6 _).trans k1
    replace k2 := (c4 _ z6 _).trans k2
    replace k3 := (c4 _ z6 _).trans k3
    replace k4 := (c4 _ z6 _).trans k4
    replace k5 := (c4 _ z6 _).trans k5
    have s4 := g4.size
    have z7 : w3.heap.size < w4.heap.size := blk_lt hH4
    clear c4
    go_region_held3 (fun w' => w'.cell? ⟨w3.heap.size, 0, none⟩ = some (.int .u64 K.hd.height) ∧ w'.cell? ⟨w3.heap.size, 1, none⟩ = some (.int .u64 K.hd.time) ∧ w'.cell? ⟨w3.heap.size, 2, none⟩ = some (.bool K.hd.isOpen) ∧ w'.cell? ⟨w3.heap.size, 3, none⟩ = some (.int .u64 K.hd.nextRecv) ∧ w'.cell? ⟨w3.heap.size, 4, none⟩ = some (.int .i64 K.hd.packets.length) ∧ w'.cell? ⟨w3.heap.size, 5, none⟩ = some (.int .i64 K.hd.answers.length) ∧
        w'.cell? ⟨w1.heap.size, 1, none⟩ = some (.pointer (some ⟨q.bm, 0, none⟩)) ∧ w'.cell? ⟨w.heap.size, 2, none⟩ = some (.int .i64 0) ∧ w'.cell? ⟨w.heap.size, 14, none⟩ = some (.int .u64 n) ∧ w'.cell? ⟨q.bm, 0, none⟩ = some (.pointer (some ⟨b0, 0, none⟩)) ∧ w'.cell? ⟨b0, 16, none⟩ = some (.slice (some ⟨gh, 0, none⟩) q.m.c0.heads.length a0.ch) ∧
        w'.cell? ⟨gh, n * 6, none⟩ = some (.int .u64 K.hd.height) ∧ w'.cell? ⟨gh, n * 6 + 1, none⟩ = some (.int .u64 K.hd.time) ∧ w'.cell? ⟨gh, n * 6 + 2, none⟩ = some (.bool K.hd.isOpen) ∧ w'.cell? ⟨gh, n * 6 + 3, none⟩ = some (.int .u64 K.hd.nextRecv) ∧ w'.cell? ⟨gh, n * 6 + 4, none⟩ = some K.vp ∧ w'.cell? ⟨gh, n * 6 + 5, none⟩ = some K.va) (go_keep)
      (first | (go_at_call 26; refine (rhead K _).mono ?_; rintro e w5 ⟨rfl, g5⟩; have e1 := cell_grown g5 (b := w3.heap.size) z7; have e2 := cell_grown g5 (b := w1.heap.size) (by show _ < w4.heap.size; omega); have e3 := cell_grown g5 (b := w.heap.size) (by show _ < w4.heap.size; omega); have e4 := cell_grown g5 (b := q.bm) (by show _ < w4.heap.size; omega); have e5 := cell_grown g5 (b := b0) (by show _ < w4.heap.size; omega); have e6 := cell_grown g5 (b := gh) (by show _ < w4.heap.size; omega)))
  all_goals
    go_wp2_with fail
    go_ret
    have g35 : w2.grownBy w5 none := grown_trans g3 (grown_trans g4 (grown_trans (grown_drew (grown_refl w4 none)) g5 (fun k e => by cases e)) (fun k e => by cases e)) (fun k e => by cases e)
    exact ⟨rfl, relab own w, qs, h.same D ((st2 (fun _ => False)).trans (grown_stepS g35)) (fun l hl => hl.elim) (by omega), (st2 _).trans (grown_stepS g35)⟩

end Go.Proofs.YtmfdhcnnhlchbaaGreat
