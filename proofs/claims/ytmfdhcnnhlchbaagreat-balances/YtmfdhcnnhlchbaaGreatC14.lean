import Derived.Test.YtmfdhcnnhlchbaaGreatC07
namespace Go.Proofs.YtmfdhcnnhlchbaaGreat
open Go.RowKit

set_option maxRecDepth 100000 in
set_option maxHeartbeats 1600000 in
theorem step_takenN {Dev : Nat → (Nat → Nat) → Nat → World → Nat → Mod → Prop} {kd : Int → Prop} (D : DevSide Dev kd) {own : Nat → Nat} {w : World} {W N : Nat} {qs : List PairS} {o : OpV} (h : Inv Dev own w W qs N) (hN : N ≤ 900000)
    (hk : o.kind = 7) (hc0 : (o.c == 0) = false) (hc1 : (o.c == 1) = false) (ha : -9223372036854775808 ≤ o.a ∧ o.a ≤ 9223372036854775807) (hq : 0 < qs.length) :
    Calls Tryz.prog 15 #[.pointer (some ⟨W, 0, none⟩), o.agg] w fun e w' => e = .returned (.bool true) ∧ StepTo Dev own w W N w' := by
  obtain ⟨ls, a, hW, hnl⟩ := h.wr
  have hil : pickV o.a qs.length < qs.length := pickV_lt o.a hq
  obtain ⟨i, hi⟩ : ∃ i, i = pickV o.a qs.length := ⟨_, rfl⟩
  have hpick := fun w => pick_is o.a qs.length w hq (by have := h.len; omega) ha
  rw [← hi] at hil hpick
  obtain ⟨q, hqi⟩ : ∃ q, qs[i]? = some q := ⟨_, List.getElem?_eq_getElem hil⟩
  obtain ⟨hD, ⟨b0, b1, a0, a1, hM⟩, hL, ho3⟩ := h.ok q (List.mem_of_getElem? hqi)
  have hps : (qs.map fun q => (q.x, q.bm))[i]? = some (q.x, q.bm) := by simp [hqi]
  have hrow := hW.bs
  obtain ⟨gb, hgb, _⟩ := owns_some' hrow (by simpa using hq)
  rw [hgb] at hrow
  obtain ⟨r0, r1⟩ := pair_cells hrow hps
  obtain ⟨y0, y1, y2, y3, yf⟩ := blk4 hW.blk
  rw [hgb] at y0
  simp only [List.length_map] at y0
  have hWl := blk_lt hW.blk
  have hgl : gb < w.heap.size := owns_lt hrow rfl
  have hq0 : ((qs.length : Int) == 0) = false := by rw [beq_eq_false_iff_ne]; omega
  have hil' : (i : Int) < (qs.length : Int) := by omega
  have HI : Hid (i = pickV o.a qs.length) := hi
  clear hi
  go_enter Tryz.func15, Tryz.ntmps15
  go_wp2_with fail
  obtain ⟨w1, hw1⟩ : ∃ w1 : World, w1 = w.alloc (.cells o.arr 33) := ⟨_, rfl⟩
  have g1 : w.grownBy w1 none := by rw [hw1]; exact World.grownBy_alloc _ _ _
  have hX1 : w1.heap[w.heap.size]? = some (.cells o.arr 33 (0, 0)) := by rw [hw1]; exact heap_alloc_new w _
  simp only [OpV.arr, hk] at hw1
  rw [← hw1]
  have hcell : ∀ b j v, b < w.heap.size → w.cell? ⟨b, j, none⟩ = some v → w1.cell? ⟨b, j, none⟩ = some v := fun b j v hb hv => (World.cell?_of_block (g1.block b hb (by simp))).trans hv
  replace r0 := hcell _ _ _ hgl r0
  replace r1 := hcell _ _ _ hgl r1
  replace y0 := hcell _ _ _ hWl y0
  obtain ⟨o0, o1, o2, o3, o4, o5, o6, o7, o8, o9, o10, o11, o12, o13, o14, o15, of⟩ := blkOp hX1
  have hz1 : w.heap.size < w1.heap.size := blk_lt hX1
  clear y1 y2 y3 yf hcell hw1
  go_region_held3 (fun w' => w'.cell? ⟨W, 0, none⟩ = some (.slice (some ⟨gb, 0, none⟩) qs.length a.cb) ∧ w'.cell? ⟨w.heap.size, 1, none⟩ = some (.int .i64 o.a) ∧ w'.cell? ⟨gb, i * 2, none⟩ = some (.pointer (some ⟨q.x, 0, none⟩)) ∧ w'.cell? ⟨gb, i * 2 + 1, none⟩ = some (.pointer (some ⟨q.bm, 0, none⟩))) (go_keep)
    (first | (go_at_call 20; refine (hpick _).mono ?_; rintro e w' ⟨rfl, rfl⟩))
  all_goals
    go_wp2_with fail
    obtain ⟨w2, hw2⟩ : ∃ w2 : World, w2 = (w1.alloc (.cells #[.pointer (some ⟨q.x, 0, none⟩), .pointer (some ⟨q.bm, 0, none⟩)] 52)).drew := ⟨_, rfl⟩
    rw [← hw2]
    have g2 : w.grownBy w2 none := by rw [hw2]; exact grown_drew (grown_alloc g1 _)
    have hX2 : w2.heap[w.heap.size]? = some (.cells o.arr 33 (0, 0)) := by rw [hw2]; exact (heap_alloc_old w1 _ hz1).trans hX1
    have hP2 : w2.heap[w1.heap.size]? = some (.cells #[.pointer (some ⟨q.x, 0, none⟩), .pointer (some ⟨q.bm, 0, none⟩)] 52 (0, 0)) := by rw [hw2]; exact heap_alloc_new w1 _
    clear hw2 o0 o1 o2 o3 o4 o5 o6 o7 o8 o9 o10 o11 o12 o13 o14 o15 of r0 r1 y0 hpick
    have st2 : ∀ T, StepS T own (relab own w) w w2 := fun T => (relab_step T own w).trans (grown_stepS g2)
    have hD2 : Dev N (relab own w) q.o w2 q.x q.m := D.keep hD (st2 (fun _ => False)) (by simp) (by simp)
    have hM2 : RefMod (relab own w) q.o w2 q.bm b0 b1 q.m a0 a1 := hM.keepS (st2 (fun _ => False)) (by simp) (by simp) (by simp) (by simp)
    have hz2 : w1.heap.size < w2.heap.size := blk_lt hP2
    obtain ⟨p0, p1, pf⟩ := blk2 hP2
    obtain ⟨m0, m1, m2, mf⟩ := blk3 hM2.blk
    have hDd : Dev N (relab own w) q.o w2.drew q.x q.m := D.keep hD2 (grown_stepS (T := fun _ => False) (grown_drew (grown_refl w2 none))) (by simp) (by simp)
    have hbm := blk_lt hM2.blk
    clear pf mf m0 m1
    go_region_held3 (fun w' => w'.cell? ⟨w1.heap.size, 0, none⟩ = some (.pointer (some ⟨q.x, 0, none⟩)) ∧ w'.cell? ⟨w1.heap.size, 1, none⟩ = some (.pointer (some ⟨q.bm, 0, none⟩)) ∧ w'.cell? ⟨q.bm, 2, none⟩ = some (.int .i64 q.m.taken)) (go_keep)
      (first | (go_at_call 29; refine (D.taken hDd).mono ?_; rintro e w3 ⟨rfl, g3⟩; have e1 := cell_grown g3 (b := w1.heap.size) hz2; have e2 := cell_grown g3 (b := q.bm) hbm; have g23 : w2.grownBy w3 none := grown_trans (grown_drew (grown_refl w2 none)) g3 (fun k e => by cases e)))
  all_goals
    go_wp2_with fail
    go_ret
    exact ⟨rfl, relab own w, qs, h.same D ((st2 (fun _ => False)).trans (grown_stepS g23)) (fun l hl => hl.elim) (by omega), (st2 _).trans (grown_stepS g23)⟩

end Go.Proofs.YtmfdhcnnhlchbaaGreat

namespace Go.Proofs.YtmfdhcnnhlchbaaGreat
open Go.RowKit

set_option maxRecDepth 100000 in
set_option maxHeartbeats 1600000 in
theorem step_balN {Dev : Nat → (Nat → Nat) → Nat → World → Nat → Mod → Prop} {kd : Int → Prop} (D : DevSide Dev kd) {own : Nat → Nat} {w : World} {W N : Nat} {qs : List PairS} {o : OpV} (h : Inv Dev own w W qs N) (hN : N ≤ 900000)
    (hk : o.kind = 4) (hc0 : (o.c == 0) = false) (hc1 : (o.c == 1) = false) (hud : -9223372036854775808 ≤ o.d ∧ o.d ≤ 9223372036854775807) (huc : -9223372036854775808 ≤ o.p.coin ∧ o.p.coin ≤ 9223372036854775807) (ha : -9223372036854775808 ≤ o.a ∧ o.a ≤ 9223372036854775807) (hq : 0 < qs.length) :
    Calls Tryz.prog 15 #[.pointer (some ⟨W, 0, none⟩), o.agg] w fun e w' => e = .returned (.bool true) ∧ StepTo Dev own w W N w' := by
  obtain ⟨ls, a, hW, hnl⟩ := h.wr
  have hil : pickV o.a qs.length < qs.length := pickV_lt o.a hq
  obtain ⟨i, hi⟩ : ∃ i, i = pickV o.a qs.length := ⟨_, rfl⟩
  have hpick := fun w => pick_is o.a qs.length w hq (by have := h.len; omega) ha
  rw [← hi] at hil hpick
  obtain ⟨q, hqi⟩ : ∃ q, qs[i]? = some q := ⟨_, List.getElem?_eq_getElem hil⟩
  obtain ⟨hD, ⟨b0, b1, a0, a1, hM⟩, hL, ho3⟩ := h.ok q (List.mem_of_getElem? hqi)
  have hps : (qs.map fun q => (q.x, q.bm))[i]? = some (q.x, q.bm) := by simp [hqi]
  have hrow := hW.bs
  obtain ⟨gb, hgb, _⟩ := owns_some' hrow (by simpa using hq)
  rw [hgb] at hrow
  obtain ⟨r0, r1⟩ := pair_cells hrow hps
  obtain ⟨y0, y1, y2, y3, yf⟩ := blk4 hW.blk
  rw [hgb] at y0
  simp only [List.length_map] at y0
  have hWl := blk_lt hW.blk
  have hgl : gb < w.heap.size := owns_lt hrow rfl
  have hq0 : ((qs.length : Int) == 0) = false := by rw [beq_eq_false_iff_ne]; omega
  have hil' : (i : Int) < (qs.length : Int) := by omega
  have HI : Hid (i = pickV o.a qs.length) := hi
  clear hi
  go_enter Tryz.func15, Tryz.ntmps15
  go_wp2_with fail
  obtain ⟨w1, hw1⟩ : ∃ w1 : World, w1 = w.alloc (.cells o.arr 33) := ⟨_, rfl⟩
  have g1 : w.grownBy w1 none := by rw [hw1]; exact World.grownBy_alloc _ _ _
  have hX1 : w1.heap[w.heap.size]? = some (.cells o.arr 33 (0, 0)) := by rw [hw1]; exact heap_alloc_new w _
  simp only [OpV.arr, hk] at hw1
  rw [← hw1]
  have hcell : ∀ b j v, b < w.heap.size → w.cell? ⟨b, j, none⟩ = some v → w1.cell? ⟨b, j, none⟩ = some v := fun b j v hb hv => (World.cell?_of_block (g1.block b hb (by simp))).trans hv
  replace r0 := hcell _ _ _ hgl r0
  replace r1 := hcell _ _ _ hgl r1
  replace y0 := hcell _ _ _ hWl y0
  obtain ⟨o0, o1, o2, o3, o4, o5, o6, o7, o8, o9, o10, o11, o12, o13, o14, o15, of⟩ := blkOp hX1
  have hz1 : w.heap.size < w1.heap.size := blk_lt hX1
  clear y1 y2 y3 yf hcell hw1
  go_region_held3 (fun w' => w'.cell? ⟨W, 0, none⟩ = some (.slice (some ⟨gb, 0, none⟩) qs.length a.cb) ∧ w'.cell? ⟨w.heap.size, 1, none⟩ = some (.int .i64 o.a) ∧ w'.cell? ⟨gb, i * 2, none⟩ = some (.pointer (some ⟨q.x, 0, none⟩)) ∧ w'.cell? ⟨gb, i * 2 + 1, none⟩ = some (.pointer (some ⟨q.bm, 0, none⟩))) (go_keep)
    (first | (go_at_call 20; refine (hpick _).mono ?_; rintro e w' ⟨rfl, rfl⟩))
  all_goals
    go_wp2_with fail
    obtain ⟨w2, hw2⟩ : ∃ w2 : World, w2 = (w1.alloc (.cells #[.pointer (some ⟨q.x, 0, none⟩), .pointer (some ⟨q.bm, 0, none⟩)] 52)).drew := ⟨_, rfl⟩
    rw [← hw2]
    have g2 : w.grownBy w2 none := by rw [hw2]; exact grown_drew (grown_alloc g1 _)
    have hX2 : w2.heap[w.heap.size]? = some (.cells o.arr 33 (0, 0)) := by rw [hw2]; exact (heap_alloc_old w1 _ hz1).trans hX1
    have hP2 : w2.heap[w1.heap.size]? = some (.cells #[.pointer (some ⟨q.x, 0, none⟩), .pointer (some ⟨q.bm, 0, none⟩)] 52 (0, 0)) := by rw [hw2]; exact heap_alloc_new w1 _
    clear hw2 o0 o1 o2 o3 o4 o5 o6 o7 o8 o9 o10 o11 o12 o13 o14 o15 of r0 r1 y0 hpick
    have st2 : ∀ T, StepS T own (relab own w) w w2 := fun T => (relab_step T own w).trans (grown_stepS g2)
    have hD2 : Dev N (relab own w) q.o w2 q.x q.m := D.keep hD (st2 (fun _ => False)) (by simp) (by simp)
    have hM2 : RefMod (relab own w) q.o w2 q.bm b0 b1 q.m a0 a1 := hM.keepS (st2 (fun _ => False)) (by simp) (by simp) (by simp) (by simp)
    have hz2 : w1.heap.size < w2.heap.size := blk_lt hP2
    refine (D.balance (c := o.c) (user := o.d) (coin := o.p.coin) hD2 hud huc).mono ?_
    rintro e w3 ⟨rfl, g3⟩
    have hX3 := (g3.block _ (by omega) (by simp)).trans hX2
    have hP3 := (g3.block _ hz2 (by simp)).trans hP2
    obtain ⟨o0, o1, o2, o3, o4, o5, o6, o7, o8, o9, o10, o11, o12, o13, o14, o15, of⟩ := blkOp hX3
    obtain ⟨p0, p1, pf⟩ := blk2 hP3
    have hz : balM q.m o.c o.d o.p.coin = 0 := by
      have e0 : ¬ o.c = 0 := by simpa using hc0
      have e1 : ¬ o.c = 1 := by simpa using hc1
      simp [balM, e0, e1]
    rw [hz]
    go_wp2_with fail
    go_ret
    exact ⟨rfl, relab own w, qs, h.same D ((st2 (fun _ => False)).trans (grown_stepS g3)) (fun l hl => hl.elim) (by omega), (st2 _).trans (grown_stepS g3)⟩

end Go.Proofs.YtmfdhcnnhlchbaaGreat

namespace Go.Proofs.YtmfdhcnnhlchbaaGreat
open Go.RowKit

set_option maxRecDepth 100000 in
set_option maxHeartbeats 1600000 in
theorem step_bal0 {Dev : Nat → (Nat → Nat) → Nat → World → Nat → Mod → Prop} {kd : Int → Prop} (D : DevSide Dev kd) {own : Nat → Nat} {w : World} {W N : Nat} {qs : List PairS} {o : OpV} (h : Inv Dev own w W qs N) (hN : N ≤ 900000)
    (hk : o.kind = 4) (hoc : o.c = 0) (hd : 0 ≤ o.d ∧ o.d ≤ 2) (hcn : 0 ≤ o.p.coin ∧ o.p.coin ≤ 1) (hud : -9223372036854775808 ≤ o.d ∧ o.d ≤ 9223372036854775807) (huc : -9223372036854775808 ≤ o.p.coin ∧ o.p.coin ≤ 9223372036854775807) (ha : -9223372036854775808 ≤ o.a ∧ o.a ≤ 9223372036854775807) (hq : 0 < qs.length) :
    Calls Tryz.prog 15 #[.pointer (some ⟨W, 0, none⟩), o.agg] w fun e w' => e = .returned (.bool true) ∧ StepTo Dev own w W N w' := by
  obtain ⟨ls, a, hW, hnl⟩ := h.wr
  have hil : pickV o.a qs.length < qs.length := pickV_lt o.a hq
  obtain ⟨i, hi⟩ : ∃ i, i = pickV o.a qs.length := ⟨_, rfl⟩
  have hpick := fun w => pick_is o.a qs.length w hq (by have := h.len; omega) ha
  rw [← hi] at hil hpick
  obtain ⟨q, hqi⟩ : ∃ q, qs[i]? = some q := ⟨_, List.getElem?_eq_getElem hil⟩
  obtain ⟨hD, ⟨b0, b1, a0, a1, hM⟩, hL, ho3⟩ := h.ok q (List.mem_of_getElem? hqi)
  have hps : (qs.map fun q => (q.x, q.bm))[i]? = some (q.x, q.bm) := by simp [hqi]
  have hrow := hW.bs
  obtain ⟨gb, hgb, _⟩ := owns_some' hrow (by simpa using hq)
  rw [hgb] at hrow
  obtain ⟨r0, r1⟩ := pair_cells hrow hps
  obtain ⟨y0, y1, y2, y3, yf⟩ := blk4 hW.blk
  rw [hgb] at y0
  simp only [List.length_map] at y0
  have hWl := blk_lt hW.blk
  have hgl : gb < w.heap.size := owns_lt hrow rfl
  have hq0 : ((qs.length : Int) == 0) = false := by rw [beq_eq_false_iff_ne]; omega
  have hil' : (i : Int) < (qs.length : Int) := by omega
  have HI : Hid (i = pickV o.a qs.length) := hi
  clear hi
  go_enter Tryz.func15, Tryz.ntmps15
  go_wp2_with fail
  obtain ⟨w1, hw1⟩ : ∃ w1 : World, w1 = w.alloc (.cells o.arr 33) := ⟨_, rfl⟩
  have g1 : w.grownBy w1 none := by rw [hw1]; exact World.grownBy_alloc _ _ _
  have hX1 : w1.heap[w.heap.size]? = some (.cells o.arr 33 (0, 0)) := by rw [hw1]; exact heap_alloc_new w _
  simp only [OpV.arr, hk, hoc] at hw1
  rw [← hw1]
  have hcell : ∀ b j v, b < w.heap.size → w.cell? ⟨b, j, none⟩ = some v → w1.cell? ⟨b, j, none⟩ = some v := fun b j v hb hv => (World.cell?_of_block (g1.block b hb (by simp))).trans hv
  replace r0 := hcell _ _ _ hgl r0
  replace r1 := hcell _ _ _ hgl r1
  replace y0 := hcell _ _ _ hWl y0
  obtain ⟨o0, o1, o2, o3, o4, o5, o6, o7, o8, o9, o10, o11, o12, o13, o14, o15, of⟩ := blkOp hX1
  have hz1 : w.heap.size < w1.heap.size := blk_lt hX1
  clear y1 y2 y3 yf hcell hw1
  go_region_held3 (fun w' => w'.cell? ⟨W, 0, none⟩ = some (.slice (some ⟨gb, 0, none⟩) qs.length a.cb) ∧ w'.cell? ⟨w.heap.size, 1, none⟩ = some (.int .i64 o.a) ∧ w'.cell? ⟨gb, i * 2, none⟩ = some (.pointer (some ⟨q.x, 0, none⟩)) ∧ w'.cell? ⟨gb, i * 2 + 1, none⟩ = some (.pointer (some ⟨q.bm, 0, none⟩))) (go_keep)
    (first | (go_at_call 20; refine (hpick _).mono ?_; rintro e w' ⟨rfl, rfl⟩))
  all_goals
    go_wp2_with fail
    obtain ⟨w2, hw2⟩ : ∃ w2 : World, w2 = (w1.alloc (.cells #[.pointer (some ⟨q.x, 0, none⟩), .pointer (some ⟨q.bm, 0, none⟩)] 52)).drew := ⟨_, rfl⟩
    rw [← hw2]
    have g2 : w.grownBy w2 none := by rw [hw2]; exact grown_drew (grown_alloc g1 _)
    have hX2 : w2.heap[w.heap.size]? = some (.cells o.arr 33 (0, 0)) := by rw [hw2]; exact (heap_alloc_old w1 _ hz1).trans hX1
    have hP2 : w2.heap[w1.heap.size]? = some (.cells #[.pointer (some ⟨q.x, 0, none⟩), .pointer (some ⟨q.bm, 0, none⟩)] 52 (0, 0)) := by rw [hw2]; exact heap_alloc_new w1 _
    clear hw2 o0 o1 o2 o3 o4 o5 o6 o7 o8 o9 o10 o11 o12 o13 o14 o15 of r0 r1 y0 hpick
    have st2 : ∀ T, StepS T own (relab own w) w w2 := fun T => (relab_step T own w).trans (grown_stepS g2)
    have hD2 : Dev N (relab own w) q.o w2 q.x q.m := D.keep hD (st2 (fun _ => False)) (by simp) (by simp)
    have hM2 : RefMod (relab own w) q.o w2 q.bm b0 b1 q.m a0 a1 := hM.keepS (st2 (fun _ => False)) (by simp) (by simp) (by simp) (by simp)
    have hz2 : w1.heap.size < w2.heap.size := blk_lt hP2
    refine (D.balance (c := 0) (user := o.d) (coin := o.p.coin) hD2 hud huc).mono ?_
    rintro e w3 ⟨rfl, g3⟩
    have hX3 := (g3.block _ (by omega) (by simp)).trans hX2
    have hP3 := (g3.block _ hz2 (by simp)).trans hP2
    obtain ⟨o0, o1, o2, o3, o4, o5, o6, o7, o8, o9, o10, o11, o12, o13, o14, o15, of⟩ := blkOp hX3
    obtain ⟨p0, p1, pf⟩ := blk2 hP3
    have hz : balM q.m 0 o.d o.p.coin = q.m.c0.get (hasAt o.d o.p.coin) := by
      unfold balM chainOf
      rw [if_pos (by omega)]
      rfl
    rw [hz]
    rw [hoc] at o2
    have c1' : decide (o.d < 0) = false := by simp; omega
    have c2' : decide (2 < o.d) = false := by simp; omega
    have c3' : decide (o.p.coin < 0) = false := by simp; omega
    have c4' : decide (1 < o.p.coin) = false := by simp; omega
    have hM3 : RefMod (relab own w) q.o w3 q.bm b0 b1 q.m a0 a1 := hM2.keepS (grown_stepS (T := fun _ => False) g3) (by simp) (by simp) (by simp) (by simp)
    obtain ⟨m0, m1, m2, mf⟩ := blk3 hM3.blk
    have hkk : hasAt o.d o.p.coin < 6 := by unfold hasAt; omega
    have hx := has_cell hM3.c0.blk hkk
    rw [show 7 + hasAt o.d o.p.coin = 7 + o.d.toNat * 2 + o.p.coin.toNat from by unfold hasAt; omega] at hx
    generalize q.m.c0.get (hasAt o.d o.p.coin) = G at hx
    obtain ⟨hd0, hd2⟩ := hd
    obtain ⟨hn0, hn1⟩ := hcn
    go_wp2_with fail
    go_quiet (fail)
    go_wp2_with fail
    go_ret
    exact ⟨rfl, relab own w, qs, h.same D ((st2 (fun _ => False)).trans (grown_stepS (grown_drewN g3 _))) (fun l hl => hl.elim) (by omega), (st2 _).trans (grown_stepS (grown_drewN g3 _))⟩

end Go.Proofs.YtmfdhcnnhlchbaaGreat

namespace Go.Proofs.YtmfdhcnnhlchbaaGreat
open Go.RowKit

set_option maxRecDepth 100000 in
set_option maxHeartbeats 1600000 in
theorem step_bal1 {Dev : Nat → (Nat → Nat) → Nat → World → Nat → Mod → Prop} {kd : Int → Prop} (D : DevSide Dev kd) {own : Nat → Nat} {w : World} {W N : Nat} {qs : List PairS} {o : OpV} (h : Inv Dev own w W qs N) (hN : N ≤ 900000)
    (hk : o.kind = 4) (hoc : o.c = 1) (hd : 0 ≤ o.d ∧ o.d ≤ 2) (hcn : 0 ≤ o.p.coin ∧ o.p.coin ≤ 1) (hud : -9223372036854775808 ≤ o.d ∧ o.d ≤ 9223372036854775807) (huc : -9223372036854775808 ≤ o.p.coin ∧ o.p.coin ≤ 9223372036854775807) (ha : -9223372036854775808 ≤ o.a ∧ o.a ≤ 9223372036854775807) (hq : 0 < qs.length) :
    Calls Tryz.prog 15 #[.pointer (some ⟨W, 0, none⟩), o.agg] w fun e w' => e = .returned (.bool true) ∧ StepTo Dev own w W N w' := by
  obtain ⟨ls, a, hW, hnl⟩ := h.wr
  have hil : pickV o.a qs.length < qs.length := pickV_lt o.a hq
  obtain ⟨i, hi⟩ : ∃ i, i = pickV o.a qs.length := ⟨_, rfl⟩
  have hpick := fun w => pick_is o.a qs.length w hq (by have := h.len; omega) ha
  rw [← hi] at hil hpick
  obtain ⟨q, hqi⟩ : ∃ q, qs[i]? = some q := ⟨_, List.getElem?_eq_getElem hil⟩
  obtain ⟨hD, ⟨b0, b1, a0, a1, hM⟩, hL, ho3⟩ := h.ok q (List.mem_of_getElem? hqi)
  have hps : (qs.map fun q => (q.x, q.bm))[i]? = some (q.x, q.bm) := by simp [hqi]
  have hrow := hW.bs
  obtain ⟨gb, hgb, _⟩ := owns_some' hrow (by simpa using hq)
  rw [hgb] at hrow
  obtain ⟨r0, r1⟩ := pair_cells hrow hps
  obtain ⟨y0, y1, y2, y3, yf⟩ := blk4 hW.blk
  rw [hgb] at y0
  simp only [List.length_map] at y0
  have hWl := blk_lt hW.blk
  have hgl : gb < w.heap.size := owns_lt hrow rfl
  have hq0 : ((qs.length : Int) == 0) = false := by rw [beq_eq_false_iff_ne]; omega
  have hil' : (i : Int) < (qs.length : Int) := by omega
  have HI : Hid (i = pickV o.a qs.length) := hi
  clear hi
  go_enter Tryz.func15, Tryz.ntmps15
  go_wp2_with fail
  obtain ⟨w1, hw1⟩ : ∃ w1 : World, w1 = w.alloc (.cells o.arr 33) := ⟨_, rfl⟩
  have g1 : w.grownBy w1 none := by rw [hw1]; exact World.grownBy_alloc _ _ _
  have hX1 : w1.heap[w.heap.size]? = some (.cells o.arr 33 (0, 0)) := by rw [hw1]; exact heap_alloc_new w _
  simp only [OpV.arr, hk, hoc] at hw1
  rw [← hw1]
  have hcell : ∀ b j v, b < w.heap.size → w.cell? ⟨b, j, none⟩ = some v → w1.cell? ⟨b, j, none⟩ = some v := fun b j v hb hv => (World.cell?_of_block (g1.block b hb (by simp))).trans hv
  replace r0 := hcell _ _ _ hgl r0
  replace r1 := hcell _ _ _ hgl r1
  replace y0 := hcell _ _ _ hWl y0
  obtain ⟨o0, o1, o2, o3, o4, o5, o6, o7, o8, o9, o10, o11, o12, o13, o14, o15, of⟩ := blkOp hX1
  have hz1 : w.heap.size < w1.heap.size := blk_lt hX1
  clear y1 y2 y3 yf hcell hw1
  go_region_held3 (fun w' => w'.cell? ⟨W, 0, none⟩ = some (.slice (some ⟨gb, 0, none⟩) qs.length a.cb) ∧ w'.cell? ⟨w.heap.size, 1, none⟩ = some (.int .i64 o.a) ∧ w'.cell? ⟨gb, i * 2, none⟩ = some (.pointer (some ⟨q.x, 0, none⟩)) ∧ w'.cell? ⟨gb, i * 2 + 1, none⟩ = some (.pointer (some ⟨q.bm, 0, none⟩))) (go_keep)
    (first | (go_at_call 20; refine (hpick _).mono ?_; rintro e w' ⟨rfl, rfl⟩))
  all_goals
    go_wp2_with fail
    obtain ⟨w2, hw2⟩ : ∃ w2 : World, w2 = (w1.alloc (.cells #[.pointer (some ⟨q.x, 0, none⟩), .pointer (some ⟨q.bm, 0, none⟩)] 52)).drew := ⟨_, rfl⟩
    rw [← hw2]
    have g2 : w.grownBy w2 none := by rw [hw2]; exact grown_drew (grown_alloc g1 _)
    have hX2 : w2.heap[w.heap.size]? = some (.cells o.arr 33 (0, 0)) := by rw [hw2]; exact (heap_alloc_old w1 _ hz1).trans hX1
    have hP2 : w2.heap[w1.heap.size]? = some (.cells #[.pointer (some ⟨q.x, 0, none⟩), .pointer (some ⟨q.bm, 0, none⟩)] 52 (0, 0)) := by rw [hw2]; exact heap_alloc_new w1 _
    clear hw2 o0 o1 o2 o3 o4 o5 o6 o7 o8 o9 o10 o11 o12 o13 o14 o15 of r0 r1 y0 hpick
    have st2 : ∀ T, StepS T own (relab own w) w w2 := fun T => (relab_step T own w).trans (grown_stepS g2)
    have hD2 : Dev N (relab own w) q.o w2 q.x q.m := D.keep hD (st2 (fun _ => False)) (by simp) (by simp)
    have hM2 : RefMod (relab own w) q.o w2 q.bm b0 b1 q.m a0 a1 := hM.keepS (st2 (fun _ => False)) (by simp) (by simp) (by simp) (by simp)
    have hz2 : w1.heap.size < w2.heap.size := blk_lt hP2
    refine (D.balance (c := 1) (user := o.d) (coin := o.p.coin) hD2 hud huc).mono ?_
    rintro e w3 ⟨rfl, g3⟩
    have hX3 := (g3.block _ (by omega) (by simp)).trans hX2
    have hP3 := (g3.block _ hz2 (by simp)).trans hP2
    obtain ⟨o0, o1, o2, o3, o4, o5, o6, o7, o8, o9, o10, o11, o12, o13, o14, o15, of⟩ := blkOp hX3
    obtain ⟨p0, p1, pf⟩ := blk2 hP3
    have hz : balM q.m 1 o.d o.p.coin = q.m.c1.get (hasAt o.d o.p.coin) := by
      unfold balM chainOf
      rw [if_pos (by omega)]
      rfl
    rw [hz]
    rw [hoc] at o2
    have c1' : decide (o.d < 0) = false := by simp; omega
    have c2' : decide (2 < o.d) = false := by simp; omega
    have c3' : decide (o.p.coin < 0) = false := by simp; omega
    have c4' : decide (1 < o.p.coin) = false := by simp; omega
    have hM3 : RefMod (relab own w) q.o w3 q.bm b0 b1 q.m a0 a1 := hM2.keepS (grown_stepS (T := fun _ => False) g3) (by simp) (by simp) (by simp) (by simp)
    obtain ⟨m0, m1, m2, mf⟩ := blk3 hM3.blk
    have hkk : hasAt o.d o.p.coin < 6 := by unfold hasAt; omega
    have hx := has_cell hM3.c1.blk hkk
    rw [show 7 + hasAt o.d o.p.coin = 7 + o.d.toNat * 2 + o.p.coin.toNat from by unfold hasAt; omega] at hx
    generalize q.m.c1.get (hasAt o.d o.p.coin) = G at hx
    obtain ⟨hd0, hd2⟩ := hd
    obtain ⟨hn0, hn1⟩ := hcn
    go_wp2_with fail
    go_quiet (fail)
    go_wp2_with fail
    go_ret
    exact ⟨rfl, relab own w, qs, h.same D ((st2 (fun _ => False)).trans (grown_stepS (grown_drewN g3 _))) (fun l hl => hl.elim) (by omega), (st2 _).trans (grown_stepS (grown_drewN g3 _))⟩

end Go.Proofs.YtmfdhcnnhlchbaaGreat

namespace Go.Proofs.YtmfdhcnnhlchbaaGreat
open Go.RowKit

set_option maxRecDepth 100000 in
set_option maxHeartbeats 1600000 in
theorem step_balBad0 {Dev : Nat → (Nat → Nat) → Nat → World → Nat → Mod → Prop} {kd : Int → Prop} (D : DevSide Dev kd) {own : Nat → Nat} {w : World} {W N : Nat} {qs : List PairS} {o : OpV} (h : Inv Dev own w W qs N) (hN : N ≤ 900000)
    (hk : o.kind = 4) (hoc : o.c = 0) (hbad : o.d < 0 ∨ 2 < o.d ∨ o.p.coin < 0 ∨ 1 < o.p.coin) (hud : -9223372036854775808 ≤ o.d ∧ o.d ≤ 9223372036854775807) (huc : -9223372036854775808 ≤ o.p.coin ∧ o.p.coin ≤ 9223372036854775807) (ha : -9223372036854775808 ≤ o.a ∧ o.a ≤ 9223372036854775807) (hq : 0 < qs.length) :
    Calls Tryz.prog 15 #[.pointer (some ⟨W, 0, none⟩), o.agg] w fun e w' => e = .returned (.bool true) ∧ StepTo Dev own w W N w' := by
  obtain ⟨ls, a, hW, hnl⟩ := h.wr
  have hil : pickV o.a qs.length < qs.length := pickV_lt o.a hq
  obtain ⟨i, hi⟩ : ∃ i, i = pickV o.a qs.length := ⟨_, rfl⟩
  have hpick := fun w => pick_is o.a qs.length w hq (by have := h.len; omega) ha
  rw [← hi] at hil hpick
  obtain ⟨q, hqi⟩ : ∃ q, qs[i]? = some q := ⟨_, List.getElem?_eq_getElem hil⟩
  obtain ⟨hD, ⟨b0, b1, a0, a1, hM⟩, hL, ho3⟩ := h.ok q (List.mem_of_getElem? hqi)
  have hps : (qs.map fun q => (q.x, q.bm))[i]? = some (q.x, q.bm) := by simp [hqi]
  have hrow := hW.bs
  obtain ⟨gb, hgb, _⟩ := owns_some' hrow (by simpa using hq)
  rw [hgb] at hrow
  obtain ⟨r0, r1⟩ := pair_cells hrow hps
  obtain ⟨y0, y1, y2, y3, yf⟩ := blk4 hW.blk
  rw [hgb] at y0
  simp only [List.length_map] at y0
  have hWl := blk_lt hW.blk
  have hgl : gb < w.heap.size := owns_lt hrow rfl
  have hq0 : ((qs.length : Int) == 0) = false := by rw [beq_eq_false_iff_ne]; omega
  have hil' : (i : Int) < (qs.length : Int) := by omega
  have HI : Hid (i = pickV o.a qs.length) := hi
  clear hi
  go_enter Tryz.func15, Tryz.ntmps15
  go_wp2_with fail
  obtain ⟨w1, hw1⟩ : ∃ w1 : World, w1 = w.alloc (.cells o.arr 33) := ⟨_, rfl⟩
  have g1 : w.grownBy w1 none := by rw [hw1]; exact World.grownBy_alloc _ _ _
  have hX1 : w1.heap[w.heap.size]? = some (.cells o.arr 33 (0, 0)) := by rw [hw1]; exact heap_alloc_new w _
  simp only [OpV.arr, hk, hoc] at hw1
  rw [← hw1]
  have hcell : ∀ b j v, b < w.heap.size → w.cell? ⟨b, j, none⟩ = some v → w1.cell? ⟨b, j, none⟩ = some v := fun b j v hb hv => (World.cell?_of_block (g1.block b hb (by simp))).trans hv
  replace r0 := hcell _ _ _ hgl r0
  replace r1 := hcell _ _ _ hgl r1
  replace y0 := hcell _ _ _ hWl y0
  obtain ⟨o0, o1, o2, o3, o4, o5, o6, o7, o8, o9, o10, o11, o12, o13, o14, o15, of⟩ := blkOp hX1
  have hz1 : w.heap.size < w1.heap.size := blk_lt hX1
  clear y1 y2 y3 yf hcell hw1
  go_region_held3 (fun w' => w'.cell? ⟨W, 0, none⟩ = some (.slice (some ⟨gb, 0, none⟩) qs.length a.cb) ∧ w'.cell? ⟨w.heap.size, 1, none⟩ = some (.int .i64 o.a) ∧ w'.cell? ⟨gb, i * 2, none⟩ = some (.pointer (some ⟨q.x, 0, none⟩)) ∧ w'.cell? ⟨gb, i * 2 + 1, none⟩ = some (.pointer (some ⟨q.bm, 0, none⟩))) (go_keep)
    (first | (go_at_call 20; refine (hpick _).mono ?_; rintro e w' ⟨rfl, rfl⟩))
  all_goals
    go_wp2_with fail
    obtain ⟨w2, hw2⟩ : ∃ w2 : World, w2 = (w1.alloc (.cells #[.pointer (some ⟨q.x, 0, none⟩), .pointer (some ⟨q.bm, 0, none⟩)] 52)).drew := ⟨_, rfl⟩
    rw [← hw2]
    have g2 : w.grownBy w2 none := by rw [hw2]; exact grown_drew (grown_alloc g1 _)
    have hX2 : w2.heap[w.heap.size]? = some (.cells o.arr 33 (0, 0)) := by rw [hw2]; exact (heap_alloc_old w1 _ hz1).trans hX1
    have hP2 : w2.heap[w1.heap.size]? = some (.cells #[.pointer (some ⟨q.x, 0, none⟩), .pointer (some ⟨q.bm, 0, none⟩)] 52 (0, 0)) := by rw [hw2]; exact heap_alloc_new w1 _
    clear hw2 o0 o1 o2 o3 o4 o5 o6 o7 o8 o9 o10 o11 o12 o13 o14 o15 of r0 r1 y0 hpick
    have st2 : ∀ T, StepS T own (relab own w) w w2 := fun T => (relab_step T own w).trans (grown_stepS g2)
    have hD2 : Dev N (relab own w) q.o w2 q.x q.m := D.keep hD (st2 (fun _ => False)) (by simp) (by simp)
    have hM2 : RefMod (relab own w) q.o w2 q.bm b0 b1 q.m a0 a1 := hM.keepS (st2 (fun _ => False)) (by simp) (by simp) (by simp) (by simp)
    have hz2 : w1.heap.size < w2.heap.size := blk_lt hP2
    refine (D.balance (c := 0) (user := o.d) (coin := o.p.coin) hD2 hud huc).mono ?_
    rintro e w3 ⟨rfl, g3⟩
    have hX3 := (g3.block _ (by omega) (by simp)).trans hX2
    have hP3 := (g3.block _ hz2 (by simp)).trans hP2
    obtain ⟨o0, o1, o2, o3, o4, o5, o6, o7, o8, o9, o10, o11, o12, o13, o14, o15, of⟩ := blkOp hX3
    obtain ⟨p0, p1, pf⟩ := blk2 hP3
    have hz : balM q.m 0 o.d o.p.coin = 0 := by
      unfold balM
      rw [if_neg (by omega)]
    rw [hz]
    rw [hoc] at o2
    have hb : decide (o.d < 0) = true ∨ decide (o.d < 0) = false ∧ (decide (2 < o.d) = true ∨ decide (2 < o.d) = false ∧ (decide (o.p.coin < 0) = true ∨ decide (o.p.coin < 0) = false ∧ decide (1 < o.p.coin) = true)) := by simp; omega
    clear hbad
    rcases hb with b1 | ⟨b1, b2 | ⟨b2, b3 | ⟨b3, b4⟩⟩⟩
    all_goals
      go_wp2_with fail
      go_ret
      exact ⟨rfl, relab own w, qs, h.same D ((st2 (fun _ => False)).trans (grown_stepS g3)) (fun l hl => hl.elim) (by omega), (st2 _).trans (grown_stepS g3)⟩

end Go.Proofs.YtmfdhcnnhlchbaaGreat

namespace Go.Proofs.YtmfdhcnnhlchbaaGreat
open Go.RowKit

set_option maxRecDepth 100000 in
set_option maxHeartbeats 1600000 in
theorem step_balBad1 {Dev : Nat → (Nat → Nat) → Nat → World → Nat → Mod → Prop} {kd : Int → Prop} (D : DevSide Dev kd) {own : Nat → Nat} {w : World} {W N : Nat} {qs : List PairS} {o : OpV} (h : Inv Dev own w W qs N) (hN : N ≤ 900000)
    (hk : o.kind = 4) (hoc : o.c = 1) (hbad : o.d < 0 ∨ 2 < o.d ∨ o.p.coin < 0 ∨ 1 < o.p.coin) (hud : -9223372036854775808 ≤ o.d ∧ o.d ≤ 9223372036854775807) (huc : -9223372036854775808 ≤ o.p.coin ∧ o.p.coin ≤ 9223372036854775807) (ha : -9223372036854775808 ≤ o.a ∧ o.a ≤ 9223372036854775807) (hq : 0 < qs.length) :
    Calls Tryz.prog 15 #[.pointer (some ⟨W, 0, none⟩), o.agg] w fun e w' => e = .returned (.bool true) ∧ StepTo Dev own w W N w' := by
  obtain ⟨ls, a, hW, hnl⟩ := h.wr
  have hil : pickV o.a qs.length < qs.length := pickV_lt o.a hq
  obtain ⟨i, hi⟩ : ∃ i, i = pickV o.a qs.length := ⟨_, rfl⟩
  have hpick := fun w => pick_is o.a qs.length w hq (by have := h.len; omega) ha
  rw [← hi] at hil hpick
  obtain ⟨q, hqi⟩ : ∃ q, qs[i]? = some q := ⟨_, List.getElem?_eq_getElem hil⟩
  obtain ⟨hD, ⟨b0, b1, a0, a1, hM⟩, hL, ho3⟩ := h.ok q (List.mem_of_getElem? hqi)
  have hps : (qs.map fun q => (q.x, q.bm))[i]? = some (q.x, q.bm) := by simp [hqi]
  have hrow := hW.bs
  obtain ⟨gb, hgb, _⟩ := owns_some' hrow (by simpa using hq)
  rw [hgb] at hrow
  obtain ⟨r0, r1⟩ := pair_cells hrow hps
  obtain ⟨y0, y1, y2, y3, yf⟩ := blk4 hW.blk
  rw [hgb] at y0
  simp only [List.length_map] at y0
  have hWl := blk_lt hW.blk
  have hgl : gb < w.heap.size := owns_lt hrow rfl
  have hq0 : ((qs.length : Int) == 0) = false := by rw [beq_eq_false_iff_ne]; omega
  have hil' : (i : Int) < (qs.length : Int) := by omega
  have HI : Hid (i = pickV o.a qs.length) := hi
  clear hi
  go_enter Tryz.func15, Tryz.ntmps15
  go_wp2_with fail
  obtain ⟨w1, hw1⟩ : ∃ w1 : World, w1 = w.alloc (.cells o.arr 33) := ⟨_, rfl⟩
  have g1 : w.grownBy w1 none := by rw [hw1]; exact World.grownBy_alloc _ _ _
  have hX1 : w1.heap[w.heap.size]? = some (.cells o.arr 33 (0, 0)) := by rw [hw1]; exact heap_alloc_new w _
  simp only [OpV.arr, hk, hoc] at hw1
  rw [← hw1]
  have hcell : ∀ b j v, b < w.heap.size → w.cell? ⟨b, j, none⟩ = some v → w1.cell? ⟨b, j, none⟩ = some v := fun b j v hb hv => (World.cell?_of_block (g1.block b hb (by simp))).trans hv
  replace r0 := hcell _ _ _ hgl r0
  replace r1 := hcell _ _ _ hgl r1
  replace y0 := hcell _ _ _ hWl y0
  obtain ⟨o0, o1, o2, o3, o4, o5, o6, o7, o8, o9, o10, o11, o12, o13, o14, o15, of⟩ := blkOp hX1
  have hz1 : w.heap.size < w1.heap.size := blk_lt hX1
  clear y1 y2 y3 yf hcell hw1
  go_region_held3 (fun w' => w'.cell? ⟨W, 0, none⟩ = some (.slice (some ⟨gb, 0, none⟩) qs.length a.cb) ∧ w'.cell? ⟨w.heap.size, 1, none⟩ = some (.int .i64 o.a) ∧ w'.cell? ⟨gb, i * 2, none⟩ = some (.pointer (some ⟨q.x, 0, none⟩)) ∧ w'.cell? ⟨gb, i * 2 + 1, none⟩ = some (.pointer (some ⟨q.bm, 0, none⟩))) (go_keep)
    (first | (go_at_call 20; refine (hpick _).mono ?_; rintro e w' ⟨rfl, rfl⟩))
  all_goals
    go_wp2_with fail
    obtain ⟨w2, hw2⟩ : ∃ w2 : World, w2 = (w1.alloc (.cells #[.pointer (some ⟨q.x, 0, none⟩), .pointer (some ⟨q.bm, 0, none⟩)] 52)).drew := ⟨_, rfl⟩
    rw [← hw2]
    have g2 : w.grownBy w2 none := by rw [hw2]; exact grown_drew (grown_alloc g1 _)
    have hX2 : w2.heap[w.heap.size]? = some (.cells o.arr 33 (0, 0)) := by rw [hw2]; exact (heap_alloc_old w1 _ hz1).trans hX1
    have hP2 : w2.heap[w1.heap.size]? = some (.cells #[.pointer (some ⟨q.x, 0, none⟩), .pointer (some ⟨q.bm, 0, none⟩)] 52 (0, 0)) := by rw [hw2]; exact heap_alloc_new w1 _
    clear hw2 o0 o1 o2 o3 o4 o5 o6 o7 o8 o9 o10 o11 o12 o13 o14 o15 of r0 r1 y0 hpick
    have st2 : ∀ T, StepS T own (relab own w) w w2 := fun T => (relab_step T own w).trans (grown_stepS g2)
    have hD2 : Dev N (relab own w) q.o w2 q.x q.m := D.keep hD (st2 (fun _ => False)) (by simp) (by simp)
    have hM2 : RefMod (relab own w) q.o w2 q.bm b0 b1 q.m a0 a1 := hM.keepS (st2 (fun _ => False)) (by simp) (by simp) (by simp) (by simp)
    have hz2 : w1.heap.size < w2.heap.size := blk_lt hP2
    refine (D.balance (c := 1) (user := o.d) (coin := o.p.coin) hD2 hud huc).mono ?_
    rintro e w3 ⟨rfl, g3⟩
    have hX3 := (g3.block _ (by omega) (by simp)).trans hX2
    have hP3 := (g3.block _ hz2 (by simp)).trans hP2
    obtain ⟨o0, o1, o2, o3, o4, o5, o6, o7, o8, o9, o10, o11, o12, o13, o14, o15, of⟩ := blkOp hX3
    obtain ⟨p0, p1, pf⟩ := blk2 hP3
    have hz : balM q.m 1 o.d o.p.coin = 0 := by
      unfold balM
      rw [if_neg (by omega)]
    rw [hz]
    rw [hoc] at o2
    have hb : decide (o.d < 0) = true ∨ decide (o.d < 0) = false ∧ (decide (2 < o.d) = true ∨ decide (2 < o.d) = false ∧ (decide (o.p.coin < 0) = true ∨ decide (o.p.coin < 0) = false ∧ decide (1 < o.p.coin) = true)) := by simp; omega
    clear hbad
    rcases hb with b1 | ⟨b1, b2 | ⟨b2, b3 | ⟨b3, b4⟩⟩⟩
    all_goals
      go_wp2_with fail
      go_ret
      exact ⟨rfl, relab own w, qs, h.same D ((st2 (fun _ => False)).trans (grown_stepS g3)) (fun l hl => hl.elim) (by omega), (st2 _).trans (grown_stepS g3)⟩

end Go.Proofs.YtmfdhcnnhlchbaaGreat
